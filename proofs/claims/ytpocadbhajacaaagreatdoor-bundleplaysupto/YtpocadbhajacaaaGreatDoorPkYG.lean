/-
  Texts one behind the other: Bxp Bxq Bxr Bxs Byn Byo Bxt Byp Zlp Jpl Byd Bys Byw.
-/
import Derived.Test.YtpocadbhajacaaaGreatDoorPkYF
import Derived.Test.YtpocadbhajacaaaGreatDoorPkYD
import Derived.Test.YtpocadbhajacaaaGreatDoorPkYB
import Derived.Test.YtpocadbhajacaaaGreatDoorPkYE
import Derived.Test.YtpocadbhajacaaaGreatDoorFr
import Derived.Test.YtpocadbhajacaaaGreatDoorKmj
import Derived.Deep.Matrix
import Derived.Test.YtpocadbhajacaaaGreatDoorPkYA
import Derived.Test.YtpocadbhajacaaaGreatDoorNw
import Derived.Test.YtpocadbhajacaaaGreatDoorMe
import Derived.Test.YtpocadbhajacaaaGreatDoorPkYC
import Derived.Deep.QuietTactic
import Derived.Test.YtpocadbhajacaaaGreatDoorKmh
import Derived.Test.YtpocadbhajacaaaGreatDoorKmi
import Derived.Deep.Cut
import Derived.OwnWalk

/-
  Trim: the files behind are removed, the one that the leaf lies in is cut.
-/
namespace Go.Proofs.YtpocadbhajacaaaGreatDoor
open Go.RowKit Go.Shelf
set_option linter.unusedVariables false
set_option linter.unusedSimpArgs false
set_option maxRecDepth 100000

/-- The raw writes of removals. -/
def trRb (rs : List Rw) (ns : List ByteArray) : List Rw := rs ++ ns.map rRm
theorem trRb_nil (rs : List Rw) : trRb rs [] = rs := by simp [trRb]
theorem trRb_snoc (rs : List Rw) (ns : List ByteArray) (n : ByteArray) : trRb rs (ns ++ [n]) = trRb rs ns ++ [rRm n] := by simp [trRb]
theorem trRb_play (rs : List Rw) : ∀ (ns : List ByteArray) (n : ByteArray), (n ∈ ns → play (trRb rs ns) n = none) ∧ (n ∉ ns → play (trRb rs ns) n = play rs n) := by
  intro ns
  induction ns generalizing rs with
  | nil => intro n; exact ⟨fun h => (by cases h), fun _ => by rw [trRb_nil]⟩
  | cons a t ih =>
    intro n
    have e : trRb rs (a :: t) = trRb (rs ++ [rRm a]) t := by simp [trRb]
    obtain ⟨h1, h2⟩ := ih (rs ++ [rRm a]) n
    rw [e]
    rw [play_snoc, do_rm] at h2
    constructor
    · intro hm
      by_cases h3 : n ∈ t
      · exact h1 h3
      · rcases List.mem_cons.1 hm with rfl | hm
        · rw [h2 h3, upd_same]
        · exact absurd hm h3
    · intro hm
      rw [h2 (fun h => hm (List.mem_cons_of_mem _ h)), upd_ne _ _ (fun h => hm (by rw [h]; simp))]
theorem trRb_wt (rs : List Rw) (ns : List ByteArray) : wt (trRb rs ns) ≤ wt rs + ns.length := by
  have key : ∀ ns : List ByteArray, wt (ns.map rRm) ≤ ns.length := by
    intro ns
    induction ns with
    | nil => simp [wt]
    | cons a t ih =>
      rw [List.map_cons, ← List.singleton_append, wt_app, List.length_cons]
      have e : wt [rRm a] ≤ 1 := by simp [wt, rRm]
      omega
  unfold trRb
  rw [wt_app]
  have := key ns
  omega
/-- The files that are removed, in their order. -/
def trNb (H n : Nat) (ls : List (ByteArray × List Int)) : List ByteArray := (bhL H n (ls.map (·.1))).reverse
theorem trNb_mem {F : ByteArray → Option (List Int)} {ls : List (ByteArray × List Int)} (hl : FL F ls) {H n : Nat} {x : ByteArray} : x ∈ trNb H n ls ↔ F x ≠ none ∧ ∃ q, q * 2 ^ H < 1048576 ∧ n ≤ q * 2 ^ H ∧ x = lfN H q := by
  unfold trNb bhL
  rw [List.mem_reverse, List.mem_filter, BhB_iff]
  refine and_congr_left fun _ => ?_
  constructor
  · intro h
    obtain ⟨⟨m, xs⟩, h1, rfl⟩ := List.mem_map.1 h
    have h2 := (hl.mem m xs).2 h1
    exact fun e => by rw [h2] at e; cases e
  · intro h
    cases hx : F x with
    | none => exact absurd hx h
    | some xs => exact List.mem_map.2 ⟨(x, xs), (hl.mem x xs).1 hx, rfl⟩
theorem trNb_nodup {F : ByteArray → Option (List Int)} {ls : List (ByteArray × List Int)} (hl : FL F ls) (H n : Nat) : (trNb H n ls).Nodup := by
  unfold trNb bhL
  have h1 := hl.nodup
  unfold List.Nodup at *
  rw [List.pairwise_reverse]
  exact (h1.filter _).imp fun h e => h e.symm
theorem trNb_le (H n : Nat) (ls : List (ByteArray × List Int)) : (trNb H n ls).length ≤ ls.length := by
  unfold trNb
  rw [List.length_reverse]
  have := bhL_le H n (ls.map (·.1))
  rw [List.length_map] at this
  exact this
/-- What Trim leaves. -/
def trZb (H n : Nat) (rs : List Rw) (ls : List (ByteArray × List Int)) : Nat := offL (wl (2 ^ H) (fl (play (trRb rs (trNb H n ls))) (lfN H (n / 2 ^ H)))) (n % 2 ^ H)
def trSb (H n : Nat) (rs : List Rw) (ls : List (ByteArray × List Int)) : List Rw := cuS (trRb rs (trNb H n ls)) (lfN H (n / 2 ^ H)) ((trZb H n rs ls : Nat) : Int)
theorem trRb_fE {rs : List Rw} {ls : List (ByteArray × List Int)} (hN : Nmd (play rs)) (hl : FL (play rs) ls) {H n k : Nat} {x : ByteArray} (hq : (trNb H n ls)[k]? = some x) : fE (trRb rs ((trNb H n ls).take k)) x = 0 := by
  have hm := List.mem_of_getElem? hq
  have h1 := ((trNb_mem hl).1 hm).1
  have hnd := trNb_nodup hl H n
  have hnot : x ∉ (trNb H n ls).take k := fun hx => by
    obtain ⟨i, hi, he⟩ := List.mem_iff_getElem.1 hx
    rw [List.length_take] at hi
    rw [List.getElem_take] at he
    obtain ⟨hk, e2⟩ := List.getElem?_eq_some_iff.1 hq
    have h3 := (List.pairwise_iff_getElem.1 hnd) i k (by omega) hk (by omega)
    exact h3 (he.trans e2.symm)
  have hp := (trRb_play rs ((trNb H n ls).take k) x).2 hnot
  have hnm : nmB x = true := by
    cases hb : nmB x with
    | true => rfl
    | false => exact absurd (hN x hb) h1
  cases hc : play rs x with
  | none => exact absurd hc h1
  | some ys => rw [hc] at hp; simp [fE, hnm, hp]
set_option maxHeartbeats 2000000 in
theorem trimB_ok (d s : Nat) (rs : List Rw) (D : Dm) (ls : List (ByteArray × List Int)) (H c n : Nat) (w0 w : World) (he0 : EV w0) (hb0 : Below w0.heap.size w0 w) (hown : ∀ k, D.own d k → w0.heap.size ≤ k) (hd : DkAt w d s rs D) (hl : FL (play rs) ls) (hh : hB H) (hc : CnL (play rs) H c) (hn : n ≤ c) (hls : ls.length ≤ 1000000) (hwt : wt rs + 1000002 ≤ 1099511000000) :
    Calls Tryz.prog 12 #[.pointer (some ⟨d, 0, none⟩), .int .i64 (H : Int), .int .i64 (n : Int)] w fun r w' => r = .returned (.int .i64 0) ∧ OpR w w' d s D (trSb H n rs ls) := by
  have hc9 := hc.le
  have HCU : Hid (∀ W : World, DkAt W d s rs D → PT W → Calls Tryz.prog 18 #[.pointer (some ⟨d, 0, none⟩), .int .i64 (H : Int)] W fun r w' => r = .returned (.tuple #[.int .i64 (c : Int), .int .i64 0]) ∧ Below W.heap.size W w') := hide (fun W h1 h2 => countB_ok d s rs D W h1 H c hh hc h2 (by omega))
  have HBH : Hid (∀ W : World, DkAt W d s rs D → EV W → Calls Tryz.prog 39 #[.pointer (some ⟨d, 0, none⟩), .int .i64 (H : Int), .int .i64 (n : Int)] W fun e w' => ∃ v, e = .returned v ∧ OwnN w' W.heap.size v (trNb H n ls) ∧ Below W.heap.size W w') := hide (fun W h1 h2 => behindB_any d s rs D ls H n W h1 hl hh (by omega) h2 (by omega) hls)
  have HFE : Hid (∀ k x, (trNb H n ls)[k]? = some x → fE (trRb rs ((trNb H n ls).take k)) x = 0) := hide (fun k x h => trRb_fE (Nmd.play hd.valS) hl h)
  have HD := hide hd
  have HE := hide (he0.below hb0)
  have HPT : Hid (∀ (W : World) (rs' : List Rw), OpR w W d s D rs' → PT W) := hide (fun W rs' h => by
    obtain ⟨D', _, h2, _, _⟩ := h
    exact he0.pt.below (hb0.trans (h2.below (fun q hq hq2 => by have := hown q hq2; omega) hb0.size)))
  have hjs : (trNb H n ls).length ≤ 1000000 := Nat.le_trans (trNb_le H n ls) hls
  have HW := hide hwt
  have hnc : ¬ (c : Int) < (n : Int) := by omega
  have hn0 : ¬ (n : Int) < 0 := by omega
  have hH8 : (H : Int) ≤ 8 := by have := hh.2; omega
  obtain ⟨P, HP⟩ : ∃ P, Hid (2 ^ H = P) := ⟨_, hide rfl⟩
  have hP := hh.pow
  have HWP := hide (wrap_powB hh HP.out)
  rw [HP.out] at hP
  have hq9 : n / P ≤ n := Nat.div_le_self _ _
  have HNM : Hid (∀ (W : World), PT W → Calls Tryz.prog 41 #[.int .i64 (H : Int), .int .i64 ((n / P : Nat) : Int)] W fun r w' => r = .returned (.string (lfN H (n / P))) ∧ Below W.heap.size W w') := hide (fun W hp => nameOf_any H (n / P) W hh (by omega) hp)
  have hrN : trSb H n rs ls = cuS (trRb rs (trNb H n ls)) (lfN H (n / P)) ((offL (wl P (fl (play (trRb rs (trNb H n ls))) (lfN H (n / P)))) (n % P) : Nat) : Int) := by unfold trSb trZb; rw [HP.out]
  rw [hrN]
  have HSO : Hid (∀ (W : World) (D1 : Dm), DkAt W d s (trRb rs (trNb H n ls)) D1 → PT W → Calls Tryz.prog 43 #[.pointer (some ⟨d, 0, none⟩), .int .i64 (H : Int), .string (lfN H (n / P)), .int .i64 ((n % P : Nat) : Int)] W fun r w' => r = .returned (.int .i64 ((offL (wl P (fl (play (trRb rs (trNb H n ls))) (lfN H (n / P)))) (n % P) : Nat) : Int)) ∧ Below W.heap.size W w') := hide (fun W D1 hW hp => by
    have hm := Nat.mod_lt n (show 0 < P by omega)
    have h1 := trRb_wt rs (trNb H n ls)
    have := sizeOf_any d s (trRb rs (trNb H n ls)) D1 W hW H (lfN H (n / P)) (n % P) hh (by omega) hp (by omega)
    rw [HP.out] at this
    exact this)
  have HCT : Hid (∀ (W : World) (D1 : Dm) (Z : Nat), DkAt W d s (trRb rs (trNb H n ls)) D1 → Calls Tryz.prog 42 #[.pointer (some ⟨d, 0, none⟩), .string (lfN H (n / P)), .int .i64 (Z : Int)] W fun e w' => e = .returned (.int .i64 (cuE (trRb rs (trNb H n ls)) (lfN H (n / P)) (Z : Int))) ∧ OpR W w' d s D1 (cuS (trRb rs (trNb H n ls)) (lfN H (n / P)) (Z : Int))) := hide (fun W D1 Z hW => cut_any d s (trRb rs (trNb H n ls)) D1 W hW (lfN H (n / P)) (Z : Int) (by
    have h1 := trRb_wt rs (trNb H n ls)
    omega))
  have HRV : Hid (∀ (k : Nat) (x : ByteArray), (trNb H n ls)[k]? = some x → ∀ (W : World) (D1 : Dm), DkAt W d s (trRb rs ((trNb H n ls).take k)) D1 → Calls Tryz.prog 40 #[.pointer (some ⟨d, 0, none⟩), .string x] W fun e w' => e = .returned (.int .i64 0) ∧ OpR W w' d s D1 (trRb rs ((trNb H n ls).take (k + 1)))) := hide (fun k x hx W D1 hW => by
    have h1 := trRb_wt rs ((trNb H n ls).take k)
    rw [List.length_take] at h1
    have := remove_any d s (trRb rs ((trNb H n ls).take k)) D1 W hW x (by omega)
    have hf := HFE.out k x hx
    have e2 : rmS (trRb rs ((trNb H n ls).take k)) x = trRb rs ((trNb H n ls).take (k + 1)) := by
      unfold rmS
      rw [if_pos hf, ← trRb_snoc, List.take_add_one, hx]
      rfl
    rw [hf, e2] at this
    exact this)
  have hZb : offL (wl P (fl (play (trRb rs (trNb H n ls))) (lfN H (n / P)))) (n % P) ≤ (fl (play (trRb rs (trNb H n ls))) (lfN H (n / P))).length := by
    refine offL_le ?_ _
    have hp := trRb_play rs (trNb H n ls) (lfN H (n / P))
    by_cases hm : lfN H (n / P) ∈ trNb H n ls
    · rw [fl_none (hp.1 hm)]
      intro x hx
      cases hx
    · have e : fl (play (trRb rs (trNb H n ls))) (lfN H (n / P)) = fl (play rs) (lfN H (n / P)) := by unfold fl; rw [hp.2 hm]
      rw [e]
      exact hd.byB _
  obtain ⟨Z, HZ⟩ : ∃ Z, Hid (offL (wl P (fl (play (trRb rs (trNb H n ls))) (lfN H (n / P)))) (n % P) = Z) := ⟨_, hide rfl⟩
  rw [HZ.out] at HSO hZb ⊢
  have hcu : cuE (trRb rs (trNb H n ls)) (lfN H (n / P)) (Z : Int) = 0 ∨ cuE (trRb rs (trNb H n ls)) (lfN H (n / P)) (Z : Int) = 121 := by
    have hnm := lfN_nm (k := n / P) hh (by omega)
    unfold cuE
    by_cases hf : fE (trRb rs (trNb H n ls)) (lfN H (n / P)) = 0
    · rw [if_pos hf, if_neg (by omega)]; exact .inl rfl
    · rw [if_neg hf]
      right
      unfold fE at hf ⊢
      rw [if_pos hnm] at hf ⊢
      split
      · rename_i h; rw [if_pos h] at hf; exact absurd rfl hf
      · rfl
  have HCUE := hide hcu
  obtain ⟨ns, HNS⟩ : ∃ ns, Hid (trNb H n ls = ns) := ⟨_, hide rfl⟩
  rw [HNS.out] at HSO HCT HRV HCUE HBH hjs ⊢
  obtain ⟨q, HQ⟩ : ∃ q, Hid (n / P = q) := ⟨_, hide rfl⟩
  obtain ⟨r, HR⟩ : ∃ r, Hid (n % P = r) := ⟨_, hide rfl⟩
  rw [HQ.out] at HNM HSO HCT HCUE ⊢
  rw [HR.out] at HSO
  have hrem : (n : Int).tmod (P : Int) = (r : Int) := by rw [← HR.out]; exact (Int.ofNat_tmod n P).symm
  have hshr : (n : Int) / 2 ^ H = (q : Int) := by rw [← HQ.out, ← HP.out, shrN]
  obtain ⟨hP1, hP2⟩ := hP
  generalize lfN H q = nm at *
  clear hd he0 hb0 hown hwt hl hls hc hh hcu hZb HFE HZ HNS hrN hq9
  go_enter Tryz.func12, Tryz.ntmps12
  go_wp2_with fail
  refine (HCU.out _ HD.out HE.out.pt).mono ?_
  rintro r' w2 ⟨rfl, hb2⟩
  have HB2 := hide hb2
  clear hb2
  go_wp2_with fail
  refine (HBH.out _ (HD.out.below HB2.out) (HE.out.below HB2.out)).mono ?_
  rintro r' w3 ⟨v, rfl, hrow, hb3⟩
  have HB3 := hide (on_below HB2.out hb3)
  have HRW := hide hrow
  obtain ⟨a, cp, hv2⟩ := OwnN.slice hrow
  subst hv2
  clear hrow hb3
  generalize hm : ns.length = m at *
  have HM := hide hm
  have hm1 : m ≤ 1000000 := by first | exact hjs | omega
  clear hm
  go_wp2
  go_loopw [32] (fun p wr => ∃ i : Nat, i ≤ m ∧ p = .int .i64 (i : Int) ∧ Hid (OpR w3 wr d s D (trRb rs (ns.take i)))) (fun p _ => m - (intOf p).toNat)
  case atStart => exact ⟨0, Nat.zero_le _, rfl, hide (by rw [List.take_zero, trRb_nil]; exact OpR.refl (HD.out.below HB3.out))⟩
  case round =>
    obtain ⟨k, hk, rfl, HOP⟩ := hrel
    by_cases hlt : k < m
    · have hlti : (k : Int) < (m : Int) := by omega
      have hkj : k < ns.length := by rw [HM.out]; exact hlt
      obtain ⟨D1, o1, o2, o3, o4⟩ := HOP.out
      obtain ⟨g, cap, cs, e1, hg, hcs, hcl⟩ := row_at HRW.out (by rw [HM.out]; omega)
      injection e1 with e1 e2 e3
      clear e2
      subst e1 e3
      have hix := atN g m cp k (k : Int) rfl hlt
      obtain ⟨x, hq⟩ : ∃ x, ns[k]? = some x := ⟨_, List.getElem?_eq_getElem hkj⟩
      have hnown : ¬ D.own d g := fun h => by
        have h1 := HD.out.lt (.inl h)
        have h2 := row_ge HRW.out (k := g) rfl
        have h3 := HB2.out.size
        omega
      have hc : wr.cell? ⟨g, k, none⟩ = some (.string x) := by
        rw [(hg.same (o2.block g hg.lt hnown)).cell]
        have h1 : (cs.take (ns.length * 1))[k]? = some (.string x) := by
          rw [hcs]
          exact nC_at ns k x hq
        rw [List.getElem?_take, if_pos (by omega)] at h1
        exact h1
      have HRMV := hide (HRV.out k x hq wr D1 o1)
      have HO := hide (And.intro o2 (And.intro o3 o4))
      clear hcs hcl hq hg o1 o2 o3 o4 hnown
      go_wp2_with fail
      refine HRMV.out.mono ?_
      rintro r' w4 ⟨rfl, ho⟩
      have HO4 := hide (OpR.comp HO.out.1 HO.out.2.1 HO.out.2.2 ho)
      clear ho HRMV
      go_wp2
      go_roundw
      case rel => exact ⟨k + 1, by omega, by go_num, HO4⟩
      case measure => simp only [intOf]; omega
    · have hlti : ¬ (k : Int) < (m : Int) := by omega
      have hkm : k = m := by omega
      subst hkm
      have hfin := HOP.out
      rw [List.take_of_length_le (by rw [HM.out]; exact Nat.le_refl _)] at hfin
      have HFIN := hide (OpR.pre HB3.out hfin)
      clear hfin HOP HRW HRV
      go_wp2_with fail
      refine (HNM.out _ (HPT.out _ _ HFIN.out)).mono ?_
      rintro e w8 ⟨rfl, hb8⟩
      have HF8 := hide (OpR.post HFIN.out hb8)
      clear hb8 HFIN HNM
      have hH0 : (0 : Int) ≤ (H : Int) := by omega
      go_wp2_with (rw [HWP.out])
      obtain ⟨D8, d1, d2, d3, d4⟩ := HF8.out
      refine (HSO.out _ D8 d1 (HPT.out _ _ HF8.out)).mono ?_
      rintro e w9 ⟨rfl, hb9⟩
      have HD9 := hide (d1.below hb9)
      have HF9 : Hid (∀ w10 : World, OpR w9 w10 d s D8 (cuS (trRb rs ns) nm (Z : Int)) → OpR w w10 d s D (cuS (trRb rs ns) nm (Z : Int))) := hide (fun w10 h10 => OpR.comp d2 d3 d4 (OpR.pre hb9 h10))
      clear hb9 d1 d2 d3 d4 HF8
      go_wp2_with fail
      refine (HCT.out _ D8 Z HD9.out).mono ?_
      rintro e w10 ⟨rfl, ho10⟩
      have HO10 := hide (HF9.out _ ho10)
      clear ho10
      rcases HCUE.out with h0 | h0
      · rw [h0]
        go_wp2
        go_ret
        exact ⟨rfl, HO10.out⟩
      · rw [h0]
        go_wp2
        go_ret
        exact ⟨rfl, HO10.out⟩

end Go.Proofs.YtpocadbhajacaaaGreatDoor

/-
  A height that was filled from nothing, leaf by leaf; what a loss of power leaves of it; what Trim makes of that. No program here.
-/
namespace Go.Proofs.YtpocadbhajacaaaGreatDoor
open Go.RowKit
set_option linter.unusedVariables false
set_option linter.unusedSimpArgs false
set_option maxRecDepth 100000

section
variable {F : ByteArray → Option (List Int)} {h : Nat} {xs : List (List Int)}
end

end Go.Proofs.YtpocadbhajacaaaGreatDoor

/-
  What a loss of power leaves of a height that was filled, and what Trim makes of it. No program here.
-/
namespace Go.Proofs.YtpocadbhajacaaaGreatDoor
open Go.RowKit
set_option linter.unusedVariables false
set_option linter.unusedSimpArgs false
set_option maxRecDepth 100000

theorem lfB_ne (x : List Int) : lfB x ≠ [] := by simp [lfB]
section
variable {F : ByteArray → Option (List Int)} {h : Nat} {ys : List (List Int)}
end
end Go.Proofs.YtpocadbhajacaaaGreatDoor

/-
  Leaves as an argument; those that may be; what Put, Read and Trim make of a height that was filled with them.
-/
namespace Go.Proofs.YtpocadbhajacaaaGreatDoor
open Go.ChangeShapes Go.WideShapes Go.ChangeAt Go.RowKit Go.Shelf
set_option linter.unusedVariables false
set_option linter.unusedSimpArgs false
set_option maxRecDepth 100000

/-! ### the leaves that may be -/
/-! ### a height that was filled -/
section
variable {s H : Nat} {rs : List Rw} {ys : List (List Int)}
end
section
variable {F : ByteArray → Option (List Int)} {h : Nat} {ys : List (List Int)}
end
theorem mod_cutB (q : Int) (N : Nat) (hN : N ≤ 1099511000000) : ∃ c : Nat, (wrap64 (q.tmod ((N + 1 : Nat) : Int) + ((N + 1 : Nat) : Int))).tmod ((N + 1 : Nat) : Int) = (c : Int) ∧ c ≤ N := by
  have hp : (0 : Int) < ((N + 1 : Nat) : Int) := by omega
  have h1 := Int.tmod_lt_of_pos q hp
  have h2 := Int.lt_tmod_of_pos q hp
  generalize q.tmod ((N + 1 : Nat) : Int) = r at *
  have hw : wrap64 (r + ((N + 1 : Nat) : Int)) = r + ((N + 1 : Nat) : Int) := by unfold wrap64; omega
  rw [hw]
  have h4 : 0 ≤ (r + ((N + 1 : Nat) : Int)).tmod ((N + 1 : Nat) : Int) := Int.tmod_nonneg _ (by omega)
  have h5 := Int.tmod_lt_of_pos (r + ((N + 1 : Nat) : Int)) hp
  exact ⟨((r + ((N + 1 : Nat) : Int)).tmod ((N + 1 : Nat) : Int)).toNat, by omega, by omega⟩
section
variable (d s : Nat) (rs : List Rw) (D : Dm) (w : World) (hd : DkAt w d s rs D)
include hd
end

end Go.Proofs.YtpocadbhajacaaaGreatDoor

/-
  The document's Number, whatever the most is.
-/
namespace Go.Proofs.YtpocadbhajacaaaGreatDoor
open Go.RowKit
set_option linter.unusedVariables false
set_option linter.unusedSimpArgs false

set_option maxRecDepth 100000 in
set_option maxHeartbeats 1000000 in
theorem num_most (s : ByteArray) (most : Nat) (w : World) (hs : s.size ≤ 16777216) (hmost : most ≤ 281474976710656) :
    Calls Tryz.prog 76 #[.string s, .int .i64 (most : Int)] w fun r w' => Below w.heap.size w w' ∧
      ((∃ u : Nat, nmO (strL s) = some u ∧ r = .returned (.tuple #[.int .i64 (u : Int), .bool (decide (u ≤ most))])) ∨ (nmO (strL s) = none ∧ ∃ x, r = .returned (.tuple #[.int .i64 x, .bool false]))) := by
  have hl : (strL s).length = s.size := strL_length s
  by_cases h0 : s.size < 1
  · have HN : Hid (nmO (strL s) = none) := hide (by
      cases hn : nmO (strL s) with
      | none => rfl
      | some u => have := (nmO_len hn).1; omega)
    have h0' : (s.size : Int) < 1 := by omega
    go_enter Tryz.func76, Tryz.ntmps76
    go_wp2
    go_ret2
    exact ⟨Below.refl _ _, .inr ⟨HN.out, _, rfl⟩⟩
  · have h0' : ¬ ((s.size : Int) < 1) := by omega
    by_cases h18 : 18 < s.size
    · have HN : Hid (nmO (strL s) = none) := hide (by
        cases hn : nmO (strL s) with
        | none => rfl
        | some u => have := (nmO_len hn).2.1; omega)
      have h18' : (18 : Int) < (s.size : Int) := by omega
      go_enter Tryz.func76, Tryz.ntmps76
      go_wp2
      go_ret2
      exact ⟨Below.refl _ _, .inr ⟨HN.out, _, rfl⟩⟩
    · have h18' : ¬ ((18 : Int) < (s.size : Int)) := by omega
      have hz : 0 < s.size := by omega
      have hg0 : (strL s).head? = some (s[0]'hz) := by
        rw [List.head?_eq_getElem?, List.getElem?_eq_getElem (by omega)]
        rfl
      by_cases h1 : 1 < s.size ∧ s[0]'hz = 48
      · have HN : Hid (nmO (strL s) = none) := hide (by
          cases hn : nmO (strL s) with
          | none => rfl
          | some u => exact absurd (by rw [hg0, h1.2]) ((nmO_len hn).2.2 (by omega)))
        have h1' : (1 : Int) < (s.size : Int) := by omega
        have hz' : (0 : Int) < (s.size : Int) := by omega
        have e48 : ((((s[0]'hz).toNat : Nat) : Int) == 48) = true := by rw [h1.2]; rfl
        clear h1 hg0
        go_enter Tryz.func76, Tryz.ntmps76
        go_wp2
        go_ret2
        exact ⟨Below.refl _ _, .inr ⟨HN.out, _, rfl⟩⟩
      · have HH : Hid (1 < (strL s).length → (strL s).head? ≠ some 48) := hide (fun h hh => h1 ⟨by omega, by rw [hg0] at hh; exact Option.some.inj hh⟩)
        have HX : Hid ((¬ (1 : Int) < (s.size : Int)) ∨ ((1 : Int) < (s.size : Int) ∧ ((((s[0]'hz).toNat : Nat) : Int) == 48) = false)) := hide (by
          by_cases h : 1 < s.size
          · right
            refine ⟨by omega, ?_⟩
            simp only [beq_eq_false_iff_ne, ne_eq]
            intro e
            refine h1 ⟨h, UInt8.toNat_inj.1 ?_⟩
            have : (s[0]'hz).toNat = 48 := by omega
            rw [this]; rfl
          · left; omega)
        have hz' : (0 : Int) < (s.size : Int) := by omega
        clear h1 hg0
        rcases HX.out with h1' | ⟨h1', e48⟩
        · clear HX
          go_enter Tryz.func76, Tryz.ntmps76
          go_wp2
          go_loopw [6, 7] (fun n i W => ∃ q m : Nat, q ≤ s.size ∧ n = .int .i64 (m : Int) ∧ i = .int .i64 (q : Int) ∧ Lib.decFrom 0 ((strL s).take q) = some m ∧ Below w.heap.size w W) (fun _ i _ => s.size - (intOf i).toNat)
          case atStart => exact ⟨0, 0, by omega, rfl, rfl, rfl, Below.refl _ _⟩
          case round =>
            obtain ⟨q, m, hq, rfl, rfl, hm, hbw⟩ := hrel
            have HM := hide hm
            have BQ := hide hbw
            have hml : m < 10 ^ q := by
              have := decFrom_lt _ _ _ hm
              rw [List.length_take, hl, Nat.min_eq_left hq] at this
              omega
            clear hm hbw
            by_cases hlt : q < s.size
            · have hlt' : (q : Int) < (s.size : Int) := by omega
              have hm17 : m < 100000000000000000 := Nat.lt_of_lt_of_le hml (Nat.le_trans (Nat.pow_le_pow_right (by decide) (show q ≤ 17 by omega)) (by decide))
              have hg : (strL s)[q]? = some (s[q]'hlt) := by rw [List.getElem?_eq_getElem (by omega)]; rfl
              clear hml
              by_cases hx : (s[q]'hlt).toNat < 48
              · have hx' : ((((s[q]'hlt).toNat : Nat) : Int)) < 48 := by omega
                have HN : Hid (nmO (strL s) = none) := hide (by
                  cases hn : nmO (strL s) with
                  | none => rfl
                  | some u =>
                    obtain ⟨d, hd⟩ := Lib.digit_of_decFrom _ _ _ (nmO_dec hn) q _ hg
                    unfold Lib.digitVal at hd
                    rw [if_neg (by omega)] at hd
                    cases hd)
                clear hg
                go_wp2
                go_ret2
                exact ⟨BQ.out, .inr ⟨HN.out, _, rfl⟩⟩
              · have hx' : ¬ ((((s[q]'hlt).toNat : Nat) : Int)) < 48 := by omega
                by_cases hy : 57 < (s[q]'hlt).toNat
                · have hy' : (57 : Int) < ((((s[q]'hlt).toNat : Nat) : Int)) := by omega
                  have HN : Hid (nmO (strL s) = none) := hide (by
                    cases hn : nmO (strL s) with
                    | none => rfl
                    | some u =>
                      obtain ⟨d, hd⟩ := Lib.digit_of_decFrom _ _ _ (nmO_dec hn) q _ hg
                      unfold Lib.digitVal at hd
                      rw [if_neg (by omega)] at hd
                      cases hd)
                  clear hg
                  go_wp2
                  go_ret2
                  exact ⟨BQ.out, .inr ⟨HN.out, _, rfl⟩⟩
                · have hy' : ¬ (57 : Int) < ((((s[q]'hlt).toNat : Nat) : Int)) := by omega
                  have HD : Hid (Lib.decFrom 0 ((strL s).take (q + 1)) = some (m * 10 + ((s[q]'hlt).toNat - 48))) := hide (Lib.decFrom_take _ _ _ _ _ _ HM.out hg (by unfold Lib.digitVal; rw [if_pos (by omega)]))
                  have hwm : IntKind.i64.wrap ((m : Int) * 10) = (m : Int) * 10 := by rw [IntKind.wrap_i64]; omega
                  have hwx : IntKind.u8.wrap (((((s[q]'hlt).toNat : Nat) : Int)) - 48) = ((((s[q]'hlt).toNat : Nat) : Int)) - 48 := by rw [IntKind.wrap_u8]; omega
                  have hwy : IntKind.i64.wrap (((((s[q]'hlt).toNat : Nat) : Int)) - 48) = ((((s[q]'hlt).toNat : Nat) : Int)) - 48 := by rw [IntKind.wrap_i64]; omega
                  have hwz : IntKind.i64.wrap ((m : Int) * 10 + (((((s[q]'hlt).toNat : Nat) : Int)) - 48)) = (m : Int) * 10 + (((((s[q]'hlt).toNat : Nat) : Int)) - 48) := by rw [IntKind.wrap_i64]; omega
                  have hwq : IntKind.i64.wrap ((q : Int) + 1) = (q : Int) + 1 := by rw [IntKind.wrap_i64]; omega
                  have HZ : Hid ((m : Int) * 10 + (((((s[q]'hlt).toNat : Nat) : Int)) - 48) = ((m * 10 + ((s[q]'hlt).toNat - 48) : Nat) : Int)) := hide (by omega)
                  clear hg
                  go_wp2
                  go_roundw
                  case rel => exact ⟨q + 1, m * 10 + ((s[q]'hlt).toNat - 48), by omega, by rw [← HZ.out], by simp, HD.out, BQ.out⟩
                  case measure => simp only [intOf]; omega
            · obtain rfl : q = s.size := by omega
              have hlt' : ¬ ((s.size : Int) < (s.size : Int)) := by omega
              have hdm : Lib.decFrom 0 (strL s) = some m := by
                have := HM.out
                rwa [List.take_of_length_le (by omega)] at this
              have hcn : Lib.decDigits m = strL s := dec_canon _ _ _ (Nat.le_refl _) (fun e => by rw [e] at hl; simp at hl; omega) HH.out hdm
              by_cases hle : m ≤ 281474976710656
              · have HN := hide (nmO_of hle hcn)
                clear hdm hcn hml
                by_cases hmm : m ≤ most
                · have hle' : (m : Int) ≤ (most : Int) := by omega
                  have hdd : decide (m ≤ most) = true := decide_eq_true hmm
                  go_wp2
                  go_ret2
                  exact ⟨BQ.out, .inl ⟨m, HN.out, by rw [hdd]; rfl⟩⟩
                · have hle' : ¬ (m : Int) ≤ (most : Int) := by omega
                  have hdd : decide (m ≤ most) = false := decide_eq_false hmm
                  go_wp2
                  go_ret2
                  exact ⟨BQ.out, .inl ⟨m, HN.out, by rw [hdd]; rfl⟩⟩
              · have hle' : ¬ (m : Int) ≤ (most : Int) := by omega
                have HN : Hid (nmO (strL s) = none) := hide (by
                  cases hn : nmO (strL s) with
                  | none => rfl
                  | some u =>
                    have e := nmO_dec hn
                    rw [hdm] at e
                    injection e with e
                    have := (nmO_some hn).1
                    omega)
                clear hdm hcn hml
                go_wp2
                go_ret2
                exact ⟨BQ.out, .inr ⟨HN.out, _, rfl⟩⟩
        · clear HX
          go_enter Tryz.func76, Tryz.ntmps76
          go_wp2
          go_loopw [6, 7] (fun n i W => ∃ q m : Nat, q ≤ s.size ∧ n = .int .i64 (m : Int) ∧ i = .int .i64 (q : Int) ∧ Lib.decFrom 0 ((strL s).take q) = some m ∧ Below w.heap.size w W) (fun _ i _ => s.size - (intOf i).toNat)
          case atStart => exact ⟨0, 0, by omega, rfl, rfl, rfl, Below.refl _ _⟩
          case round =>
            obtain ⟨q, m, hq, rfl, rfl, hm, hbw⟩ := hrel
            have HM := hide hm
            have BQ := hide hbw
            have hml : m < 10 ^ q := by
              have := decFrom_lt _ _ _ hm
              rw [List.length_take, hl, Nat.min_eq_left hq] at this
              omega
            clear hm hbw
            by_cases hlt : q < s.size
            · have hlt' : (q : Int) < (s.size : Int) := by omega
              have hm17 : m < 100000000000000000 := Nat.lt_of_lt_of_le hml (Nat.le_trans (Nat.pow_le_pow_right (by decide) (show q ≤ 17 by omega)) (by decide))
              have hg : (strL s)[q]? = some (s[q]'hlt) := by rw [List.getElem?_eq_getElem (by omega)]; rfl
              clear hml
              by_cases hx : (s[q]'hlt).toNat < 48
              · have hx' : ((((s[q]'hlt).toNat : Nat) : Int)) < 48 := by omega
                have HN : Hid (nmO (strL s) = none) := hide (by
                  cases hn : nmO (strL s) with
                  | none => rfl
                  | some u =>
                    obtain ⟨d, hd⟩ := Lib.digit_of_decFrom _ _ _ (nmO_dec hn) q _ hg
                    unfold Lib.digitVal at hd
                    rw [if_neg (by omega)] at hd
                    cases hd)
                clear hg
                go_wp2
                go_ret2
                exact ⟨BQ.out, .inr ⟨HN.out, _, rfl⟩⟩
              · have hx' : ¬ ((((s[q]'hlt).toNat : Nat) : Int)) < 48 := by omega
                by_cases hy : 57 < (s[q]'hlt).toNat
                · have hy' : (57 : Int) < ((((s[q]'hlt).toNat : Nat) : Int)) := by omega
                  have HN : Hid (nmO (strL s) = none) := hide (by
                    cases hn : nmO (strL s) with
                    | none => rfl
                    | some u =>
                      obtain ⟨d, hd⟩ := Lib.digit_of_decFrom _ _ _ (nmO_dec hn) q _ hg
                      unfold Lib.digitVal at hd
                      rw [if_neg (by omega)] at hd
                      cases hd)
                  clear hg
                  go_wp2
                  go_ret2
                  exact ⟨BQ.out, .inr ⟨HN.out, _, rfl⟩⟩
                · have hy' : ¬ (57 : Int) < ((((s[q]'hlt).toNat : Nat) : Int)) := by omega
                  have HD : Hid (Lib.decFrom 0 ((strL s).take (q + 1)) = some (m * 10 + ((s[q]'hlt).toNat - 48))) := hide (Lib.decFrom_take _ _ _ _ _ _ HM.out hg (by unfold Lib.digitVal; rw [if_pos (by omega)]))
                  have hwm : IntKind.i64.wrap ((m : Int) * 10) = (m : Int) * 10 := by rw [IntKind.wrap_i64]; omega
                  have hwx : IntKind.u8.wrap (((((s[q]'hlt).toNat : Nat) : Int)) - 48) = ((((s[q]'hlt).toNat : Nat) : Int)) - 48 := by rw [IntKind.wrap_u8]; omega
                  have hwy : IntKind.i64.wrap (((((s[q]'hlt).toNat : Nat) : Int)) - 48) = ((((s[q]'hlt).toNat : Nat) : Int)) - 48 := by rw [IntKind.wrap_i64]; omega
                  have hwz : IntKind.i64.wrap ((m : Int) * 10 + (((((s[q]'hlt).toNat : Nat) : Int)) - 48)) = (m : Int) * 10 + (((((s[q]'hlt).toNat : Nat) : Int)) - 48) := by rw [IntKind.wrap_i64]; omega
                  have hwq : IntKind.i64.wrap ((q : Int) + 1) = (q : Int) + 1 := by rw [IntKind.wrap_i64]; omega
                  have HZ : Hid ((m : Int) * 10 + (((((s[q]'hlt).toNat : Nat) : Int)) - 48) = ((m * 10 + ((s[q]'hlt).toNat - 48) : Nat) : Int)) := hide (by omega)
                  clear hg
                  go_wp2
                  go_roundw
                  case rel => exact ⟨q + 1, m * 10 + ((s[q]'hlt).toNat - 48), by omega, by rw [← HZ.out], by simp, HD.out, BQ.out⟩
                  case measure => simp only [intOf]; omega
            · obtain rfl : q = s.size := by omega
              have hlt' : ¬ ((s.size : Int) < (s.size : Int)) := by omega
              have hdm : Lib.decFrom 0 (strL s) = some m := by
                have := HM.out
                rwa [List.take_of_length_le (by omega)] at this
              have hcn : Lib.decDigits m = strL s := dec_canon _ _ _ (Nat.le_refl _) (fun e => by rw [e] at hl; simp at hl; omega) HH.out hdm
              by_cases hle : m ≤ 281474976710656
              · have HN := hide (nmO_of hle hcn)
                clear hdm hcn hml
                by_cases hmm : m ≤ most
                · have hle' : (m : Int) ≤ (most : Int) := by omega
                  have hdd : decide (m ≤ most) = true := decide_eq_true hmm
                  go_wp2
                  go_ret2
                  exact ⟨BQ.out, .inl ⟨m, HN.out, by rw [hdd]; rfl⟩⟩
                · have hle' : ¬ (m : Int) ≤ (most : Int) := by omega
                  have hdd : decide (m ≤ most) = false := decide_eq_false hmm
                  go_wp2
                  go_ret2
                  exact ⟨BQ.out, .inl ⟨m, HN.out, by rw [hdd]; rfl⟩⟩
              · have hle' : ¬ (m : Int) ≤ (most : Int) := by omega
                have HN : Hid (nmO (strL s) = none) := hide (by
                  cases hn : nmO (strL s) with
                  | none => rfl
                  | some u =>
                    have e := nmO_dec hn
                    rw [hdm] at e
                    injection e with e
                    have := (nmO_some hn).1
                    omega)
                clear hdm hcn hml
                go_wp2
                go_ret2
                exact ⟨BQ.out, .inr ⟨HN.out, _, rfl⟩⟩

end Go.Proofs.YtpocadbhajacaaaGreatDoor

/-
  The document's number of a file's name.
-/
namespace Go.Proofs.YtpocadbhajacaaaGreatDoor
open Go.RowKit
set_option linter.unusedVariables false
set_option linter.unusedSimpArgs false
set_option maxRecDepth 100000

theorem strip_any {e : List UInt8} {z q : Nat} (hl : jD q = List.replicate z 48 ++ e) (he : e ≠ []) (hend : ¬ (1 < e.length ∧ e.head? = some 48)) : e = Lib.decDigits q := by
  have hp := dec_pos q
  rcases Nat.eq_zero_or_pos q with rfl | hq
  · have hd : jD 0 = List.replicate 6 48 := by unfold jD; kernel_rfl
    have hz : e = List.replicate e.length 48 := by
      rw [hd] at hl
      have h1 : ∀ x ∈ e, x = 48 := fun x hx => by
        have : x ∈ List.replicate 6 (48 : UInt8) := by rw [hl]; exact List.mem_append_right _ hx
        exact (List.mem_replicate.1 this).2
      exact List.eq_replicate_of_mem h1
    have hlen : e.length = 1 := by
      rcases Nat.lt_or_ge 1 e.length with h | h
      · refine absurd ⟨h, ?_⟩ hend
        rw [hz]
        cases hq : e.length with
        | zero => omega
        | succ k => rfl
      · cases e with
        | nil => exact absurd rfl he
        | cons a t => simp at h ⊢; exact h
    have h0 : Lib.decDigits 0 = [48] := by kernel_rfl
    rw [h0, hz, hlen]
    rfl
  · have hh : (Lib.decDigits q).head? ≠ some 48 := dec_head q q (Nat.le_refl _) (by omega)
    unfold jD at hl
    generalize 6 - (Lib.decDigits q).length = k at hl
    generalize Lib.decDigits q = D at *
    rcases Nat.lt_or_ge k z with hz | hz
    · obtain ⟨t, rfl⟩ : ∃ t, z = k + (t + 1) := ⟨z - k - 1, by omega⟩
      rw [← List.replicate_append_replicate, List.append_assoc] at hl
      have := List.append_cancel_left hl
      rw [List.replicate_succ, List.cons_append] at this
      rw [this] at hh
      exact absurd rfl hh
    · obtain ⟨t, rfl⟩ := Nat.exists_eq_add_of_le hz
      rw [← List.replicate_append_replicate, List.append_assoc] at hl
      have h1 := List.append_cancel_left hl
      cases t with
      | zero => simpa using h1.symm
      | succ t =>
        rw [List.replicate_succ, List.cons_append] at h1
        refine absurd ⟨?_, ?_⟩ hend
        · rw [← h1]; simp; omega
        · rw [← h1]; rfl
theorem slice_toB (l : List UInt8) (k : Nat) (K : Int) (hK : K = (k : Int)) (hk : k ≤ l.length) (v : World) : (Instr.slice 9 (.string (bA l)) none (some (.int .i64 K)) none).run Tryz.prog v = .ok (.string (bA (l.take k))) v := by
  subst hK
  rw [run_slice_string_to_if v 9 (bA l) .i64 (k : Int) Tryz.underlying9, if_pos ⟨by omega, by rw [bA_size]; omega⟩]
  congr 2
  apply eq_of_strL
  rw [strL_bA]
  show (ByteArray.extract (bA l) 0 (k : Int).toNat).data.toList = _
  rw [ByteArray.data_extract, Array.toList_extract, Int.toNat_natCast]
  show List.extract l 0 k = _
  simp only [List.extract, List.drop_zero, Nat.sub_zero]
theorem slice_frB (l : List UInt8) (k : Nat) (K : Int) (hK : K = (k : Int)) (hk : k ≤ l.length) (v : World) : (Instr.slice 9 (.string (bA l)) (some (.int .i64 K)) none none).run Tryz.prog v = .ok (.string (bA (l.drop k))) v := by
  subst hK
  rw [run_slice_string_from_if v 9 (bA l) .i64 (k : Int) Tryz.underlying9, if_pos ⟨by omega, by rw [bA_size]; omega⟩]
  congr 2
  apply eq_of_strL
  rw [strL_bA]
  show (ByteArray.extract (bA l) (k : Int).toNat (bA l).size).data.toList = _
  rw [ByteArray.data_extract, Array.toList_extract, bA_size, Int.toNat_natCast]
  show List.extract l k l.length = _
  simp only [List.extract]
  exact List.take_of_length_le (by simp)
def lenWB : Value → Nat
  | .string s => s.size
  | _ => 0
/-- Is it the name of a file of this height, and of which number? -/
def NuR (H : Nat) (x : ByteArray) (k : Int) (ok : Bool) : Prop :=
  (ok = true ∧ ∃ q : Nat, q * 2 ^ H < 1048576 ∧ x = lfN H q ∧ k = (q : Int)) ∨ (ok = false ∧ ∀ q, q * 2 ^ H < 1048576 → x ≠ lfN H q)
set_option maxHeartbeats 2000000 in
theorem numberR_any (H : Nat) (l : List UInt8) (w : World) (hh : hB H) (hs : l.length ≤ 128) :
    Calls Tryz.prog 45 #[.string (bA l), .int .i64 (H : Int)] w fun e w' => ∃ k ok, e = .returned (.tuple #[.int .i64 k, .bool ok]) ∧ NuR H (bA l) k ok ∧ Below w.heap.size w w' := by
  have hsz : (bA l).size = l.length := bA_size l
  have BB := hide (Below.refl w.heap.size w)
  have hln : ∀ q, bA l = lfN H q → l = lfD H ++ jD q := fun q e => bA_inj (by rw [e, lfN_D])
  by_cases h7 : l.length < 7
  · have h7' : ((l.length : Nat) : Int) < 7 := by omega
    have HZ : Hid (NuR H (bA l) 0 false) := hide (.inr ⟨rfl, fun q _ e => by
      have := congrArg List.length (hln q e)
      rw [List.length_append, lfD_len hh] at this
      omega⟩)
    clear hln
    go_enter Tryz.func45, Tryz.ntmps45
    go_wp2_with fail
    go_quiet (fail)
    go_wp2
    go_ret2
    exact ⟨0, false, rfl, HZ.out, below_drewN BB.out nq⟩
  have h7' : ¬ ((l.length : Nat) : Int) < 7 := by omega
  have st := slice_toB l 7 7 rfl (by omega)
  have hd7 := lfD_len hh
  have HDG : Hid (∀ W : World, Calls Tryz.prog 75 #[.int .i64 (H : Int)] W fun r w' => r = .returned (.string (bA (Lib.decDigits H))) ∧ w' = W) := hide (fun W => digits_any H H W (Nat.le_refl _) (by have := hh.2; omega))
  obtain ⟨A, HA⟩ : ∃ A, Hid (bA (Lib.decDigits H) = A) := ⟨_, hide rfl⟩
  have hA : A.size = 1 := by rw [← HA.out, bA_size, dec_h hh]; rfl
  rw [HA.out] at HDG
  obtain ⟨Y, HY⟩ : ∃ Y, Hid ((⟨#[108, 101, 97, 102, 47]⟩ : ByteArray) ++ A = Y) := ⟨_, hide rfl⟩
  have hP : (⟨#[108, 101, 97, 102, 47]⟩ : ByteArray).size = 5 := rfl
  have hQ : (⟨#[47]⟩ : ByteArray).size = 1 := rfl
  have hY : Y.size = 6 := by rw [← HY.out, app_size, hP, hA]
  obtain ⟨X, HX⟩ : ∃ X, Hid (Y ++ (⟨#[47]⟩ : ByteArray) = X) := ⟨_, hide rfl⟩
  have HXD : Hid (X = bA (lfD H)) := hide (by rw [← HX.out, ← HY.out, ← HA.out, bA_lfP, bA_sl]; rfl)
  by_cases hp : l.take 7 = lfD H
  · have hst2 : ∀ v : World, (Instr.slice 9 (.string (bA l)) none (some (.int .i64 7)) none).run Tryz.prog v = .ok (.string X) v := fun v => by
      have := st v
      rw [hp, ← HXD.out] at this
      exact this
    have hself : (X.toList == X.toList) = true := by simp
    have hself2 : (X.toList != X.toList) = false := by simp
    have sd := slice_frB l 7 7 rfl (by omega)
    have HLN : Hid (∀ q, bA l = lfN H q → l.drop 7 = jD q) := hide (fun q e => by rw [hln q e, List.drop_left' hd7])
    have HNE : Hid (∀ q, bA l = lfN H q → l.drop 7 ≠ []) := hide (fun q e h0 => by
      have h1 := HLN.out q e
      rw [h0] at h1
      have := congrArg List.length h1
      unfold jD at this
      rw [List.length_append] at this
      have := dec_pos q
      simp at *
      omega)
    have hQ20 : ∃ Q, 1048576 / 2 ^ H = Q ∧ Q * 2 ^ H = 1048576 ∧ Q ≤ 1048576 := by
      refine ⟨_, rfl, ?_, Nat.div_le_self _ _⟩
      have h1 := hh.1
      have h8 := hh.2
      rcases (by omega : H = 1 ∨ H = 2 ∨ H = 3 ∨ H = 4 ∨ H = 5 ∨ H = 6 ∨ H = 7 ∨ H = 8) with rfl | rfl | rfl | rfl | rfl | rfl | rfl | rfl <;> rfl
    obtain ⟨Q, hQ1, hQ2, hQ3⟩ := hQ20
    have hsh : (1048576 : Int) / 2 ^ H = (Q : Int) := by rw [← hQ1]; exact shrN 1048576 H
    have HQQ : Hid (∀ q, q * 2 ^ H < 1048576 ↔ q < Q) := hide (fun q => by
      have hp2 := Nat.two_pow_pos H
      rw [← hQ2]
      exact Nat.mul_lt_mul_right hp2)
    have HFI : Hid (∀ (W : World) (k : Nat), k ≤ 1048576 → Calls Tryz.prog 47 #[.int .i64 (H : Int), .int .i64 (k : Int)] W fun r w' => r = .returned (.string (lfN H k)) ∧ w' = W) := hide (fun W k hk => fileR_any H k W hh (by omega))
    have hH1 : (1 : Int) ≤ (H : Int) := by have := hh.1; omega
    have hH8 : (H : Int) ≤ 8 := by have := hh.2; omega
    have HINJ : Hid (∀ u q, lfN H u = lfN H q → u = q) := hide (fun u q e => (lfN_inj hh hh e).2)
    have hy := HY.out
    have hx := HX.out
    clear hln hp hd7 hh st hQ1 hQ2
    go_enter Tryz.func45, Tryz.ntmps45
    go_wp2_with fail
    go_quiet (first | (go_at_call 75; exact Calls.quiet_of_same ((HDG.out _).mono fun _ _ h => ⟨h.1, h.2⟩)))
    have BQ := hide (below_drewN BB.out nq)
    obtain ⟨W0, hW0⟩ : ∃ W0, w.drewN nq = W0 := ⟨_, rfl⟩
    rw [hW0] at BQ ⊢
    clear hW0 hst2 hself hself2 hy hx BB
    go_wp2_with fail
    go_loopw [6] (fun d wr => ∃ (z : Nat) (S : ByteArray), d = .string S ∧ Hid (l.drop 7 = List.replicate z 48 ++ strL S) ∧ Hid (l.drop 7 ≠ [] → strL S ≠ []) ∧ Hid (Below w.heap.size w wr)) (fun d _ => lenWB d)
    case atStart => exact ⟨0, _, rfl, hide (by rw [strL_bA]; rfl), hide (fun h => by rw [strL_bA]; exact h), BQ⟩
    case round =>
      clear BQ sd
      obtain ⟨z, S, rfl, HE, HNN, BW⟩ := hrel
      have hSl : (strL S).length = S.size := strL_length S
      have hSz : S.size ≤ 128 := by
        have h1 := congrArg List.length HE.out
        rw [List.length_drop, List.length_append, List.length_replicate] at h1
        omega
      by_cases h1 : 1 < S.size
      · have h1' : (1 : Int) < (S.size : Int) := by omega
        have hz : 0 < S.size := by omega
        have hz' : (0 : Int) < (S.size : Int) := by omega
        have hg0 : (strL S).head? = some (S[0]'hz) := by
          rw [List.head?_eq_getElem?, List.getElem?_eq_getElem (by omega)]
          rfl
        by_cases h48 : S[0]'hz = 48
        · have e48 : ((((S[0]'hz).toNat : Nat) : Int) == 48) = true := by rw [h48]; rfl
          have s1 : ∀ v : World, (Instr.slice 9 (.string S) (some (.int .i64 1)) none none).run Tryz.prog v = .ok (.string (bA ((strL S).drop 1))) v := fun v => by
            have := slice_frB (strL S) 1 1 rfl (by omega) v
            have e : bA (strL S) = S := eq_of_strL (by rw [strL_bA])
            rwa [e] at this
          have HE2 : Hid (l.drop 7 = List.replicate (z + 1) 48 ++ strL (bA ((strL S).drop 1))) := hide (by
            rw [strL_bA, HE.out]
            cases hS : strL S with
            | nil => rw [hS] at hg0; cases hg0
            | cons a t =>
              rw [hS] at hg0
              have ha : a = 48 := by
                have : a = S[0]'hz := by simpa using hg0
                rw [this, h48]
              subst ha
              rw [List.replicate_succ', List.append_assoc]
              rfl)
          have HN2 : Hid (l.drop 7 ≠ [] → strL (bA ((strL S).drop 1)) ≠ []) := hide (fun _ => by
            rw [strL_bA]
            intro h0
            have := congrArg List.length h0
            rw [List.length_drop] at this
            simp at this
            omega)
          clear hg0 h48
          go_wp2_with fail
          go_roundw
          case rel => exact ⟨z + 1, _, rfl, hide (by have := HE2.out; rwa [List.drop_one] at this), hide (by have := HN2.out; rwa [List.drop_one] at this), BW⟩
          case measure => simp only [lenWB, bA_size, List.length_tail, List.length_drop]; omega
        · have e48 : ((((S[0]'hz).toNat : Nat) : Int) == 48) = false := by
            simp only [beq_eq_false_iff_ne, ne_eq]
            intro e
            refine h48 (UInt8.toNat_inj.1 ?_)
            have : (S[0]'hz).toNat = 48 := by omega
            rw [this]; rfl
          have HEND : Hid (¬ (1 < (strL S).length ∧ (strL S).head? = some 48)) := hide (fun h => h48 (by rw [hg0] at h; exact Option.some.inj h.2))
          clear hg0 h48
          have HF : Hid (∀ q, q ≤ 1048576 → bA l = lfN H q → nmO (strL S) = some q) := hide (fun q h2 e => by
            have e2 : jD q = List.replicate z 48 ++ strL S := by rw [← HLN.out q e]; exact HE.out
            have e3 := strip_any e2 (HNN.out (HNE.out q e)) HEND.out
            rw [e3]
            exact nmO_of (by omega) rfl)
          clear HE HEND HNN HLN HNE
          go_wp2_with fail
          refine (num_most S 1048576 _ (by omega) (by decide)).mono ?_
          rintro r w2 ⟨hb2, hc⟩
          have B2 := hide (on_below BW.out hb2)
          clear hb2
          rcases hc with ⟨u, hu, rfl⟩ | ⟨hu, x, rfl⟩
          · have HU := hide hu
            clear hu
            by_cases hut : u < Q
            · have hd : decide (u ≤ 1048576) = true := decide_eq_true (by omega)
              have huti : (u : Int) < (Q : Int) := by omega
              rw [hd]
              have HFU := hide (HFI.out w2 u (by omega))
              obtain ⟨nm, HNM⟩ : ∃ nm, Hid (lfN H u = nm) := ⟨_, hide rfl⟩
              rw [HNM.out] at HFU
              by_cases hn : bA l = nm
              · have HZ : Hid (NuR H (bA l) (u : Int) true) := hide (.inl ⟨rfl, u, (HQQ.out u).2 hut, by rw [HNM.out]; exact hn, rfl⟩)
                have hbq := beqC_t hn.symm
                clear hn
                go_wp2_with (go_at_call 47; refine HFU.out.mono ?_; rintro r w' ⟨rfl, hw'⟩; subst w')
                go_ret2
                exact ⟨_, true, rfl, HZ.out, B2.out⟩
              · have HZ : Hid (NuR H (bA l) (u : Int) false) := hide (.inr ⟨rfl, fun q h1 e => by
                  have h2 := HF.out q (by have := (HQQ.out q).1 h1; omega) e
                  rw [HU.out] at h2
                  injection h2 with h2
                  exact hn (by rw [e, ← HNM.out, h2])⟩)
                have hbq := beqC_f (fun e => hn e.symm : nm ≠ bA l)
                clear hn
                go_wp2_with (go_at_call 47; refine HFU.out.mono ?_; rintro r w' ⟨rfl, hw'⟩; subst w')
                go_ret2
                exact ⟨_, false, rfl, HZ.out, B2.out⟩
            · have huti : ¬ (u : Int) < (Q : Int) := by omega
              have HZ : Hid (NuR H (bA l) (u : Int) false) := hide (.inr ⟨rfl, fun q h1 e => by
                have h3 := (HQQ.out q).1 h1
                have h2 := HF.out q (by omega) e
                rw [HU.out] at h2
                injection h2 with h2
                omega⟩)
              by_cases hd : u ≤ 1048576
              · have hd2 : decide (u ≤ 1048576) = true := decide_eq_true hd
                rw [hd2]
                go_wp2_with fail
                go_ret2
                exact ⟨_, false, rfl, HZ.out, B2.out⟩
              · have hd2 : decide (u ≤ 1048576) = false := decide_eq_false hd
                rw [hd2]
                go_wp2_with fail
                go_ret2
                exact ⟨_, false, rfl, HZ.out, B2.out⟩
          · have HZ : Hid (NuR H (bA l) x false) := hide (.inr ⟨rfl, fun q h1 e => by
              have h3 := (HQQ.out q).1 h1
              have h2 := HF.out q (by omega) e
              rw [hu] at h2
              cases h2⟩)
            clear hu
            go_wp2_with fail
            go_ret2
            exact ⟨_, false, rfl, HZ.out, B2.out⟩
      · have h1' : ¬ (1 : Int) < (S.size : Int) := by omega
        have HEND : Hid (¬ (1 < (strL S).length ∧ (strL S).head? = some 48)) := hide (fun h => by omega)
        have HF : Hid (∀ q, q ≤ 1048576 → bA l = lfN H q → nmO (strL S) = some q) := hide (fun q h2 e => by
          have e2 : jD q = List.replicate z 48 ++ strL S := by rw [← HLN.out q e]; exact HE.out
          have e3 := strip_any e2 (HNN.out (HNE.out q e)) HEND.out
          rw [e3]
          exact nmO_of (by omega) rfl)
        clear HE HEND HNN HLN HNE
        go_wp2_with fail
        refine (num_most S 1048576 _ (by omega) (by decide)).mono ?_
        rintro r w2 ⟨hb2, hc⟩
        have B2 := hide (on_below BW.out hb2)
        clear hb2
        rcases hc with ⟨u, hu, rfl⟩ | ⟨hu, x, rfl⟩
        · have HU := hide hu
          clear hu
          by_cases hut : u < Q
          · have hd : decide (u ≤ 1048576) = true := decide_eq_true (by omega)
            have huti : (u : Int) < (Q : Int) := by omega
            rw [hd]
            have HFU := hide (HFI.out w2 u (by omega))
            obtain ⟨nm, HNM⟩ : ∃ nm, Hid (lfN H u = nm) := ⟨_, hide rfl⟩
            rw [HNM.out] at HFU
            by_cases hn : bA l = nm
            · have HZ : Hid (NuR H (bA l) (u : Int) true) := hide (.inl ⟨rfl, u, (HQQ.out u).2 hut, by rw [HNM.out]; exact hn, rfl⟩)
              have hbq := beqC_t hn.symm
              clear hn
              go_wp2_with (go_at_call 47; refine HFU.out.mono ?_; rintro r w' ⟨rfl, hw'⟩; subst w')
              go_ret2
              exact ⟨_, true, rfl, HZ.out, B2.out⟩
            · have HZ : Hid (NuR H (bA l) (u : Int) false) := hide (.inr ⟨rfl, fun q h1 e => by
                have h2 := HF.out q (by have := (HQQ.out q).1 h1; omega) e
                rw [HU.out] at h2
                injection h2 with h2
                exact hn (by rw [e, ← HNM.out, h2])⟩)
              have hbq := beqC_f (fun e => hn e.symm : nm ≠ bA l)
              clear hn
              go_wp2_with (go_at_call 47; refine HFU.out.mono ?_; rintro r w' ⟨rfl, hw'⟩; subst w')
              go_ret2
              exact ⟨_, false, rfl, HZ.out, B2.out⟩
          · have huti : ¬ (u : Int) < (Q : Int) := by omega
            have HZ : Hid (NuR H (bA l) (u : Int) false) := hide (.inr ⟨rfl, fun q h1 e => by
              have h3 := (HQQ.out q).1 h1
              have h2 := HF.out q (by omega) e
              rw [HU.out] at h2
              injection h2 with h2
              omega⟩)
            by_cases hd : u ≤ 1048576
            · have hd2 : decide (u ≤ 1048576) = true := decide_eq_true hd
              rw [hd2]
              go_wp2_with fail
              go_ret2
              exact ⟨_, false, rfl, HZ.out, B2.out⟩
            · have hd2 : decide (u ≤ 1048576) = false := decide_eq_false hd
              rw [hd2]
              go_wp2_with fail
              go_ret2
              exact ⟨_, false, rfl, HZ.out, B2.out⟩
        · have HZ : Hid (NuR H (bA l) x false) := hide (.inr ⟨rfl, fun q h1 e => by
            have h3 := (HQQ.out q).1 h1
            have h2 := HF.out q (by omega) e
            rw [hu] at h2
            cases h2⟩)
          clear hu
          go_wp2_with fail
          go_ret2
          exact ⟨_, false, rfl, HZ.out, B2.out⟩
  · obtain ⟨T, HT⟩ : ∃ T, Hid (bA (l.take 7) = T) := ⟨_, hide rfl⟩
    have hbp : (T.toList == X.toList) = false := beqC_f (fun e => hp (bA_inj (by rw [HT.out, e, HXD.out])))
    have hbq : (T.toList != X.toList) = true := by rw [bne, hbp]; rfl
    have HZ : Hid (NuR H (bA l) 0 false) := hide (.inr ⟨rfl, fun q _ e => hp (by rw [hln q e, List.take_left' hd7])⟩)
    rw [HT.out] at st
    have hy := HY.out
    have hx := HX.out
    clear hln hp hd7 hh
    go_enter Tryz.func45, Tryz.ntmps45
    go_wp2_with fail
    go_quiet (first | (go_at_call 75; exact Calls.quiet_of_same ((HDG.out _).mono fun _ _ h => ⟨h.1, h.2⟩)))
    go_wp2
    go_ret2
    exact ⟨0, false, rfl, HZ.out, below_drewN BB.out nq⟩

end Go.Proofs.YtpocadbhajacaaaGreatDoor

/-
  Trim where it writes nothing and tells an error.
-/
namespace Go.Proofs.YtpocadbhajacaaaGreatDoor
open Go.RowKit Go.Shelf
set_option linter.unusedVariables false
set_option linter.unusedSimpArgs false
set_option maxRecDepth 100000

def trEb (h n : Int) : Int := if bnE h 0 = 0 then (if n < 0 then 2 else 40) else 2
section
variable (d s : Nat) (rs : List Rw) (D : Dm) (w : World) (hd : DkAt w d s rs D)
include hd
set_option maxHeartbeats 1000000 in
theorem trimB_bad (h n : Int) (c : Nat) (ht : PT w) (hn : bnE h 0 = 0 → CnL (play rs) h.toNat c) (hwt : wt rs ≤ 1099511000000) (hbad : bnE h 0 = 0 → n < 0 ∨ (c : Int) < n) :
    Calls Tryz.prog 12 #[.pointer (some ⟨d, 0, none⟩), .int .i64 h, .int .i64 n] w fun r w' => r = .returned (.int .i64 (trEb h n)) ∧ Below w.heap.size w w' := by
  have HCU := hide (countB_any d s rs D w hd h c ht hn hwt)
  unfold trEb
  by_cases he : bnE h 0 = 0
  · have hb := hbad he
    rw [he] at HCU
    rw [if_pos rfl] at HCU
    rw [if_pos he]
    clear hd ht hn hwt hbad he
    by_cases h0 : n < 0
    · rw [if_pos h0]
      go_enter Tryz.func12, Tryz.ntmps12
      go_wp2_with fail
      refine HCU.out.mono ?_
      rintro r w1 ⟨rfl, hb1⟩
      go_wp2
      go_ret
      exact ⟨rfl, hb1⟩
    · rw [if_neg h0]
      have h1 : (c : Int) < n := by omega
      go_enter Tryz.func12, Tryz.ntmps12
      go_wp2_with fail
      refine HCU.out.mono ?_
      rintro r w1 ⟨rfl, hb1⟩
      go_wp2
      go_ret
      exact ⟨rfl, hb1⟩
  · rw [if_neg he]
    have e2 : bnE h 0 = 2 := by rcases bnE_bin h 0 with k | k; exact absurd k he; exact k
    rw [if_neg he, e2] at HCU
    clear hd ht hn hwt hbad he e2
    go_enter Tryz.func12, Tryz.ntmps12
    go_wp2_with fail
    refine HCU.out.mono ?_
    rintro r w1 ⟨rfl, hb1⟩
    go_wp2
    go_ret
    exact ⟨rfl, hb1⟩
end

end Go.Proofs.YtpocadbhajacaaaGreatDoor

/-
  The document's Trim.
-/
namespace Go.Proofs.YtpocadbhajacaaaGreatDoor
open Go.RowKit Go.Shelf
set_option linter.unusedVariables false
set_option linter.unusedSimpArgs false
set_option maxRecDepth 100000

section
variable (r s : Nat) (rs : List Rw) (R : Rm) (w : World) (hr : RkAt w r s rs R)
include hr
set_option maxHeartbeats 1000000 in
theorem trimR_bad (h n : Int) (c : Nat) (hn : bnE h 0 = 0 → CnL (play rs) h.toNat c) (hwt : wt rs ≤ 1099511000000) (hbad : bnE h 0 = 0 → n < 0 ∨ (c : Int) < n) :
    Calls Tryz.prog 13 #[.pointer (some ⟨r, 0, none⟩), .int .i64 h, .int .i64 n] w fun e w' => e = .returned (.int .i64 (trEb h n)) ∧ Below w.heap.size w w' := by
  have HCU := hide (countR_any r s rs R w hr h c hn hwt)
  unfold trEb
  by_cases he : bnE h 0 = 0
  · have hb := hbad he
    rw [he] at HCU
    rw [if_pos rfl] at HCU
    rw [if_pos he]
    clear hr hn hwt hbad he
    by_cases h0 : n < 0
    · rw [if_pos h0]
      go_enter Tryz.func13, Tryz.ntmps13
      go_wp2_with fail
      refine HCU.out.mono ?_
      rintro r w1 ⟨rfl, hb1⟩
      go_wp2
      go_ret
      exact ⟨rfl, hb1⟩
    · rw [if_neg h0]
      have h1 : (c : Int) < n := by omega
      go_enter Tryz.func13, Tryz.ntmps13
      go_wp2_with fail
      refine HCU.out.mono ?_
      rintro r w1 ⟨rfl, hb1⟩
      go_wp2
      go_ret
      exact ⟨rfl, hb1⟩
  · rw [if_neg he]
    have e2 : bnE h 0 = 2 := by rcases bnE_bin h 0 with k | k; exact absurd k he; exact k
    rw [if_neg he, e2] at HCU
    clear hr hn hwt hbad he e2
    go_enter Tryz.func13, Tryz.ntmps13
    go_wp2_with fail
    refine HCU.out.mono ?_
    rintro r w1 ⟨rfl, hb1⟩
    go_wp2
    go_ret
    exact ⟨rfl, hb1⟩
end
/-- The files removed when those from j on are done. -/
def rmB (H n : Nat) (ns : List ByteArray) (j : Nat) : List ByteArray := (bhL H n (ns.drop j)).reverse
theorem rmB_all (H n : Nat) (ls : List (ByteArray × List Int)) : rmB H n (ls.map (·.1)) 0 = trNb H n ls := rfl
theorem rmB_end (H n : Nat) (ns : List ByteArray) : rmB H n ns ns.length = [] := by simp [rmB, bhL]
theorem rmB_step {H n : Nat} {ns : List ByteArray} {j : Nat} {x : ByteArray} (h : ns[j]? = some x) : rmB H n ns j = rmB H n ns (j + 1) ++ (if BhB H n x = true then [x] else []) := by
  obtain ⟨hj, rfl⟩ := List.getElem?_eq_some_iff.1 h
  unfold rmB bhL
  rw [List.drop_eq_getElem_cons hj, List.filter_cons]
  split
  · rw [List.reverse_cons]
  · rw [List.append_nil]
theorem rmB_mem {H n : Nat} {ns : List ByteArray} {j : Nat} {x : ByteArray} (h : x ∈ rmB H n ns j) : x ∈ ns.drop j := by
  unfold rmB bhL at h
  exact (List.mem_filter.1 (List.mem_reverse.1 h)).1
theorem rmB_len (H n : Nat) (ns : List ByteArray) (j : Nat) : (rmB H n ns j).length ≤ ns.length := by
  unfold rmB
  rw [List.length_reverse]
  have h1 := bhL_le H n (ns.drop j)
  rw [List.length_drop] at h1
  omega
theorem rmB_fE {rs : List Rw} {ls : List (ByteArray × List Int)} (hN : Nmd (play rs)) (hl : FL (play rs) ls) {H n j : Nat} {x : ByteArray} (hx : (ls.map (·.1))[j]? = some x) : fE (trRb rs (rmB H n (ls.map (·.1)) (j + 1))) x = 0 := by
  have hnd := hl.nodup
  have hnot : x ∉ rmB H n (ls.map (·.1)) (j + 1) := fun hm => by
    have h1 := rmB_mem hm
    obtain ⟨i, hi, he⟩ := List.mem_iff_getElem.1 h1
    rw [List.length_drop] at hi
    rw [List.getElem_drop] at he
    obtain ⟨hj, e2⟩ := List.getElem?_eq_some_iff.1 hx
    unfold List.Nodup at hnd
    have h3 := (List.pairwise_iff_getElem.1 hnd) j (j + 1 + i) hj (by omega) (by omega)
    exact h3 (e2.trans he.symm)
  have hp := (trRb_play rs (rmB H n (ls.map (·.1)) (j + 1)) x).2 hnot
  have hin : play rs x ≠ none := by
    obtain ⟨⟨m, xs⟩, h1, rfl⟩ := List.mem_map.1 (List.mem_of_getElem? hx)
    have h2 := (hl.mem m xs).2 h1
    exact fun e => by rw [h2] at e; cases e
  have hnm : nmB x = true := by
    cases hb : nmB x with
    | true => rfl
    | false => exact absurd (hN x hb) hin
  cases hc : play rs x with
  | none => exact absurd hc hin
  | some ys => rw [hc] at hp; simp [fE, hnm, hp]
/-- Where the document's Trim cuts. -/
theorem end_cut (P m : Nat) (b : List Int) (h : m ≤ P) : offL (wl m b) (wl m b).length = offL (wl P b) m := by
  obtain ⟨q, rfl⟩ := Nat.exists_eq_add_of_le h
  unfold offL
  rw [List.take_of_length_le (Nat.le_refl _), ← wl_take m q b]
theorem cuS_noneB {rs : List Rw} {n : ByteArray} {k : Int} (h : ¬ k < ((fl (play rs) n).length : Int)) : cuS rs n k = rs := by
  unfold cuS
  rw [if_neg (fun h2 => h h2.2)]
theorem nmsC_atB {ls : List (ByteArray × List Int)} {k : Nat} {x : ByteArray × List Int} (h : ls[k]? = some x) : (nmsC ls)[k]? = some (.string x.1) := by
  unfold nmsC
  rw [List.getElem?_map, h]
  rfl
set_option maxHeartbeats 4000000 in
theorem trimR_ok (r s : Nat) (rs : List Rw) (R : Rm) (w : World) (hr : RkAt w r s rs R) (H c n : Nat) (hh : hB H) (hc : CnL (play rs) H c) (hn : n ≤ c) (hwt : wt rs + R.l.length + 2 ≤ 1099511000000) :
    Calls Tryz.prog 13 #[.pointer (some ⟨r, 0, none⟩), .int .i64 (H : Int), .int .i64 (n : Int)] w fun e w' => e = .returned (.int .i64 0) ∧ RoP w w' r s R (trSb H n rs R.l) := by
  obtain ⟨T, HTT⟩ : ∃ T, Hid (trSb H n rs R.l = T) := ⟨_, hide rfl⟩
  rw [HTT.out]
  have hF := Nmd.play hr.val
  have hc9 := hc.le
  have he0 : bnE (H : Int) 0 = 0 := bnE_nat (I := 0) hh (by decide)
  have HCU := hide (fun (W : World) (hW : RkAt W r s rs R) => countR_any r s rs R W hW (H : Int) c (fun _ => by rw [Int.toNat_natCast]; exact hc) (by omega))
  simp only [he0, if_true] at HCU
  have HLI := hide (fun (W : World) (hW : RkAt W r s rs R) => listR_any r s rs R W hW (by omega))
  have HR := hide hr
  have hw9 : ∀ j, wt (trRb rs (rmB H n (R.l.map (·.1)) j)) + 1 ≤ 1099511000000 := fun j => by
    have h1 := trRb_wt rs (rmB H n (R.l.map (·.1)) j)
    have h2 := rmB_len H n (R.l.map (·.1)) j
    rw [List.length_map] at h2
    omega
  have HNMS : Hid (∀ (k : Nat) (x : ByteArray × List Int), R.l[k]? = some x → x.1.size ≤ 128) := hide (fun k x hx => by
    have h1 := (hr.fls.mem x.1 x.2).2 (List.mem_of_getElem? hx)
    have h2 : nmB x.1 = true := by
      cases hb : nmB x.1 with
      | true => rfl
      | false => rw [hF _ hb] at h1; cases h1
    simp [nmB] at h2
    omega)
  have HRM : Hid (∀ (j : Nat) (x : ByteArray × List Int) (W : World) (R1 : Rm), R.l[j]? = some x → BhB H n x.1 = true → RkAt W r s (trRb rs (rmB H n (R.l.map (·.1)) (j + 1))) R1 → Calls Tryz.prog 46 #[.pointer (some ⟨r, 0, none⟩), .string x.1] W fun e w' => e = .returned (.int .i64 0) ∧ RoP W w' r s R1 (trRb rs (rmB H n (R.l.map (·.1)) j))) := hide (fun j x W R1 hx hb hW => by
    have hx2 : (R.l.map (·.1))[j]? = some x.1 := by rw [List.getElem?_map, hx]; rfl
    have := removeR_any r s _ R1 W hW x.1 (hw9 (j + 1))
    have hfe := rmB_fE hF hr.fls (H := H) (n := n) hx2
    have hrs : rmS (trRb rs (rmB H n (R.l.map (·.1)) (j + 1))) x.1 = trRb rs (rmB H n (R.l.map (·.1)) j) := by
      rw [rmB_step hx2, if_pos hb, trRb_snoc]
      unfold rmS
      rw [if_pos hfe]
    rw [hfe, hrs] at this
    exact this)
  have HST0 : Hid (∀ (j : Nat) (x : ByteArray × List Int), R.l[j]? = some x → ¬ BhB H n x.1 = true → rmB H n (R.l.map (·.1)) j = rmB H n (R.l.map (·.1)) (j + 1)) := hide (fun j x hx hb => by
    have hx2 : (R.l.map (·.1))[j]? = some x.1 := by rw [List.getElem?_map, hx]; rfl
    rw [rmB_step hx2, if_neg hb, List.append_nil])
  have HEND : Hid (rmB H n (R.l.map (·.1)) R.l.length = []) := hide (by
    have := rmB_end H n (R.l.map (·.1))
    rwa [List.length_map] at this)
  have HNUM : Hid (∀ (W : World) (l : List UInt8), l.length ≤ 128 → Calls Tryz.prog 45 #[.string (bA l), .int .i64 (H : Int)] W fun e w' => ∃ k ok, e = .returned (.tuple #[.int .i64 k, .bool ok]) ∧ NuR H (bA l) k ok ∧ Below W.heap.size W w') := hide (fun W l hl => numberR_any H l W hh hl)
  have HHH := hide hh
  have hfew := hr.few
  have hlw := len_wt rs
  have HLW : Hid (R.l.length ≤ 1099511000000) := hide (by omega)
  have hnc : ¬ (c : Int) < (n : Int) := by omega
  have hn0 : ¬ (n : Int) < 0 := by omega
  have hn9 : n ≤ 1048576 := by omega
  obtain ⟨P, HP⟩ : ∃ P, Hid (2 ^ H = P) := ⟨_, hide rfl⟩
  have HWP := hide (wrap_powB hh HP.out)
  have hP := hh.pow
  rw [HP.out] at hP
  have hH1 : (1 : Int) ≤ (H : Int) := by have := hh.1; omega
  have hH8 : (H : Int) ≤ 8 := by have := hh.2; omega
  have HW0 := hide (hw9 0)
  clear hr hc hn hwt hF he0 hh hfew hlw hw9 hc9
  go_enter Tryz.func13, Tryz.ntmps13
  go_wp2_with fail
  refine (HCU.out _ HR.out).mono ?_
  rintro e w1 ⟨rfl, hb1⟩
  have HB1 := hide hb1
  clear hb1 HCU
  go_wp2_with (rw [HWP.out])
  refine (HLI.out _ (HR.out.below HB1.out)).mono ?_
  rintro e w3 ⟨v, rfl, hrow, hb3⟩
  have HB3 := hide (on_below HB1.out hb3)
  obtain ⟨a, cp, hv2⟩ := row_slice hrow
  subst hv2
  have HRW := hide hrow
  obtain ⟨len, HLN⟩ : ∃ len, Hid (R.l.length = len) := ⟨_, hide rfl⟩
  have hlen := HLW.out
  rw [HLN.out] at HRW hlen HEND ⊢
  clear hrow hb3 HLI HLW
  go_wp2_with (rw [HWP.out])
  go_loopw [11] (fun p wr => ∃ j : Nat, j ≤ len ∧ p = .int .i64 ((j : Int) - 1) ∧ Hid (RoP w3 wr r s R (trRb rs (rmB H n (R.l.map (·.1)) j)))) (fun p _ => (intOf p + 1).toNat)
  case atStart => exact ⟨len, Nat.le_refl _, rfl, hide (by rw [HEND.out, trRb_nil]; exact RoP.below (HR.out.below HB3.out) (Below.refl _ _))⟩
  case round =>
    obtain ⟨j, hj, rfl, HOP⟩ := hrel
    obtain ⟨R1, o1, o2, o3, o4⟩ := HOP.out
    have HR1 := hide o1
    have HX := hide (And.intro o2 (And.intro o3 o4))
    have HROW : Hid (wr.ownsRow w1.heap.size 9 1 (.slice a len cp) len (nmsC R.l)) := hide (row_same HRW.out (fun k e => by
      obtain ⟨cs, hcb⟩ := row_lies HRW.out e
      refine o2.block k hcb.lt (fun hk => ?_)
      have h1 := HR.out.lt (.inl hk)
      have h2 := row_ge HRW.out e
      have h3 := HB1.out.size
      omega))
    clear o1 o2 o3 o4
    by_cases hj0 : j = 0
    · subst hj0
      have hg0 : ¬ (0 : Int) ≤ ((0 : Nat) : Int) - 1 := by omega
      have e1 : ((0 : Nat) : Int) - 1 = -1 := rfl
      rw [e1]
      have hR1 := HR1.out
      rw [rmB_all] at hR1 HOP
      have hr0 := HW0.out
      rw [rmB_all] at hr0
      obtain ⟨Q, HQ⟩ : ∃ Q, Hid (n / P = Q) := ⟨_, hide rfl⟩
      obtain ⟨rr, HRR⟩ : ∃ rr, Hid (n % P = rr) := ⟨_, hide rfl⟩
      obtain ⟨hP1, hP2⟩ := hP
      have hdq : (n : Int).tdiv (P : Int) = (Q : Int) := by rw [← HQ.out]; exact (Int.ofNat_tdiv n P).symm
      have hrem : (n : Int).tmod (P : Int) = (rr : Int) := by rw [← HRR.out]; exact (Int.ofNat_tmod n P).symm
      have hQb : Q ≤ 1048576 := by rw [← HQ.out]; have := Nat.div_le_self n P; omega
      have hrP : rr ≤ P := by rw [← HRR.out]; exact Nat.le_of_lt (Nat.mod_lt n (by omega))
      have hpne : ¬ (P : Int) = 0 := by omega
      have HFI := hide (fun W : World => fileR_any H Q W HHH.out (by omega))
      obtain ⟨rs1, HRS⟩ : ∃ rs1, Hid (trRb rs (trNb H n R.l) = rs1) := ⟨_, hide rfl⟩
      rw [HRS.out] at hR1 hr0 HOP
      have hnm := lfN_nm (k := Q) HHH.out (by omega)
      obtain ⟨nm, HNN⟩ : ∃ nm, Hid (lfN H Q = nm) := ⟨_, hide rfl⟩
      rw [HNN.out] at HFI hnm
      have hbv := rk_vb r s rs1 R1 wr hR1 nm
      have hbl := Nat.le_trans (play_wt rs1 nm) (show wt rs1 ≤ 1099511000000 by omega)
      have HAL := hide (fun (W : World) (hW : RkAt W r s rs1 R1) => all_any r s rs1 R1 W hW nm (by omega))
      have HWH := hide (fun (W : World) => wholeR_any (fl (play rs1) nm) rr W hbv hbl (by omega))
      have hend := end_cut P rr (fl (play rs1) nm) hrP
      have hwl := wl_le rr (fl (play rs1) nm)
      have hsz : (str (fl (play rs1) nm)).size = (fl (play rs1) nm).length := str_size _
      obtain ⟨Z, HZZ⟩ : ∃ Z, Hid (offL (wl P (fl (play rs1) nm)) rr = Z) := ⟨_, hide rfl⟩
      have hZl : Z ≤ (fl (play rs1) nm).length := by rw [← HZZ.out]; exact offL_le hbv _
      rw [HZZ.out] at hend
      have HT2 : Hid (T = cuS rs1 nm (Z : Int)) := hide (by rw [← HTT.out]; unfold trSb trZb; rw [HP.out, HQ.out, HRR.out, HRS.out, HNN.out, HZZ.out])
      have HCT := hide (fun (W : World) (hW : RkAt W r s rs1 R1) => cutR_any r s rs1 R1 W hW nm (Z : Int) (by omega))
      have hno : play rs1 nm = none → fl (play rs1) nm = [] := fun hq => fl_none hq
      have hcn : ¬ (Z : Int) < ((fl (play rs1) nm).length : Int) → cuS rs1 nm (Z : Int) = rs1 := fun hq => cuS_noneB hq
      obtain ⟨ls, HLS⟩ : ∃ ls, Hid (wl rr (fl (play rs1) nm) = ls) := ⟨_, hide rfl⟩
      rw [HLS.out] at HWH hend hwl
      obtain ⟨m, HM⟩ : ∃ m, Hid (ls.length = m) := ⟨_, hide rfl⟩
      have hm0 : m = 0 → Z = 0 := fun hq => by rw [← hend, HM.out, hq, offL_zero]
      have HLAST : Hid (0 < m → (endL ls)[m - 1]? = some (Z : Int)) := hide (fun hq => by rw [← HM.out] at hq ⊢; rw [endL_last hq, hend])
      have hm9 : m ≤ 256 := by rw [← HM.out]; omega
      obtain ⟨bl, HBL⟩ : ∃ bl, Hid ((fl (play rs1) nm).length = bl) := ⟨_, hide rfl⟩
      rw [HBL.out] at hbl hsz hZl hcn
      have hthf : (play rs1 nm).isSome = false → bl = 0 := fun hq => by
        cases e : play rs1 nm with
        | none => rw [← HBL.out, hno e]; rfl
        | some xs => rw [e] at hq; cases hq
      obtain ⟨th, HTH⟩ : ∃ th, Hid ((play rs1 nm).isSome = th) := ⟨_, hide rfl⟩
      rw [HTH.out] at HAL hthf
      generalize str (fl (play rs1) nm) = X at *
      have HRR1 := hide hR1
      clear hR1 hr0 hnm hbv hend hwl hno HNN HRM HST0 HNUM HNMS HROW HR1
      go_wp2_with fail
      refine (HFI.out _).mono ?_
      rintro e w' ⟨rfl, hw'⟩
      subst w'
      go_wp2_with fail
      refine (HAL.out _ HRR1.out).mono ?_
      rintro e w5 ⟨rfl, hb5⟩
      have HB5 := hide hb5
      clear hb5
      go_wp2_with fail
      refine (HWH.out w5).mono ?_
      rintro e w6 ⟨lo, lv, rfl, _, hlv, hb6⟩
      have HB6 := hide (on_below HB5.out hb6)
      obtain ⟨va, vc, hvs⟩ := row_slice hlv
      rw [endL_len, HM.out] at hvs
      subst hvs
      have HLV := hide hlv
      have HOP6 := hide (RoP.pre HB3.out (RoP.post HOP.out HB6.out))
      have HCT6 := hide (HCT.out w6 (HRR1.out.below HB6.out))
      have HCO : Hid (∀ w7 : World, RoP w6 w7 r s R1 (cuS rs1 nm (Z : Int)) → RoP w w7 r s R (cuS rs1 nm (Z : Int))) := hide (fun w7 h7 => RoP.pre HB3.out (RoP.comp HX.out.1 HX.out.2.1 HX.out.2.2 (RoP.pre HB6.out h7)))
      clear hb6 hlv HCT HAL HFI HWH HB5
      by_cases hmz : m = 0
      · have hZ0 := hm0 hmz
        subst hmz
        subst hZ0
        cases th
        · have hb0 := hthf rfl
          have hcs : cuS rs1 nm (((0 : Nat) : Int)) = rs1 := hcn (by omega)
          have HT3 := hide (HT2.out.trans hcs)
          clear hcs
          go_wp2
          go_ret
          exact ⟨rfl, by rw [HT3.out]; exact HOP6.out⟩
        · by_cases hZb : ((0 : Nat) : Int) < (bl : Int)
          · go_wp2_with fail
            refine HCT6.out.mono ?_
            rintro e w7 ⟨rfl, ho7⟩
            have HO7 := hide (HCO.out _ ho7)
            clear ho7
            go_wp2
            go_ret
            exact ⟨rfl, by rw [HT2.out]; exact HO7.out⟩
          · have hcs : cuS rs1 nm (((0 : Nat) : Int)) = rs1 := hcn (by omega)
            have HT3 := hide (HT2.out.trans hcs)
            clear hcs
            go_wp2
            go_ret
            exact ⟨rfl, by rw [HT3.out]; exact HOP6.out⟩
      · have hmi : (0 : Int) < (m : Int) := by omega
        have hcl : ∃ g, va = some ⟨g, 0, none⟩ ∧ w6.cell? ⟨g, m - 1, none⟩ = some (.int .i64 (Z : Int)) := by
          rcases OwnI.lies HLV.out with ⟨e1, hnil⟩ | ⟨g, cap, cs, e1, hg, hblk, h1, h2, h3, h4⟩
          · have := congrArg List.length hnil
            rw [endL_len, HM.out] at this
            simp at this
            omega
          · injection e1 with e1 _ _
            subst e1
            exact ⟨g, rfl, OwnI.cell HLV.out (m - 1) (Z : Int) (HLAST.out (by omega))⟩
        obtain ⟨g, rfl, hcell⟩ := hcl
        have hm1 : (m : Int) - 1 = ((m - 1 : Nat) : Int) := by omega
        have hix := atIi g m vc (m - 1) ((m - 1 : Nat) : Int) rfl (by omega)
        cases th
        · have hb0 := hthf rfl
          have hcs : cuS rs1 nm ((Z : Int)) = rs1 := hcn (by omega)
          have HT3 := hide (HT2.out.trans hcs)
          clear hcs
          go_wp2
          go_ret
          exact ⟨rfl, by rw [HT3.out]; exact HOP6.out⟩
        · by_cases hZb : (Z : Int) < (bl : Int)
          · go_wp2_with fail
            refine HCT6.out.mono ?_
            rintro e w7 ⟨rfl, ho7⟩
            have HO7 := hide (HCO.out _ ho7)
            clear ho7
            go_wp2
            go_ret
            exact ⟨rfl, by rw [HT2.out]; exact HO7.out⟩
          · have hcs : cuS rs1 nm ((Z : Int)) = rs1 := hcn (by omega)
            have HT3 := hide (HT2.out.trans hcs)
            clear hcs
            go_wp2
            go_ret
            exact ⟨rfl, by rw [HT3.out]; exact HOP6.out⟩
    · obtain ⟨i, rfl⟩ : ∃ i, j = i + 1 := ⟨j - 1, by omega⟩
      have hii : (((i + 1 : Nat) : Int)) - 1 = (i : Int) := by omega
      rw [hii]
      have hgi : (0 : Int) ≤ (i : Int) := by omega
      have hil : i < len := by omega
      obtain ⟨x, hx⟩ : ∃ x, R.l[i]? = some x := ⟨_, List.getElem?_eq_getElem (by rw [HLN.out]; exact hil)⟩
      obtain ⟨g, cap, cs, e1, hg, hcs, hcl⟩ := row_at HROW.out (by omega)
      injection e1 with e1 e2 e3
      clear e2
      subst e1 e3
      have hix := atN g len cp i (i : Int) rfl hil
      have hsz := HNMS.out i x hx
      obtain ⟨ss, hss⟩ : ∃ ss : List UInt8, x.1 = bA ss := ⟨x.1.data.toList, by apply ByteArray.ext; simp [bA]⟩
      have HCELL : Hid (∀ V : World, Below wr.heap.size wr V → V.cell? ⟨g, i, none⟩ = some (.string (bA ss))) := hide (fun V hV => by
        rw [(hg.on hV).cell]
        have h1 : (cs.take (len * 1))[i]? = some (.string x.1) := by
          rw [hcs]
          exact nmsC_atB hx
        rw [List.getElem?_take, if_pos (by omega), hss] at h1
        exact h1)
      rw [hss, bA_size] at hsz
      have HNU := hide (HNUM.out wr ss hsz)
      have HSTN := hide (HST0.out i x hx)
      have HRMI := hide (fun W R1 => HRM.out i x W R1 hx)
      rw [hss] at HSTN HRMI
      have hcell := HCELL.out _ (Below.refl _ _)
      have hlen2 : i ≤ 1099511000000 := by omega
      clear hg hcs hcl hsz hss hx
      go_wp2_with fail
      refine HNU.out.mono ?_
      rintro e w4 ⟨k, ok, rfl, hnu, hb4⟩
      have HB4 := hide hb4
      have hcell4 := HCELL.out _ hb4
      clear hb4 HNU hcell
      rcases hnu with ⟨rfl, q, hq, hqx, rfl⟩ | ⟨rfl, hno⟩
      · obtain ⟨z, HZ⟩ : ∃ z, Hid (q * P = z) := ⟨_, hide rfl⟩
        rw [HP.out, HZ.out] at hq
        have hmz : (q : Int) * (P : Int) = (z : Int) := by rw [← HZ.out]; exact (Int.natCast_mul q P).symm
        by_cases hnz : n ≤ z
        · have hnzi : (n : Int) ≤ (z : Int) := by omega
          have hB : BhB H n (bA ss) = true := BhB_iff.2 ⟨q, by rw [HP.out, HZ.out]; exact hq, by rw [HP.out, HZ.out]; exact hnz, hqx⟩
          have HRM2 := hide (fun W R1 => HRMI.out W R1 hB)
          clear hqx HRMI hnz hB HSTN
          go_wp2_with fail
          refine (HRM2.out _ R1 (HR1.out.below HB4.out)).mono ?_
          rintro e w5 ⟨rfl, ho5⟩
          have HO5 := hide (RoP.comp HX.out.1 HX.out.2.1 HX.out.2.2 (RoP.pre HB4.out ho5))
          clear ho5 hcell4
          go_wp2
          go_roundw
          case rel => exact ⟨i, by omega, by go_num, HO5⟩
          case measure => simp only [intOf]; omega
        · have hnzi : ¬ (n : Int) ≤ (z : Int) := by omega
          have hB : ¬ BhB H n (bA ss) = true := fun h => by
            obtain ⟨q', h1, h2, h3⟩ := BhB_iff.1 h
            rw [hqx] at h3
            have := (lfN_inj HHH.out HHH.out h3).2
            subst this
            rw [HP.out, HZ.out] at h2
            exact hnz h2
          have hst := HSTN.out hB
          have HO4 : Hid (RoP w3 w4 r s R (trRb rs (rmB H n (R.l.map (·.1)) i))) := hide (by rw [hst]; exact RoP.post HOP.out HB4.out)
          clear hqx HRMI hnz hB HSTN hst hcell4
          go_wp2
          go_roundw
          case rel => exact ⟨i, by omega, by go_num, HO4⟩
          case measure => simp only [intOf]; omega
      · have hB : ¬ BhB H n (bA ss) = true := fun h => by
          obtain ⟨q', h1, h2, h3⟩ := BhB_iff.1 h
          exact hno q' h1 h3
        have hst := HSTN.out hB
        have HO4 : Hid (RoP w3 w4 r s R (trRb rs (rmB H n (R.l.map (·.1)) i))) := hide (by rw [hst]; exact RoP.post HOP.out HB4.out)
        clear hno HRMI hB HSTN hst hcell4
        go_wp2
        go_roundw
        case rel => exact ⟨i, by omega, by go_num, HO4⟩
        case measure => simp only [intOf]; omega

end Go.Proofs.YtpocadbhajacaaaGreatDoor

/-
  What the law's laid makes of its files, without any program.
-/
namespace Go.Proofs.YtpocadbhajacaaaGreatDoor
open Go.RowKit Go.Shelf
set_option linter.unusedVariables false
set_option linter.unusedSimpArgs false

theorem Sl.chs {S : Nat → Prop} {w w' : World} {a : Option Addr} {n c : Nat} {xs : List Int} (h : Sl w a n c xs) (hc : Chs S w w') (hn : 0 < n → ∀ x, a = some x → ¬ S x.block) : Sl w' a n c xs := by
  obtain ⟨h1, h2, h3, h4, h5, h6, h7⟩ := h
  refine ⟨h1, h2, h3, h4, h5, h6, fun h0 => ?_⟩
  obtain ⟨b, off, e, hce⟩ := h7 h0
  refine ⟨b, off, e, fun i hi => ?_⟩
  rw [World.cell?_of_block (w := w) (hc.block b (World.block_lt_of_cell? w _ (hce i hi)) (hn h0 ⟨b, off, none⟩ e))]
  exact hce i hi
/-- One leaf more. -/
theorem play_cr {rs : List Rw} {n : ByteArray} (h : crE rs n = 0) : play (crS rs n) = upd (play rs) n (some []) := by
  simp only [crS, h, if_true]
  rw [play_snoc, do_cr]
theorem play_ap {s : Nat} (hs : 1 ≤ s) {rs : List Rw} {n : ByteArray} {b : List Int} (hb : isB b) (h : fE rs n = 0) : play (apS s rs n b) = upd (play rs) n (some (fl (play rs) n ++ b)) := by
  by_cases hb0 : b = []
  · subst hb0
    have e : apS s rs n [] = rs := by simp [apS]
    have hn : (play rs n).isSome = true := by
      unfold fE at h
      split at h
      · split at h
        · assumption
        · cases h
      · cases h
    rw [e, List.append_nil]
    funext x
    unfold upd
    split
    · rename_i hx
      subst hx
      cases hp : play rs x with
      | none => rw [hp] at hn; cases hn
      | some y => simp [fl, hp]
    · rfl
  · have hn : nmB n = true := by
      unfold fE at h
      split at h
      · assumption
      · cases h
    obtain ⟨xs, hxs⟩ : ∃ xs, play rs n = some xs := by
      unfold fE at h
      rw [if_pos hn] at h
      split at h
      · rename_i hh
        exact Option.isSome_iff_exists.1 hh
      · cases h
    have e : apS s rs n b = rs ++ expd s ⟨rAp n b, rs.length, (fl (play rs) n).length⟩ := by
      simp only [apS, h]
      rw [if_pos ⟨trivial, hb0⟩]
    rw [e, play_app]
    have := (expd_does hs (f := play rs) (e := ⟨rAp n b, rs.length, (fl (play rs) n).length⟩) (.inr (.inl ⟨n, b, xs, rfl, hn, hxs, hb0, hb⟩)) rfl).1
    rw [this]
    exact do_ap _ _ _
/-- How much files that weigh m have made, of which there are k. -/
structure Lw (rs : List Rw) (m k : Nat) : Prop where
  len : ∀ n, (fl (play rs) n).length ≤ m
  cnt : ∃ l, FL (play rs) l ∧ l.length ≤ k
  wt : wt rs ≤ 2 * m
theorem Lw.nil : Lw [] 0 0 := ⟨fun n => by simp [play, fl], ⟨[], FL.nil, Nat.le_refl _⟩, by simp [Go.Proofs.YtpocadbhajacaaaGreatDoor.wt]⟩
theorem Lw.all {rs : List Rw} {m k : Nat} (h : Lw rs m k) : ∀ l, FL (play rs) l → l.length ≤ k := fun l hl => by
  obtain ⟨l0, h0, h1⟩ := h.cnt
  have := (FL.ext hl h0).2 rfl
  rw [this]
  exact h1
theorem fl_put {f : ByteArray → Option (List Int)} {l : List (ByteArray × List Int)} (h : FL f l) (n : ByteArray) (ys : List Int) : ∃ l', FL (upd f n (some ys)) l' ∧ l'.length ≤ l.length + 1 ∧ ((f n).isSome = true → l'.length ≤ l.length) := by
  obtain ⟨A, B, rfl, _, hA, h2⟩ := h.split n
  rcases h2 with ⟨hn, hB⟩ | ⟨xs, B', hn, rfl, hB⟩
  · exact ⟨_, h.put hA hB ys, by simp; omega, fun e => by rw [hn] at e; cases e⟩
  · exact ⟨_, h.set hA hB ys, by simp, fun _ => by simp⟩
theorem crS_no {rs : List Rw} {n : ByteArray} (h : crE rs n ≠ 0) : crS rs n = rs := by simp [crS, h]
theorem apS_no {s : Nat} {rs : List Rw} {n : ByteArray} {b : List Int} (h : fE rs n ≠ 0) : apS s rs n b = rs := by simp [apS, h]
theorem wt_crL (rs : List Rw) (n : ByteArray) : wt (crS rs n) ≤ wt rs + 1 := by
  unfold crS
  split
  · rw [wt_app]; simp [wt, rCr]
  · omega
theorem wt_apL {s : Nat} (hs : 1 ≤ s) (rs : List Rw) (n : ByteArray) (b : List Int) : wt (apS s rs n b) ≤ wt rs + 2 * b.length + 1 := by
  unfold apS
  split
  · rw [wt_app]
    have := expd_wt hs ⟨rAp n b, rs.length, (fl (play rs) n).length⟩
    have e : (rAp n b).b = b := rfl
    simp only [e] at this
    omega
  · omega
/-- One file more. -/
theorem Lw.add {s : Nat} (hs : 1 ≤ s) {rs : List Rw} {m k : Nat} (h : Lw rs m k) (n : ByteArray) {b : List Int} (hb : isB b) : Lw (apS s (crS rs n) n b) (m + (b.length + 3)) (k + 1) := by
  have w1 := wt_crL rs n
  have w2 := wt_apL hs (crS rs n) n b
  have hw := h.wt
  have h1 : (∀ x, (fl (play (crS rs n)) x).length ≤ m) ∧ ∃ l, FL (play (crS rs n)) l ∧ l.length ≤ k + 1 := by
    obtain ⟨l, hl, hk⟩ := h.cnt
    by_cases hc : crE rs n = 0
    · rw [play_cr hc]
      obtain ⟨l', h3, h4, _⟩ := fl_put hl n []
      refine ⟨fun x => ?_, l', h3, by omega⟩
      by_cases hx : x = n
      · subst hx
        simp [fl, upd_same]
      · have := h.len x
        simpa [fl, upd_ne _ _ hx] using this
    · rw [crS_no hc]
      exact ⟨h.len, l, hl, by omega⟩
  obtain ⟨h2, l, hl, hk⟩ := h1
  refine ⟨?_, ?_, by omega⟩
  · by_cases hf : fE (crS rs n) n = 0
    · rw [play_ap hs hb hf]
      intro x
      by_cases hx : x = n
      · subst hx
        have := h2 x
        simp only [fl, upd_same, List.length_append] at this ⊢
        simp only [Option.getD_some, List.length_append]
        omega
      · have := h2 x
        have e : fl (upd (play (crS rs n)) n (some (fl (play (crS rs n)) n ++ b))) x = fl (play (crS rs n)) x := by simp [fl, upd_ne _ _ hx]
        rw [e]
        omega
    · rw [apS_no hf]
      intro x
      have := h2 x
      omega
  · by_cases hf : fE (crS rs n) n = 0
    · rw [play_ap hs hb hf]
      obtain ⟨l', h3, _, h5⟩ := fl_put hl n (fl (play (crS rs n)) n ++ b)
      refine ⟨l', h3, ?_⟩
      have hsome : (play (crS rs n) n).isSome = true := by
        unfold fE at hf
        split at hf
        · split at hf
          · assumption
          · cases hf
        · cases hf
      have := h5 hsome
      omega
    · rw [apS_no hf]
      exact ⟨l, hl, hk⟩

end Go.Proofs.YtpocadbhajacaaaGreatDoor

/-
  The two disks beside each other, in the law's laid.
-/
namespace Go.Proofs.YtpocadbhajacaaaGreatDoor
open Go.RowKit
set_option linter.unusedVariables false

theorem DkAt.chL {a b : World} {d s : Nat} {rs : List Rw} {D : Dm} {S : Nat → Prop} (h : DkAt a d s rs D) (hc : Chs S a b) (hn : ∀ k, D.own d k ∨ D.ro k → ¬ S k) : DkAt b d s rs D := h.same (fun k hk => hc.block k (h.lt hk) (hn k hk))
/-- All blocks that the two disks look at. -/
def Foot (d r : Nat) (D : Dm) (R : Rm) (k : Nat) : Prop := (D.own d k ∨ D.ro k) ∨ (R.own r k ∨ R.ro k)
/-- The program's disk and the document's, with the same raw writes, in memory of their own. -/
structure LP (w W : World) (d r s : Nat) (rs : List Rw) (D : Dm) (R : Rm) : Prop where
  dk : DkAt W d s rs D
  rk : RkAt W r s rs R
  ap : ∀ k, D.own d k ∨ D.ro k → ¬ (R.own r k ∨ R.ro k)
  lo : ∀ k, Foot d r D R k → w.heap.size ≤ k
  bel : Below w.heap.size w W
section
variable {w W W1 W2 : World} {d r s : Nat} {rs rs' : List Rw} {D : Dm} {R : Rm}
theorem LP.lt (h : LP w W d r s rs D R) {k : Nat} (hk : Foot d r D R k) : k < W.heap.size := hk.elim h.dk.lt h.rk.lt
theorem LP.on (h : LP w W d r s rs D R) (hb : Below W.heap.size W W1) : LP w W1 d r s rs D R := ⟨h.dk.below hb, h.rk.below hb, h.ap, h.lo, on_below h.bel hb⟩
/-- Behind the program's call the document's disk is as it was. -/
theorem LP.chs1 {S : Nat → Prop} (h : LP w W d r s rs D R) (hc : Chs S W W1) (hS : ∀ k, S k → D.own d k) : RkAt W1 r s rs R ∧ Below w.heap.size w W1 :=
  ⟨h.rk.chs hc (fun k hk hs => h.ap k (.inl (hS k hs)) hk), h.bel.trans (hc.below (fun k hk ho => by have := h.lo k (.inl (.inl (hS k ho))); omega) h.bel.size)⟩
theorem LP.op1 (h : LP w W d r s rs D R) (ho : OpR W W1 d s D rs') : RkAt W1 r s rs R ∧ Below w.heap.size w W1 := by
  obtain ⟨D', _, hc, _, _⟩ := ho
  exact h.chs1 hc (fun k hk => hk)
theorem LP.keep1 (h : LP w W d r s rs D R) (ho : OpR W W1 d s D rs') {g : Nat} {t : TypeId} {cs : List Value} (hg : Blk W g t cs) (hn : ¬ Foot d r D R g) : Blk W1 g t cs := by
  obtain ⟨D', _, hc, _, _⟩ := ho
  exact hg.chs hc (fun h => hn (.inl (.inl h)))
theorem LP.keep2 (hr : RoP W1 W2 r s R rs') {g : Nat} {t : TypeId} {cs : List Value} (hg : Blk W1 g t cs) (hn : ¬ Foot d r D R g) : Blk W2 g t cs := by
  obtain ⟨R', _, hc, _, _⟩ := hr
  exact hg.chs hc (fun h => hn (.inr (.inl h)))
/-- Both calls, one behind the other. -/
theorem LP.both (h : LP w W d r s rs D R) (ho : OpR W W1 d s D rs') (hr : RoP W1 W2 r s R rs') :
    ∃ D' R', LP w W2 d r s rs' D' R' ∧ ∀ k, Foot d r D' R' k → Foot d r D R k ∨ W.heap.size ≤ k := by
  have hb1 := (h.op1 ho).2
  obtain ⟨D', dk', ch1, own1, ro1⟩ := ho
  obtain ⟨R', rk', ch2, own2, ro2⟩ := hr
  have hs0 := h.bel.size
  have hs1 := ch1.size
  have fD : ∀ k, D'.own d k ∨ D'.ro k → (D.own d k ∨ D.ro k) ∨ W.heap.size ≤ k := fun k hk => by
    rcases hk with hk | hk
    · exact (own1 k hk).imp .inl id
    · exact (ro1 k hk).imp .inr id
  have fR : ∀ k, R'.own r k ∨ R'.ro k → (R.own r k ∨ R.ro k) ∨ W1.heap.size ≤ k := fun k hk => by
    rcases hk with hk | hk
    · exact (own2 k hk).imp .inl id
    · exact (ro2 k hk).imp .inr id
  have nR : ∀ k, D'.own d k ∨ D'.ro k → ¬ (R.own r k ∨ R.ro k) := fun k hk hR => by
    rcases fD k hk with e | e
    · exact h.ap k e hR
    · have := h.rk.lt hR; omega
  have ft : ∀ k, Foot d r D' R' k → Foot d r D R k ∨ W.heap.size ≤ k := fun k hk => by
    rcases hk with hk | hk
    · exact (fD k hk).imp .inl id
    · rcases fR k hk with e | e
      · exact .inl (.inr e)
      · exact .inr (by omega)
  refine ⟨D', R', ⟨dk'.chL ch2 (fun k hk hR => nR k hk (.inl hR)), rk', fun k hk hR => ?_, fun k hk => ?_, hb1.trans (ch2.below (fun k hk ho => by have := h.lo k (.inr (.inl ho)); omega) hb1.size)⟩, ft⟩
  · rcases fR k hR with e | e
    · exact nR k hk e
    · have := dk'.lt hk; omega
  · rcases ft k hk with e | e
    · exact h.lo k e
    · omega
theorem LP.new {m g : Nat} (h1 : 1 ≤ s) (h2 : s ≤ 4096) (hN : New0 w W1 d m s) (hR : RkAt W2 g s [] rm0) (hg : W1.heap.size ≤ g) (hb : Below W1.heap.size W1 W2) : LP w W2 d g s [] ⟨m, .slice none 0 0, [], []⟩ rm0 := by
  have dk := hN.dkAt h1 h2
  have hs := hN.bel.size
  have hr : ∀ k, rm0.own g k ∨ rm0.ro k → W1.heap.size ≤ k := fun k hk => by
    rcases hk with hk | ⟨x, hx, _⟩
    · exact rm0_own hg k hk
    · cases hx
  refine ⟨dk.below hb, hR, ?_, ?_, on_below hN.bel hb⟩
  · intro k hk hq
    have h3 := dk.lt hk
    have h4 := hr k hq
    omega
  · intro k hk
    rcases hk with (hk | ⟨x, hx, _⟩) | hk
    · exact hN.own k hk
    · cases hx
    · have := hr k hk; omega
end

end Go.Proofs.YtpocadbhajacaaaGreatDoor

/-
  The law's disks: names that may be, the memory that stands through it.
-/
namespace Go.Proofs.YtpocadbhajacaaaGreatDoor
open Go.RowKit Go.Shelf
set_option linter.unusedVariables false

theorem Blk.kept {A B : World} {g : Nat} {t : TypeId} {cs : List Value} {row : Option Nat} (h : Blk A g t cs) (hg : A.grownBy B row) (hr : ∀ r, row = some r → ∃ o : Obj, A.heap[r]? = some o ∧ o.isCells = false) : Blk B g t cs := by
  have e : B.heap[g]? = A.heap[g]? := hg.block g h.lt (fun e => by
    obtain ⟨o, ho, hc⟩ := hr g e.symm
    rw [h] at ho
    injection ho with ho
    subst ho
    cases hc)
  unfold Blk
  rw [e]
  exact h
theorem RkAt.nmR {w : World} {r s : Nat} {rs : List Rw} {R : Rm} (h : RkAt w r s rs R) {n : ByteArray} {xs : List Int} (hn : play rs n = some xs) : nmB n = true := by
  cases hb : nmB n with
  | true => rfl
  | false =>
    have := Nmd.play h.val n hb
    rw [hn] at this
    cases this
theorem rl_own (ls : List (ByteArray × List Int)) (B : Nat) (pre : List ByteArray) (x : ByteArray) : OwnFrom B (fun (_ : Unit) W => RL ls pre x W) := fun _ W W' row h hg hr => h
/-- What stands through the law's stands. -/
structure SD (w W : World) (b2 b3 b4 b5 d r s : Nat) (rs : List Rw) (D : Dm) (R : Rm) (av : Option Addr) (cv : Nat) : Prop where
  c2 : Blk W b2 26 [.pointer (some ⟨d, 0, none⟩)]
  c3 : Blk W b3 27 [.pointer (some ⟨r, 0, none⟩)]
  c4 : Blk W b4 4 [.bool false]
  c5 : Blk W b5 74 [.slice av R.l.length cv]
  row : W.ownsRow w.heap.size 9 1 (.slice av R.l.length cv) R.l.length (nmsC R.l)
  dk : DkAt W d s rs D
  rk : RkAt W r s rs R
  bel : Below w.heap.size w W
  l4 : w.heap.size ≤ b4
section
variable {w W W' : World} {b2 b3 b4 b5 d r s : Nat} {rs : List Rw} {D : Dm} {R : Rm} {av : Option Addr} {cv : Nat}
theorem SD.on (h : SD w W b2 b3 b4 b5 d r s rs D R av cv) (hb : Below W.heap.size W W') : SD w W' b2 b3 b4 b5 d r s rs D R av cv :=
  ⟨h.c2.on hb, h.c3.on hb, h.c4.on hb, h.c5.on hb, row_on h.row hb, h.dk.below hb, h.rk.below hb, on_below h.bel hb, h.l4⟩
theorem SD.q2 (h : SD w W b2 b3 b4 b5 d r s rs D R av cv) : W.cell? ⟨b2, 0, none⟩ = some (.pointer (some ⟨d, 0, none⟩)) := by rw [h.c2.cell]; rfl
theorem SD.q3 (h : SD w W b2 b3 b4 b5 d r s rs D R av cv) : W.cell? ⟨b3, 0, none⟩ = some (.pointer (some ⟨r, 0, none⟩)) := by rw [h.c3.cell]; rfl
theorem SD.q5 (h : SD w W b2 b3 b4 b5 d r s rs D R av cv) : W.cell? ⟨b5, 0, none⟩ = some (.slice av R.l.length cv) := by rw [h.c5.cell]; rfl
theorem SD.r0 (h : SD w W b2 b3 b4 b5 d r s rs D R av cv) : W.cell? ⟨r, 0, none⟩ = some (.int .i64 (s : Int)) := by rw [h.rk.fk.blk.cell]; rfl
theorem SD.r2 (h : SD w W b2 b3 b4 b5 d r s rs D R av cv) : ∃ a c, R.qv = .slice a rs.length c ∧ W.cell? ⟨r, 2, none⟩ = some (.slice a rs.length c) := by
  obtain ⟨a, c, e⟩ := row_slice h.rk.row
  rw [h.rk.qlen] at e
  exact ⟨a, c, e, by rw [h.rk.fk.blk.cell, ← e]; rfl⟩
end
/-- What the loop over the names keeps besides: its counter. -/
structure AS (W3 W : World) (b6 : Nat) (i : Nat) : Prop where
  bel : Below W3.heap.size W3 W
  c6 : Blk W b6 3 [.int .i64 (i : Int)]
  l6 : W3.heap.size ≤ b6
theorem AS.kept {W3 A C : World} {b6 B i : Nat} {row : Option Nat} (h : AS W3 A b6 i) (hB : W3.heap.size ≤ B) (hg : A.grownBy C row) (hr : ∀ r, row = some r → B ≤ r ∧ ∃ o : Obj, A.heap[r]? = some o ∧ o.isCells = false) : AS W3 C b6 i :=
  ⟨h.bel.grown hg h.bel.size (fun r e => Nat.le_trans hB (hr r e).1), h.c6.kept hg (fun r e => (hr r e).2), h.l6⟩
theorem AS.on {W3 A C : World} {b6 i : Nat} (h : AS W3 A b6 i) (hb : Below A.heap.size A C) : AS W3 C b6 i := ⟨on_below h.bel hb, h.c6.on hb, h.l6⟩
theorem AS.set {W3 W : World} {b6 i : Nat} (h : AS W3 W b6 i) (j : Nat) : AS W3 (W.setCell ⟨b6, 0, none⟩ (.int .i64 (j : Int))) b6 j :=
  ⟨h.bel.trans ((But.setCell W b6 0 (.int .i64 (j : Int))).below h.l6), h.c6.set 0 _, h.l6⟩
theorem AS.but {W3 W W' : World} {b6 i g : Nat} (h : AS W3 W b6 i) (hb : But g W W') (hg : W3.heap.size ≤ g) (hne : b6 ≠ g) : AS W3 W' b6 i := ⟨h.bel.trans (hb.below hg), h.c6.but hb hne, h.l6⟩
/-- Of a file that is there: its bytes. -/
theorem stand_read {w : World} {d s : Nat} {rs : List Rw} {D : Dm} (h : DkAt w d s rs D) {n : ByteArray} {xs : List Int} (hn : nmB n = true) (hf : play rs n = some xs) (hwt : wt rs ≤ 1099511000000) :
    Calls Tryz.prog 50 #[.pointer (some ⟨d, 0, none⟩), .string n, .int .i64 0, .int .i64 ((xs.length : Int) + 1)] w fun e w' => ∃ v, e = .returned (.tuple #[v, .int .i64 0]) ∧ Own w' w.heap.size v xs ∧ Below w.heap.size w w' := by
  have e0 : fE rs n = 0 := by simp [fE, hn, hf]
  have e1 : fl (play rs) n = xs := by simp [fl, hf]
  have e2 : rqE rs n 0 ((xs.length : Int) + 1) = 0 := by
    unfold rqE
    rw [e0, e1, if_pos rfl, if_neg (by omega)]
  have e3 : rqB rs n 0 ((xs.length : Int) + 1) = xs := by
    unfold rqB
    rw [e2, e1, if_pos rfl]
    have e4 : min ((xs.length : Int) + 1).toNat (xs.length - (0 : Int).toNat) = xs.length := by
      simp only [Int.toNat_zero]
      omega
    rw [e4]
    simp
  have := read_any d s rs D w h n 0 ((xs.length : Int) + 1) hwt
  rwa [e2, e3] at this
theorem stand_all {w : World} {r s : Nat} {rs : List Rw} {R : Rm} (h : RkAt w r s rs R) {n : ByteArray} {xs : List Int} (hf : play rs n = some xs) (hwt : wt rs ≤ 1099511000000) :
    Calls Tryz.prog 36 #[.pointer (some ⟨r, 0, none⟩), .string n] w fun e w' => e = .returned (.tuple #[.string (str xs), .bool true]) ∧ Below w.heap.size w w' := by
  have e1 : fl (play rs) n = xs := by simp [fl, hf]
  have := all_any r s rs R w h n hwt
  rwa [e1, hf] at this


end Go.Proofs.YtpocadbhajacaaaGreatDoor

/-
  The law's disks: the program's disk has the files that the document's has.
-/
namespace Go.Proofs.YtpocadbhajacaaaGreatDoor
open Go.RowKit Go.Shelf
set_option linter.unusedVariables false
set_option linter.unusedSimpArgs false

set_option maxRecDepth 100000 in
set_option maxHeartbeats 2000000 in
theorem disks_any (d r s : Nat) (rs : List Rw) (D : Dm) (R : Rm) (w : World) (h : DkAt w d s rs D) (h' : RkAt w r s rs R) (hwt : wt rs ≤ 1000000000000) :
    Calls Tryz.prog 17 #[.pointer (some ⟨d, 0, none⟩), .pointer (some ⟨r, 0, none⟩)] w fun e w' => e = .returned (.bool true) ∧ Below w.heap.size w w' := by
  have HD := hide h
  have HR := hide h'
  have HW := hide hwt
  have HW2 : Hid (wt rs ≤ 1099511000000) := hide (by omega)
  clear h h' hwt
  refine (callsIn_wide (n := 7)).1 ?_
  refine callsIn_of_wp_marks Tryz.func17 rfl trivial ?_ rfl
  refine wpIn_wide.2 ?_
  simp only [Tryz.ntmps17, List.size_toArray, List.length_cons, List.length_nil, Nat.reduceAdd, Nat.reduceSub, Array.replicate_succ, Array.replicate_zero, List.push_toArray, List.append_toArray, List.nil_append, List.cons_append]
  go_wp2_with fail
  have c2 : Blk (((w.alloc (.cells #[.pointer (some ⟨d, 0, none⟩)] 26)).alloc (.cells #[.pointer (some ⟨r, 0, none⟩)] 27)).alloc (.cells #[.bool false] 4)) w.heap.size 26 [.pointer (some ⟨d, 0, none⟩)] := ((Blk.made w _ _).on ((Below.refl _ _).alloc (Nat.le_refl _) _)).on ((Below.refl _ _).alloc (Nat.le_refl _) _)
  have c3 : Blk (((w.alloc (.cells #[.pointer (some ⟨d, 0, none⟩)] 26)).alloc (.cells #[.pointer (some ⟨r, 0, none⟩)] 27)).alloc (.cells #[.bool false] 4)) (w.heap.size + 1) 27 [.pointer (some ⟨r, 0, none⟩)] := by
    have := (Blk.made (w.alloc (.cells #[.pointer (some ⟨d, 0, none⟩)] 26)) 27 [.pointer (some ⟨r, 0, none⟩)]).on ((Below.refl _ _).alloc (o := .cells #[.bool false] 4) (Nat.le_refl _))
    rwa [World.size_alloc] at this
  have c4 : Blk (((w.alloc (.cells #[.pointer (some ⟨d, 0, none⟩)] 26)).alloc (.cells #[.pointer (some ⟨r, 0, none⟩)] 27)).alloc (.cells #[.bool false] 4)) (w.heap.size + 2) 4 [.bool false] := by
    have := Blk.made ((w.alloc (.cells #[.pointer (some ⟨d, 0, none⟩)] 26)).alloc (.cells #[.pointer (some ⟨r, 0, none⟩)] 27)) 4 [.bool false]
    rwa [World.size_alloc, World.size_alloc] at this
  have B0 : Below w.heap.size w (((w.alloc (.cells #[.pointer (some ⟨d, 0, none⟩)] 26)).alloc (.cells #[.pointer (some ⟨r, 0, none⟩)] 27)).alloc (.cells #[.bool false] 4)) := (((Below.refl _ w).alloc (Nat.le_refl _) _).alloc (by simp) _).alloc (by simp; omega) _
  revert c2 c3 c4 B0
  generalize ((w.alloc (.cells #[.pointer (some ⟨d, 0, none⟩)] 26)).alloc (.cells #[.pointer (some ⟨r, 0, none⟩)] 27)).alloc (.cells #[.bool false] 4) = W0
  obtain ⟨b2, hb2⟩ : ∃ b, w.heap.size = b := ⟨_, rfl⟩
  obtain ⟨b3, hb3⟩ : ∃ b, w.heap.size + 1 = b := ⟨_, rfl⟩
  obtain ⟨b4, hb4⟩ : ∃ b, w.heap.size + 1 + 1 = b := ⟨_, rfl⟩
  have HB4 : Hid (w.heap.size ≤ b4) := hide (by omega)
  intro c2 c3 c4 B0
  rw [hb3] at c3
  rw [hb4] at c4
  rw [hb2] at c2
  rw [hb4, hb3, hb2]
  have C2 := hide c2
  have C3 := hide c3
  have C4 := hide c4
  have BB0 := hide B0
  clear c2 c3 c4 B0 hb2 hb3 hb4
  refine (listR_any r s rs R W0 (HR.out.below BB0.out) HW2.out).mono ?_
  rintro _ W1 ⟨v, rfl, hrow, hb1⟩
  obtain ⟨av, cv, rfl⟩ := row_slice hrow
  have ROW := hide hrow
  have BB1 := hide hb1
  clear hrow hb1
  go_upto_region 3 with fail
  have hbA : Below W1.heap.size W1 (W1.alloc (.cells #[.slice av R.l.length cv] 74)) := (Below.refl _ _).alloc (Nat.le_refl _) _
  have S1 : Hid (SD w (W1.alloc (.cells #[.slice av R.l.length cv] 74)) b2 b3 b4 W1.heap.size d r s rs D R av cv) := hide
    ⟨(C2.out.on BB1.out).on hbA, (C3.out.on BB1.out).on hbA, (C4.out.on BB1.out).on hbA, Blk.made W1 _ _, ownsRow_base_a (row_on ROW.out hbA) BB0.out.size, (HD.out.below (on_below BB0.out BB1.out)).below hbA, (HR.out.below (on_below BB0.out BB1.out)).below hbA, on_below (on_below BB0.out BB1.out) hbA, HB4.out⟩
  have A1 : Hid (AS (W1.alloc (.cells #[.slice av R.l.length cv] 74)) ((W1.alloc (.cells #[.slice av R.l.length cv] 74)).alloc (.cells #[.int .i64 0] 3)) (W1.heap.size + 1) 0) := hide
    ⟨(Below.refl _ _).alloc (Nat.le_refl _) _, by have := Blk.made (W1.alloc (.cells #[.slice av R.l.length cv] 74)) 3 [.int .i64 0]; rwa [World.size_alloc] at this, by simp⟩
  clear hbA C2 C3 C4 BB0 BB1 ROW
  revert S1 A1
  generalize (W1.alloc (.cells #[.slice av R.l.length cv] 74)).alloc (.cells #[.int .i64 0] 3) = W4
  generalize W1.alloc (.cells #[.slice av R.l.length cv] 74) = W3
  obtain ⟨b6, hb6⟩ : ∃ b, W1.heap.size + 1 = b := ⟨_, rfl⟩
  obtain ⟨b5, hb5⟩ : ∃ b, W1.heap.size = b := ⟨_, rfl⟩
  rw [hb6, hb5]
  intro S1 A1
  clear hb6 hb5
  have S4 := hide (S1.out.on A1.out.bel)
  have k2 := S4.out.q2
  go_wp2_with fail
  refine (list_any (some ⟨d, 0, none⟩) _).mono ?_
  rintro _ W5 ⟨rfl, rfl⟩
  have hbA : Below W4.heap.size W4 (W4.alloc (.cells #[.pointer (some ⟨d, 0, none⟩)] 26)) := (Below.refl _ _).alloc (Nat.le_refl _) _
  have S5 := hide (S4.out.on hbA)
  have A5 := hide (A1.out.on hbA)
  clear hbA k2 S4 A1
  revert S5 A5
  generalize W4.alloc (.cells #[.pointer (some ⟨d, 0, none⟩)] 26) = W5
  generalize W4.heap.size = bx0
  intro S5 A5
  have heq : ∀ v : World, (binOp BinOp.eql 105 (.func (.func 79) #[] #[.pointer (some ⟨bx0, 0, none⟩)]) .nilFunc).run Tryz.prog v = .ok (.bool false) v := fun v => by kernel_rfl
  have k2 := S5.out.q2
  go_wp2_with fail
  refine (list_any (some ⟨d, 0, none⟩) _).mono ?_
  rintro _ W6 ⟨rfl, rfl⟩
  have hbA : Below W5.heap.size W5 (W5.alloc (.cells #[.pointer (some ⟨d, 0, none⟩)] 26)) := (Below.refl _ _).alloc (Nat.le_refl _) _
  have S6 := hide (S5.out.on hbA)
  have A6 := hide (A5.out.on hbA)
  have BX : Hid (Blk (W5.alloc (.cells #[.pointer (some ⟨d, 0, none⟩)] 26)) W5.heap.size 26 [.pointer (some ⟨d, 0, none⟩)]) := hide (Blk.made _ _ _)
  clear hbA k2 S5 A5 heq
  revert S6 A6 BX
  generalize W5.alloc (.cells #[.pointer (some ⟨d, 0, none⟩)] 26) = W6
  generalize W5.heap.size = bx
  intro S6 A6 BX
  have hB6 : b6 < W6.heap.size := A6.out.c6.lt
  have hB3 : W3.heap.size ≤ W6.heap.size := A6.out.bel.size
  have HSQ := hide (list_seq bx d s rs D S6.out.rk.fls HW2.out W6 BX.out S6.out.dk)
  go_wp2_with fail
  refine (wpIn_wide (n := 7)).1 ?_
  refine rangeR rfl (by decide) (gf := 79) (lb := #[.pointer (some ⟨bx, 0, none⟩)]) rfl trivial (enters_of Tryz.func79 (by kernel_rfl) rfl)
    HSQ.out KS.trans (fun x W l o o' hl h hc => KS.book W l o o' h hc) (fun _ => rfl) (fun pre x => rl_own _ _ pre x)
    (fun pre W => AS W3 W b6 pre.length) (fun _ _ _ => False)
    (fun _ A C row h hg hr => h.kept hB3 hg hr) (fun c _ A C row h hg hr => h)
    A6.out ?act ?assign ?body ?done ?stop
  case assign =>
    rintro l x W K hK
    have hsem := Oper.semAt_some
    gi_wp2
    exact hK
  case stop =>
    rintro D2 c pre W9 hD2 hSp h hK3
    exact h.elim
  case body =>
    rintro l pre x W hA ⟨hp1, ys, hx⟩
    have hsem := Oper.semAt_some
    obtain ⟨k, HKK⟩ : ∃ k, Hid (pre.length = k) := ⟨_, hide rfl⟩
    rw [HKK.out] at hA hx
    have HPL : Hid ((pre ++ [x]).length = k + 1) := hide (by rw [List.length_append, HKK.out]; rfl)
    have HA := hide hA
    have hb6W : b6 < W.heap.size := hA.c6.lt
    have hW3W : W3.heap.size ≤ W.heap.size := hA.bel.size
    have SW := hide (S1.out.on hA.bel)
    have k3 := SW.out.q3
    have k5 := SW.out.q5
    have k6 : W.cell? ⟨b6, 0, none⟩ = some (.int .i64 (k : Int)) := by rw [hA.c6.cell]; rfl
    have hkl : k < R.l.length := (List.getElem?_eq_some_iff.1 hx).1
    obtain ⟨g, cap, cs, e1, hg, hcs, _⟩ := row_at SW.out.row (by omega)
    injection e1 with e1 e2 e3
    clear e2
    subst e1 e3
    have hix := st_at g R.l.length cv k hkl
    have hcell : W.cell? ⟨g, k, none⟩ = some (.string x) := by
      rw [hg.cell]
      have h1 : (nmsC R.l)[k]? = some (.string x) := by unfold nmsC; rw [List.getElem?_map, hx]; rfl
      rw [← hcs, List.getElem?_take, if_pos (by omega)] at h1
      exact h1
    have hf : Hid (play rs x = some ys) := hide ((SW.out.rk.fls.mem x ys).2 (List.mem_of_getElem? hx))
    have hnm : Hid (nmB x = true) := hide (SW.out.rk.nmR hf.out)
    have hlti : ¬ (R.l.length : Int) ≤ (k : Int) := by omega
    clear hx hg hcs hA hp1
    gi_wp2_with fail
    refine ⟨trivial, (calls_round (WideF.round l) (stand_all SW.out.rk hf.out HW2.out)).mono ?_⟩
    rintro _ Wa ⟨rfl, hba⟩
    have KOa := hide (keepsO_below hba)
    have KLa : Hid (KS W Wa) := hide (KS.below hba)
    have HAa := hide (HA.out.on hba)
    have SWa := hide (SW.out.on hba)
    have k2 := SWa.out.q2
    clear hba k3 k5 k6 hix hcell HA SW
    obtain ⟨Y, HYY⟩ : ∃ Y, Hid (str ys = Y) := ⟨_, hide rfl⟩
    have hyl : ys.length ≤ 1099511000000 := by
      have := play_wt rs x
      have e1 : fl (play rs) x = ys := by simp [fl, hf.out]
      rw [e1] at this
      have := HW2.out
      omega
    have hys : Y.size = ys.length := by rw [← HYY.out]; exact str_size ys
    have HYL := hide hyl
    have RD : Hid (∀ W : World, DkAt W d s rs D → Calls Tryz.prog 50 #[.pointer (some ⟨d, 0, none⟩), .string x, .int .i64 0, .int .i64 ((ys.length : Int) + 1)] W fun e w' => ∃ v, e = .returned (.tuple #[v, .int .i64 0]) ∧ Own w' W.heap.size v ys ∧ Below W.heap.size W w') := hide (fun W hW => stand_read hW hnm.out hf.out HW2.out)
    rw [HYY.out]
    obtain ⟨yl, HYLN⟩ : ∃ yl, Hid (ys.length = yl) := ⟨_, hide rfl⟩
    rw [HYLN.out] at RD hys hyl
    gi_wp2_with fail
    refine ⟨trivial, (calls_round (WideF.round l) (RD.out _ SWa.out.dk)).mono ?_⟩
    rintro _ Wb ⟨v1, rfl, ho1, hbb⟩
    have KOb := hide (KOa.out.trans (keepsO_below hbb))
    have KLb : Hid (KS W Wb) := hide (KLa.out.trans (KS.below hbb))
    have HAb := hide (HAa.out.on hbb)
    have SWb := hide (SWa.out.on hbb)
    have hisb := SWb.out.rk.isb hf.out
    obtain ⟨a1, c1, e1, s1⟩ := ho1.sl' hisb (by have := HYL.out; omega)
    have hcv := toStr s1
    rw [HYY.out] at hcv
    rw [HYLN.out] at e1 hcv
    subst e1
    have k6 : Wb.cell? ⟨b6, 0, none⟩ = some (.int .i64 (k : Int)) := by rw [HAb.out.c6.cell]; rfl
    have f6 := HAb.out.c6.free 0
    have HA7 := hide (HAb.out.set (k + 1))
    have KO7 : Hid (KeepsOthers W (Wb.setCell ⟨b6, 0, none⟩ (.int .i64 ((k + 1 : Nat) : Int)))) := hide (KOb.out.trans (KeepsOthers.setCell _ _ _))
    have KL7 : Hid (KS W (Wb.setCell ⟨b6, 0, none⟩ (.int .i64 ((k + 1 : Nat) : Int)))) := hide (KLb.out.trans (KS.but (But.setCell _ _ _ _) HAb.out.c6 (by decide)))
    have hk1 : (((k + 1 : Nat) : Int)) = (k : Int) + 1 := by omega
    rw [hk1] at HA7 KO7 KL7
    have hkb : (k : Int) < 9223372036854775807 := by have := SWb.out.rk.few2 _ _ _ _ _ HW2.out; omega
    clear hbb ho1 KOa KLa HAa SWa KOb KLb HAb SWb hisb s1 hk1 k2 RD
    gi_wp2
    all_goals exact ⟨KO7.out.from _, KL7.out, by show AS _ _ _ _; rw [HPL.out]; exact HA7.out⟩
  case done =>
    rintro D2 ys W9 hD2 hS hA hK3
    have hyl : ys.length = R.l.length := by rw [hS, List.length_map]
    rw [hyl] at hA
    have S9 := hide (S1.out.on hA.bel)
    have HM := hide hK3
    obtain ⟨qa, qc, hqv, hq2⟩ := S9.out.r2
    have HQV := hide hqv
    have HWD : Hid (w.heap.size ≤ D2) := hide (by have := S6.out.bel.size; omega)
    have HA9 := hide hA
    have HS : Hid (∀ W : World, Below W9.heap.size W9 W → SD w W b2 b3 b4 b5 d r s rs D R av cv ∧ AS W3 W b6 R.l.length) := hide (fun W hW => ⟨S9.out.on hW, HA9.out.on hW⟩)
    have HR2 : Hid (∀ W : World, Below W9.heap.size W9 W → W.cell? ⟨r, 2, none⟩ = some (.slice qa rs.length qc)) := hide (fun W hW => by rw [(S9.out.on hW).rk.fk.blk.cell, ← HQV.out]; rfl)
    clear hA hK3 hS hyl hq2 hqv
    go_wp2_with fail
    refine wp_region_noPanic ?_
    refine wp_region_U (q := 14) (S := fun v : World => Below W9.heap.size W9 v) (by kernel_rfl) ?_
    have hHeld := (Below.refl W9.heap.size W9).drew
    refine takeU 14 0 57 (.int .i64 (R.l.length : Int)) hHeld rfl rfl (by kernel_rfl) (by kernel_rfl) (by kernel_rfl) (by kernel_rfl) (by kernel_rfl) (by kernel_rfl) (fun _ _ _ h => h) (Or.inl ⟨by rfl, fun w hw => by have hw' : w.cell? ⟨b6, 0, none⟩ = some (.int .i64 (R.l.length : Int)) := (fun hw => by rw [(HS.out _ hw).2.c6.cell]; rfl) hw; go_simp⟩) ?_
    simp only [Act.put, List.setIfInBounds_toArray, List.set_cons_zero, List.set_cons_succ]
    refine takeU 14 1 58 (.slice av R.l.length cv) hHeld rfl rfl (by kernel_rfl) (by kernel_rfl) (by kernel_rfl) (by kernel_rfl) (by kernel_rfl) (by kernel_rfl) (fun _ _ _ h => h) (Or.inl ⟨by rfl, fun w hw => by have hw' : w.cell? ⟨b5, 0, none⟩ = some (.slice av R.l.length cv) := (fun hw => (HS.out _ hw).1.q5) hw; go_simp⟩) ?_
    simp only [Act.put, List.setIfInBounds_toArray, List.set_cons_zero, List.set_cons_succ]
    refine takeU 14 2 59 (.int .i64 (R.l.length : Int)) hHeld rfl rfl (by kernel_rfl) (by kernel_rfl) (by kernel_rfl) (by kernel_rfl) (by kernel_rfl) (by kernel_rfl) (fun _ _ _ h => h) (Or.inl ⟨by rfl, fun w _ => by go_simp⟩) ?_
    simp only [Act.put, List.setIfInBounds_toArray, List.set_cons_zero, List.set_cons_succ]
    refine takeU 14 3 60 (.bool true) hHeld rfl rfl (by kernel_rfl) (by kernel_rfl) (by kernel_rfl) (by kernel_rfl) (by kernel_rfl) (by kernel_rfl) (fun _ _ _ h => h) (Or.inl ⟨by rfl, fun w _ => by go_simp⟩) ?_
    simp only [Act.put, List.setIfInBounds_toArray, List.set_cons_zero, List.set_cons_succ]
    refine takeU 14 4 61 (.bool true) hHeld rfl rfl (by kernel_rfl) (by kernel_rfl) (by kernel_rfl) (by kernel_rfl) (by kernel_rfl) (by kernel_rfl) (fun _ _ _ h => h) (Or.inl ⟨by rfl, fun w _ => by go_simp⟩) ?_
    simp only [Act.put, List.setIfInBounds_toArray, List.set_cons_zero, List.set_cons_succ]
    refine takeU 14 5 62 (.pointer (some ⟨d, 0, none⟩)) hHeld rfl rfl (by kernel_rfl) (by kernel_rfl) (by kernel_rfl) (by kernel_rfl) (by kernel_rfl) (by kernel_rfl) (fun _ _ _ h => h) (Or.inl ⟨by rfl, fun w hw => by have hw' : w.cell? ⟨b2, 0, none⟩ = some (.pointer (some ⟨d, 0, none⟩)) := (fun hw => (HS.out _ hw).1.q2) hw; go_simp⟩) ?_
    simp only [Act.put, List.setIfInBounds_toArray, List.set_cons_zero, List.set_cons_succ]
    refine takeU 14 7 64 (.pointer (some ⟨r, 0, none⟩)) hHeld rfl rfl (by kernel_rfl) (by kernel_rfl) (by kernel_rfl) (by kernel_rfl) (by kernel_rfl) (by kernel_rfl) (fun _ _ _ h => h) (Or.inl ⟨by rfl, fun w hw => by have hw' : w.cell? ⟨b3, 0, none⟩ = some (.pointer (some ⟨r, 0, none⟩)) := (fun hw => (HS.out _ hw).1.q3) hw; go_simp⟩) ?_
    simp only [Act.put, List.setIfInBounds_toArray, List.set_cons_zero, List.set_cons_succ]
    refine takeU 14 8 65 (.pointer (some ⟨r, 0, none⟩)) hHeld rfl rfl (by kernel_rfl) (by kernel_rfl) (by kernel_rfl) (by kernel_rfl) (by kernel_rfl) (by kernel_rfl) (fun _ _ _ h => h) (Or.inl ⟨by rfl, fun w _ => by go_simp⟩) ?_
    simp only [Act.put, List.setIfInBounds_toArray, List.set_cons_zero, List.set_cons_succ]
    refine takeU 14 9 66 (.pointer (some ⟨r, 2, none⟩)) hHeld rfl rfl (by kernel_rfl) (by kernel_rfl) (by kernel_rfl) (by kernel_rfl) (by kernel_rfl) (by kernel_rfl) (fun _ _ _ h => h) (Or.inl ⟨by rfl, fun w _ => by go_simp⟩) ?_
    simp only [Act.put, List.setIfInBounds_toArray, List.set_cons_zero, List.set_cons_succ]
    refine takeU 14 10 67 (.slice qa rs.length qc) hHeld rfl rfl (by kernel_rfl) (by kernel_rfl) (by kernel_rfl) (by kernel_rfl) (by kernel_rfl) (by kernel_rfl) (fun _ _ _ h => h) (Or.inl ⟨by rfl, fun w hw => by have hw' : w.cell? ⟨r, 2, none⟩ = some (.slice qa rs.length qc) := (fun hw => HR2.out _ hw) hw; go_simp⟩) ?_
    simp only [Act.put, List.setIfInBounds_toArray, List.set_cons_zero, List.set_cons_succ]
    refine takeU 14 11 68 (.int .i64 (rs.length : Int)) hHeld rfl rfl (by kernel_rfl) (by kernel_rfl) (by kernel_rfl) (by kernel_rfl) (by kernel_rfl) (by kernel_rfl) (fun _ _ _ h => h) (Or.inl ⟨by rfl, fun w _ => by go_simp⟩) ?_
    simp only [Act.put, List.setIfInBounds_toArray, List.set_cons_zero, List.set_cons_succ]
    refine wpAnyU_ready (rs := [6]) (by kernel_rfl) (by simp) (AllReadyU.cons rfl (fun K hK => ?_) AllReadyU.nil)
    rw [if_pos (by rfl)]
    go_simp
    refine (writes_any d s rs D _ (HS.out _ hHeld).1.dk).mono ?_
    rintro e wa ⟨rfl, rfl⟩
    refine hK.out _ _ (fun _ => hHeld) ?_
    have hHeld := hHeld
    clear hK K
    try simp only [Act.put, List.setIfInBounds_toArray, List.set_cons_zero, List.set_cons_succ]
    refine takeU 14 12 69 (.bool true) hHeld rfl rfl (by kernel_rfl) (by kernel_rfl) (by kernel_rfl) (by kernel_rfl) (by kernel_rfl) (by kernel_rfl) (fun _ _ _ h => h) (Or.inl ⟨by rfl, fun w _ => by go_simp⟩) ?_
    simp only [Act.put, List.setIfInBounds_toArray, List.set_cons_zero, List.set_cons_succ]
    refine takeU 14 13 70 (.bool true) hHeld rfl rfl (by kernel_rfl) (by kernel_rfl) (by kernel_rfl) (by kernel_rfl) (by kernel_rfl) (by kernel_rfl) (fun _ _ _ h => h) (Or.inl ⟨by rfl, fun w _ => by go_simp⟩) ?_
    simp only [Act.put, List.setIfInBounds_toArray, List.set_cons_zero, List.set_cons_succ]
    have S10 := hide (HS.out _ hHeld).1
    have M10 : Hid (W9.drew.heap[D2]? = some (.deferred (some []))) := HM
    have h4 : W9.drew.cell? ⟨b4, 0, none⟩ = some (.bool false) := by rw [S10.out.c4.cell]; rfl
    have f4 := S10.out.c4.free 0
    revert S10 M10 h4 f4
    generalize W9.drew = Vd
    intro S10 M10 h4 f4
    refine wpAnyU_ready (rs := [14]) (by kernel_rfl) (by simp) (AllReadyU.cons rfl (fun K hK => ?_) AllReadyU.nil)
    rw [if_pos (by rfl)]
    go_simp
    refine hK.out _ _ (fun h => absurd h (by decide)) ?_
    clear hK K
    refine wpAnyU_done (by kernel_rfl) ?_ _
    refine NoPanic.normal ?_
    go_wp2_with fail
    have q8 := (KeepsOthers.setCell Vd ⟨b4, 0, none⟩ (.bool true)).same D2 _ M10.out rfl
    have hcA := World.cell?_setCell_same' Vd ⟨b4, 0, none⟩ (.bool true) (by rw [h4]; rfl)
    have hcC := Go.cell_kept hcA (grownBy_putObj' _ D2 (.deferred none)) (fun r e => by cases e; exact ⟨_, q8, rfl⟩)
    have B8 := S10.out.bel.setCell (p := ⟨b4, 0, none⟩) S10.out.l4 (.bool true)
    refine ⟨by simp, .inl ⟨_, _, rfl, run_takeDeferred q8, ?_⟩⟩
    refine ⟨.bool true, ?_, rfl, B8.trans (belowK_b (w := w) (Nat.le_refl _) _ D2 _ (.deferred none) HWD.out q8 rfl rfl)⟩
    simp [results, Tryz.f17, go_sem, hcC]

end Go.Proofs.YtpocadbhajacaaaGreatDoor

/-
  The law's laid.
-/
namespace Go.Proofs.YtpocadbhajacaaaGreatDoor
open Go.RowKit Go.Shelf
set_option linter.unusedVariables false
set_option linter.unusedSimpArgs false
set_option maxRecDepth 100000

theorem wFw : Wide 68 2 := ⟨by kernel_rfl, by kernel_rfl⟩
theorem zFw : Zeroed 68 (fwC ByteArray.empty (.slice none 0 0)) := fun _ _ _ _ _ _ _ => by kernel_rfl
theorem fw_at (b o n cap i : Nat) (hi : i < n) (v : World) : (Instr.indexAt 22 (.slice (some ⟨b, o, none⟩) n cap) (.int .i64 (i : Int))).run Tryz.prog v = .ok (.pointer (some ⟨b, o + i * 2, none⟩)) v := by
  have hu : Tryz.prog.underlying 22 = some (.slice (Tryz.prog.elem 22)) := by kernel_rfl
  have he : Tryz.prog.elem 22 = 68 := by kernel_rfl
  have hz : ∀ v : World, (sizeOf 68).run Tryz.prog v = .ok 2 v := fun _ => by kernel_rfl
  rw [run_indexAt_slice v _ _ _ _ .i64 i hu, if_pos ⟨by omega, by omega⟩, he, hz]
  simp only [Result.andThen_ok, Int.toNat_natCast]
  rw [Addr.add_lit]
theorem sec14 (sec : Int) : ∃ s : Nat, wrap64 (1 + (wrap64 (sec.tmod 64 + 64)).tmod 64) = (s : Int) ∧ 1 ≤ s ∧ s ≤ 64 := by
  obtain ⟨c, h1, h2⟩ := mod_cutB sec 63 (by omega)
  have e : ((63 + 1 : Nat) : Int) = 64 := rfl
  rw [e] at h1
  rw [h1]
  exact ⟨c + 1, by unfold wrap64; omega, by omega, by omega⟩
/-- Beside the two disks: the world's own variable. -/
structure LV (w W : World) (b1 : Nat) (k : Int) (a : Option Addr) (n c : Nat) (d r s : Nat) (rs : List Rw) (D : Dm) (R : Rm) : Prop where
  pl : LP w W d r s rs D R
  c1 : Blk W b1 24 [.int .i64 k, .slice a n c]
  nf : ¬ Foot d r D R b1
section
variable {w W W1 W2 : World} {b1 : Nat} {k : Int} {a : Option Addr} {n c d r s : Nat} {rs rs' : List Rw} {D : Dm} {R : Rm}
theorem LV.on (h : LV w W b1 k a n c d r s rs D R) (hb : Below W.heap.size W W1) : LV w W1 b1 k a n c d r s rs D R := ⟨h.pl.on hb, h.c1.on hb, h.nf⟩
theorem LV.two (h : LV w W b1 k a n c d r s rs D R) : W.cell? ⟨b1, 0, none⟩ = some (.int .i64 k) ∧ W.cell? ⟨b1, 1, none⟩ = some (.slice a n c) := ⟨by rw [h.c1.cell]; rfl, by rw [h.c1.cell]; rfl⟩
theorem LV.both (h : LV w W b1 k a n c d r s rs D R) (ho : OpR W W1 d s D rs') (hr : RoP W1 W2 r s R rs') : ∃ D' R', LV w W2 b1 k a n c d r s rs' D' R' ∧ ∀ j, Foot d r D' R' j → Foot d r D R j ∨ W.heap.size ≤ j := by
  obtain ⟨D', R', hp, hf⟩ := h.pl.both ho hr
  refine ⟨D', R', ⟨hp, LP.keep2 hr (h.pl.keep1 ho h.c1 h.nf) h.nf, fun hb => ?_⟩, hf⟩
  rcases hf b1 hb with e | e
  · exact h.nf e
  · have := h.c1.lt; omega
end
set_option maxHeartbeats 4000000 in
theorem laid_any (sec : Int) (a : Option Addr) (n c : Nat) (L : List Fw) (w : World) (hL : Fws w a n c L) :
    Calls Tryz.prog 7 #[.agg #[.int .i64 sec, .slice a n c]] w fun e w' => ∃ s d r rs D R, e = .returned (.tuple #[.pointer (some ⟨d, 0, none⟩), .pointer (some ⟨r, 0, none⟩), .bool true]) ∧ 1 ≤ s ∧ s ≤ 64 ∧ LP w w' d r s rs D R ∧ Lw rs (fbulk L) L.length := by
  have HL := hide hL
  have hsum := hL.hsum
  have hlen := hL.hlen
  have hlf := len_fbulk L
  clear hL
  obtain ⟨s, hs, hs1, hs2⟩ := sec14 sec
  have HS := hide hs
  clear hs
  go_enter Tryz.func7, Tryz.ntmps7
  go_wp2_with (refine step_box (cs := [.int .i64 sec, .slice a n c]) rfl rfl ?_)
  intro w1 b1 hg1 hl1 hb1
  have d0 : w1.cell? ⟨b1, 0, none⟩ = some (.int .i64 sec) := by rw [hg1.cell]; rfl
  have G1 := hide hg1
  have B1 := hide hb1
  have LB1 := hide hl1
  clear hg1 hb1 hl1
  go_wp2_with fail
  rw [HS.out]
  refine (new_ok _ _ (by omega) (by omega)).mono ?_
  rintro e w2 ⟨d, m, rfl, hN⟩
  have HN := hide hN
  clear hN d0
  go_wp2_with fail
  refine (newR_ok s _ hs1 (by omega)).mono ?_
  rintro e w3 ⟨r, rfl, hR, hgR, hbR⟩
  have P0 : Hid (LV w w3 b1 sec a n c d r s [] ⟨m, .slice none 0 0, [], []⟩ rm0) := hide (by
    have hp := LP.new hs1 (by omega) HN.out hR hgR hbR
    have s0 := B1.out.size
    have hlt := G1.out.lt
    refine ⟨⟨hp.dk, hp.rk, hp.ap, fun k hk => by have := hp.lo k hk; omega, on_below B1.out hp.bel⟩, G1.out.on hp.bel, fun hf => ?_⟩
    have := hp.lo b1 hf
    omega)
  clear hR hgR hbR HN B1 G1
  go_wp2_with fail
  clear HS
  go_loopw [10] (fun i wr => ∃ (k : Nat) (rs : List Rw) (D : Dm) (R : Rm), i = .int .i64 (k : Int) ∧ k ≤ n ∧ Hid (Lw rs (fbulk (L.take k)) k) ∧ Hid (LV w wr b1 sec a n c d r s rs D R)) (fun i _ => n - (intOf i).toNat)
  case atStart => exact ⟨0, [], _, _, rfl, Nat.zero_le _, hide Lw.nil, P0⟩
  case round =>
    clear P0
    obtain ⟨k, rs, D, R, rfl, hkl, HLW, P⟩ := hrel
    obtain ⟨k0, k1⟩ := P.out.two
    have hkn : k ≤ 349525 := by omega
    have hnn : n ≤ 349525 := by omega
    by_cases hlt : k < n
    · have hlti : (k : Int) < (n : Int) := by omega
      obtain ⟨x, hx⟩ : ∃ x, L[k]? = some x := ⟨_, List.getElem?_eq_getElem (by omega)⟩
      obtain ⟨b0, o0, rfl, hrg⟩ := HL.out.hcell k x hx
      have hix := fw_at b0 o0 n c k hlt
      have HRG := hide (rangeAt_below hrg P.out.pl.bel)
      have HXI := hide ((HL.out.hin k x hx).below P.out.pl.bel)
      have HXO : Hid (∀ y, x.a = some y → x.xs ≠ [] → y.block < w.heap.size) := hide (fun y hy hne => by
        have h0 : 0 < x.l := by rw [← (HL.out.hin k x hx).hlen]; exact List.length_pos_iff.2 hne
        exact (HL.out.hin k x hx).lt h0 y hy)
      have HF1 : Hid (fbulk (L.take (k + 1)) = fbulk (L.take k) + (x.xs.length + 3) ∧ fbulk (L.take (k + 1)) ≤ 1048576) := hide (by
        have h1 := fbulk_succ L k x hx
        have h2 := fbulk_take L (k + 1)
        unfold Fw.bulk at h1
        exact ⟨h1, by omega⟩)
      have HW1 : Hid (wt rs + 2 * x.xs.length + 4 ≤ 4194304) := hide (by have h1 := HLW.out.wt; have h2 := HF1.out; omega)
      clear hrg hx hsum hlf hlen
      go_wp2_with (first | (refine step_loadR wFw rfl rfl x.cells HRG.out rfl ?_) | (refine step_alloc zFw rfl ?_))
      intro w8 g11 hr8 hl8 hb8
      go_wp2_with (refine step_storeA wFw rfl rfl rfl hr8 rfl (Fw.one _) rfl ?_)
      intro w9 hg9 hbut9
      have hb9 := hb8.trans (hbut9.below hl8)
      have P9 := hide (P.out.on hb9)
      have GX : Hid (Blk w9 g11 68 (fwC x.n (.slice x.a x.l x.c))) := hide hg9
      have NF : Hid (¬ Foot d r D R g11) := hide (fun h => by have := P.out.pl.lt h; omega)
      have X9 := hide (HXI.out.below hb9)
      clear hr8 hl8 hb8 hg9 hbut9 hb9 hix HRG P k0 k1 HXI
      obtain ⟨rs1, HR1⟩ : ∃ rs1, Hid (crS rs x.n = rs1) := ⟨_, hide rfl⟩
      have HWT1 : Hid (wt rs1 ≤ wt rs + 1) := hide (by rw [← HR1.out]; exact wt_crL rs x.n)
      have HLW2 : Hid (Lw (apS s rs1 x.n x.xs) (fbulk (L.take (k + 1))) (k + 1)) := hide (by
        rw [← HR1.out, HF1.out.1]
        exact HLW.out.add hs1 x.n X9.out.hbyte)
      have HC0 : Hid (∀ v : World, Blk v g11 68 (fwC x.n (.slice x.a x.l x.c)) → v.cell? ⟨g11, 0, none⟩ = some (.string x.n)) := hide (fun v hv => by rw [hv.cell]; rfl)
      have HC1 : Hid (∀ v : World, Blk v g11 68 (fwC x.n (.slice x.a x.l x.c)) → v.cell? ⟨g11, 1, none⟩ = some (.slice x.a x.l x.c)) := hide (fun v hv => by rw [hv.cell]; rfl)
      go_wp2_with fail
      refine wp_region_noPanic ?_
      have PD := hide (P9.out.on (Below.refl w9.heap.size w9).drew)
      have XD := hide (X9.out.below (Below.refl w9.heap.size w9).drew)
      refine wp_region_held_drew (S := fun v : World => Blk v g11 68 (fwC x.n (.slice x.a x.l x.c))) (by kernel_rfl) (GX.out.on (Below.refl w9.heap.size w9).drew) (fun hHeld => ?_)
      refine takeH 0 46 (.pointer (some ⟨d, 0, none⟩)) hHeld rfl rfl (by kernel_rfl) (by kernel_rfl) (by kernel_rfl) (fun _ _ _ h => h) (Or.inl ⟨by rfl, fun w _ => by go_simp⟩) ?_
      simp only [Act.put, List.setIfInBounds_toArray, List.set_cons_zero, List.set_cons_succ]
      refine takeH 1 47 (.pointer (some ⟨g11, 0, none⟩)) hHeld rfl rfl (by kernel_rfl) (by kernel_rfl) (by kernel_rfl) (fun _ _ _ h => h) (Or.inl ⟨by rfl, fun w _ => by go_simp⟩) ?_
      simp only [Act.put, List.setIfInBounds_toArray, List.set_cons_zero, List.set_cons_succ]
      refine takeH 2 48 (.string x.n) hHeld rfl rfl (by kernel_rfl) (by kernel_rfl) (by kernel_rfl) (fun _ _ _ h => h) (Or.inl ⟨by rfl, fun w hw => by have hw' : w.cell? ⟨g11, 0, none⟩ = some (.string x.n) := (HC0.out w) hw; go_simp⟩) ?_
      simp only [Act.put, List.setIfInBounds_toArray, List.set_cons_zero, List.set_cons_succ]
      refine takeH 4 50 (.pointer (some ⟨r, 0, none⟩)) hHeld rfl rfl (by kernel_rfl) (by kernel_rfl) (by kernel_rfl) (fun _ _ _ h => h) (Or.inl ⟨by rfl, fun w _ => by go_simp⟩) ?_
      simp only [Act.put, List.setIfInBounds_toArray, List.set_cons_zero, List.set_cons_succ]
      refine takeH 5 51 (.pointer (some ⟨g11, 0, none⟩)) hHeld rfl rfl (by kernel_rfl) (by kernel_rfl) (by kernel_rfl) (fun _ _ _ h => h) (Or.inl ⟨by rfl, fun w _ => by go_simp⟩) ?_
      simp only [Act.put, List.setIfInBounds_toArray, List.set_cons_zero, List.set_cons_succ]
      refine takeH 6 52 (.string x.n) hHeld rfl rfl (by kernel_rfl) (by kernel_rfl) (by kernel_rfl) (fun _ _ _ h => h) (Or.inl ⟨by rfl, fun w hw => by have hw' : w.cell? ⟨g11, 0, none⟩ = some (.string x.n) := (HC0.out w) hw; go_simp⟩) ?_
      simp only [Act.put, List.setIfInBounds_toArray, List.set_cons_zero, List.set_cons_succ]
      refine wpAnyH_ready (rs := [3]) (by kernel_rfl) (by simp) (AllReadyH.cons rfl (fun K hK => ?_) AllReadyH.nil)
      rw [if_pos (by rfl)]
      go_simp
      refine (create_any d s rs D _ PD.out.pl.dk x.n (by have := HW1.out; omega)).mono ?_
      rintro e wa ⟨rfl, hop⟩
      have HOP := hide hop
      have GA := hide (PD.out.pl.keep1 hop hHeld NF.out)
      clear hop
      refine hK.out _ _ GA.out (fun hHeld => ?_)
      clear hK K
      try simp only [Act.put, List.setIfInBounds_toArray, List.set_cons_zero, List.set_cons_succ]
      refine wpAnyH_ready (rs := [7]) (by kernel_rfl) (by simp) (AllReadyH.cons rfl (fun K hK => ?_) AllReadyH.nil)
      rw [if_pos (by rfl)]
      go_simp
      refine (createR_any r s rs R _ (PD.out.pl.op1 HOP.out).1 x.n (by have := HW1.out; omega)).mono ?_
      rintro e wb ⟨rfl, hrp⟩
      have GB := hide (LP.keep2 hrp GA.out NF.out)
      obtain ⟨D2, R2, hp2, hft⟩ := PD.out.both HOP.out hrp
      rw [HR1.out] at hp2
      have P2 := hide hp2
      have NF2 : Hid (¬ Foot d r D2 R2 g11) := hide (fun hf => by
        rcases hft g11 hf with e | e
        · exact NF.out e
        · have h1 := GX.out.lt
          have : w9.drew.heap.size = w9.heap.size := rfl
          omega)
      have X2 : Hid (Sl wb x.a x.l x.c x.xs) := hide (by
        obtain ⟨_, _, h1, _, _⟩ := HOP.out
        obtain ⟨_, _, h2, _, _⟩ := hrp
        have hnot : ∀ S : Nat → Prop, (∀ k, S k → w.heap.size ≤ k) → 0 < x.l → ∀ y, x.a = some y → ¬ S y.block := fun S hS h0 y hy hc => by
          have h3 := HXO.out y hy (by intro e; rw [← X9.out.hlen, e] at h0; cases h0)
          have h4 := hS _ hc
          omega
        exact (XD.out.chs h1 (hnot _ (fun k hk => PD.out.pl.lo k (.inl (.inl hk))))).chs h2 (hnot _ (fun k hk => PD.out.pl.lo k (.inr (.inl hk)))))
      clear hp2 hft HOP hrp PD XD GA X9 P9 GX
      refine hK.out _ _ GB.out (fun hHeld => ?_)
      clear hK K
      try simp only [Act.put, List.setIfInBounds_toArray, List.set_cons_zero, List.set_cons_succ]
      have hne0 : (crE rs x.n != crE rs x.n) = false := by simp
      refine takeH 8 54 (.bool false) hHeld rfl rfl (by kernel_rfl) (by kernel_rfl) (by kernel_rfl) (fun _ _ _ h => h) (Or.inl ⟨by rfl, fun w _ => by go_simp⟩) ?_
      simp only [Act.put, List.setIfInBounds_toArray, List.set_cons_zero, List.set_cons_succ]
      refine takeH 9 55 (.bool false) hHeld rfl rfl (by kernel_rfl) (by kernel_rfl) (by kernel_rfl) (fun _ _ _ h => h) (Or.inl ⟨by rfl, fun w _ => by go_simp⟩) ?_
      simp only [Act.put, List.setIfInBounds_toArray, List.set_cons_zero, List.set_cons_succ]
      refine takeH 10 56 (.pointer (some ⟨d, 0, none⟩)) hHeld rfl rfl (by kernel_rfl) (by kernel_rfl) (by kernel_rfl) (fun _ _ _ h => h) (Or.inl ⟨by rfl, fun w _ => by go_simp⟩) ?_
      simp only [Act.put, List.setIfInBounds_toArray, List.set_cons_zero, List.set_cons_succ]
      refine takeH 11 57 (.pointer (some ⟨g11, 0, none⟩)) hHeld rfl rfl (by kernel_rfl) (by kernel_rfl) (by kernel_rfl) (fun _ _ _ h => h) (Or.inl ⟨by rfl, fun w _ => by go_simp⟩) ?_
      simp only [Act.put, List.setIfInBounds_toArray, List.set_cons_zero, List.set_cons_succ]
      refine takeH 12 58 (.string x.n) hHeld rfl rfl (by kernel_rfl) (by kernel_rfl) (by kernel_rfl) (fun _ _ _ h => h) (Or.inl ⟨by rfl, fun w hw => by have hw' : w.cell? ⟨g11, 0, none⟩ = some (.string x.n) := (HC0.out w) hw; go_simp⟩) ?_
      simp only [Act.put, List.setIfInBounds_toArray, List.set_cons_zero, List.set_cons_succ]
      refine takeH 13 59 (.pointer (some ⟨g11, 1, none⟩)) hHeld rfl rfl (by kernel_rfl) (by kernel_rfl) (by kernel_rfl) (fun _ _ _ h => h) (Or.inl ⟨by rfl, fun w _ => by go_simp⟩) ?_
      simp only [Act.put, List.setIfInBounds_toArray, List.set_cons_zero, List.set_cons_succ]
      refine takeH 14 60 (.slice x.a x.l x.c) hHeld rfl rfl (by kernel_rfl) (by kernel_rfl) (by kernel_rfl) (fun _ _ _ h => h) (Or.inl ⟨by rfl, fun w hw => by have hw' : w.cell? ⟨g11, 1, none⟩ = some (.slice x.a x.l x.c) := (HC1.out w) hw; go_simp⟩) ?_
      simp only [Act.put, List.setIfInBounds_toArray, List.set_cons_zero, List.set_cons_succ]
      refine takeH 16 62 (.pointer (some ⟨r, 0, none⟩)) hHeld rfl rfl (by kernel_rfl) (by kernel_rfl) (by kernel_rfl) (fun _ _ _ h => h) (Or.inl ⟨by rfl, fun w _ => by go_simp⟩) ?_
      simp only [Act.put, List.setIfInBounds_toArray, List.set_cons_zero, List.set_cons_succ]
      refine takeH 17 63 (.pointer (some ⟨g11, 0, none⟩)) hHeld rfl rfl (by kernel_rfl) (by kernel_rfl) (by kernel_rfl) (fun _ _ _ h => h) (Or.inl ⟨by rfl, fun w _ => by go_simp⟩) ?_
      simp only [Act.put, List.setIfInBounds_toArray, List.set_cons_zero, List.set_cons_succ]
      refine takeH 18 64 (.string x.n) hHeld rfl rfl (by kernel_rfl) (by kernel_rfl) (by kernel_rfl) (fun _ _ _ h => h) (Or.inl ⟨by rfl, fun w hw => by have hw' : w.cell? ⟨g11, 0, none⟩ = some (.string x.n) := (HC0.out w) hw; go_simp⟩) ?_
      simp only [Act.put, List.setIfInBounds_toArray, List.set_cons_zero, List.set_cons_succ]
      refine takeH 19 65 (.pointer (some ⟨g11, 1, none⟩)) hHeld rfl rfl (by kernel_rfl) (by kernel_rfl) (by kernel_rfl) (fun _ _ _ h => h) (Or.inl ⟨by rfl, fun w _ => by go_simp⟩) ?_
      simp only [Act.put, List.setIfInBounds_toArray, List.set_cons_zero, List.set_cons_succ]
      refine takeH 20 66 (.slice x.a x.l x.c) hHeld rfl rfl (by kernel_rfl) (by kernel_rfl) (by kernel_rfl) (fun _ _ _ h => h) (Or.inl ⟨by rfl, fun w hw => by have hw' : w.cell? ⟨g11, 1, none⟩ = some (.slice x.a x.l x.c) := (HC1.out w) hw; go_simp⟩) ?_
      simp only [Act.put, List.setIfInBounds_toArray, List.set_cons_zero, List.set_cons_succ]
      refine wpAnyH_ready (rs := [15]) (by kernel_rfl) (by simp) (AllReadyH.cons rfl (fun K hK => ?_) AllReadyH.nil)
      rw [if_pos (by rfl)]
      go_simp
      refine (append_any d s rs1 D2 _ P2.out.pl.dk x.n _ _ _ x.xs X2.out (by have := HW1.out; have := HWT1.out; omega)).mono ?_
      rintro e wc ⟨rfl, hop⟩
      have HOP := hide hop
      have GC := hide (P2.out.pl.keep1 hop hHeld NF2.out)
      have X3 : Hid (Sl wc x.a x.l x.c x.xs) := hide (by
        obtain ⟨_, _, h1, _, _⟩ := hop
        refine X2.out.chs h1 (fun h0 y hy hc => ?_)
        have h3 := HXO.out y hy (by intro e; rw [← X2.out.hlen, e] at h0; cases h0)
        have h4 := P2.out.pl.lo _ (.inl (.inl hc))
        omega)
      have HOFF : Hid (x.xs ≠ [] → ∀ y, x.a = some y → ¬ R2.own r y.block ∧ y.block < wc.heap.size) := hide (fun hne y hy => by
        have h3 := HXO.out y hy hne
        refine ⟨fun hc => by have := P2.out.pl.lo _ (.inr (.inl hc)); omega, ?_⟩
        have := (P2.out.pl.op1 hop).2.size
        omega)
      clear hop
      refine hK.out _ _ GC.out (fun hHeld => ?_)
      clear hK K
      try simp only [Act.put, List.setIfInBounds_toArray, List.set_cons_zero, List.set_cons_succ]
      refine wpAnyH_ready (rs := [21]) (by kernel_rfl) (by simp) (AllReadyH.cons rfl (fun K hK => ?_) AllReadyH.nil)
      rw [if_pos (by rfl)]
      go_simp
      refine (appendR_any r s rs1 R2 _ (P2.out.pl.op1 HOP.out).1 x.n _ _ _ x.xs X3.out HOFF.out (by have := HW1.out; have := HWT1.out; omega)).mono ?_
      rintro e wd ⟨rfl, hrp⟩
      have GD := hide (LP.keep2 hrp GC.out NF2.out)
      obtain ⟨D3, R3, hp3, _⟩ := P2.out.both HOP.out hrp
      have P3 := hide hp3
      clear hp3 HOP hrp GC X2 X3 HOFF P2
      refine hK.out _ _ GD.out (fun hHeld => ?_)
      clear hK K
      try simp only [Act.put, List.setIfInBounds_toArray, List.set_cons_zero, List.set_cons_succ]
      refine takeH 22 68 (.bool false) hHeld rfl rfl (by kernel_rfl) (by kernel_rfl) (by kernel_rfl) (fun _ _ _ h => h) (Or.inl ⟨by rfl, fun w _ => by go_simp⟩) ?_
      simp only [Act.put, List.setIfInBounds_toArray, List.set_cons_zero, List.set_cons_succ]
      refine takeH 23 69 (.bool false) hHeld rfl rfl (by kernel_rfl) (by kernel_rfl) (by kernel_rfl) (fun _ _ _ h => h) (Or.inl ⟨by rfl, fun w _ => by go_simp⟩) ?_
      simp only [Act.put, List.setIfInBounds_toArray, List.set_cons_zero, List.set_cons_succ]
      refine wpAnyH_done (by kernel_rfl) ?_ _
      refine NoPanic.normal ?_
      clear hHeld GB GD HC0 HC1 NF NF2
      go_wp2
      go_roundw
      case rel => exact ⟨k + 1, _, D3, R3, by go_num, by omega, HLW2, P3⟩
      case measure => simp [intOf]; omega
    · have hlti : ¬ (k : Int) < (n : Int) := by omega
      obtain rfl : k = n := by omega
      have HLF : Hid (Lw rs (fbulk L) L.length) := hide (by
        have := HLW.out
        rw [List.take_of_length_le (by omega)] at this
        rwa [hlen])
      have HWB : Hid (wt rs ≤ 1000000000000) := hide (by have h1 := HLF.out.wt; omega)
      clear hlf
      go_wp2_with fail
      refine (disks_any d r s rs D R _ P.out.pl.dk P.out.pl.rk HWB.out).mono ?_
      rintro e w4 ⟨rfl, hb4⟩
      have P4 := hide (P.out.on hb4)
      clear hb4 k0 k1 P
      go_wp2
      go_ret3
      exact ⟨s, d, r, rs, D, R, rfl, hs1, hs2, P4.out.pl, HLF.out⟩

end Go.Proofs.YtpocadbhajacaaaGreatDoor
