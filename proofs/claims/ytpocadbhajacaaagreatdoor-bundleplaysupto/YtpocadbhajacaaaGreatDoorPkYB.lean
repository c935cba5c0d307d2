/-
  Texts one behind the other: Bwc Jfba Bwd Bwe Kqa Kqc Kqd Kqe.
-/
import Derived.Test.YtpocadbhajacaaaGreatDoorPkYA
import Derived.Test.YtpocadbhajacaaaGreatDoorNw
import Derived.Test.YtpocadbhajacaaaGreatDoorMe
import Derived.Deep.RegionLaw
import Derived.Test.YtpocadbhajacaaaGreatDoorKpb
import Derived.Deep.Cut

/-
  Which leaves are there, where they lie, how many there are. No program here.
-/
namespace Go.Proofs.YtpocadbhajacaaaGreatDoor
open Go.RowKit
set_option linter.unusedVariables false
set_option linter.unusedSimpArgs false

/-- Where a leaf lies behind those ahead of it. -/
def offL (ls : List (List Int)) (k : Nat) : Nat := (lfF (ls.take k)).length
theorem offL_zero (ls : List (List Int)) : offL ls 0 = 0 := by simp [offL, lfF]
theorem offL_succ {ls : List (List Int)} {k : Nat} (h : k < ls.length) : offL ls (k + 1) = offL ls k + 2 + (ls.getD k []).length := by
  unfold offL
  rw [List.take_succ_eq_append_getElem h, lfF_app, List.length_append]
  have e : lfF [ls[k]] = lfB ls[k] := by simp [lfF]
  rw [e, lfB_len]
  have e2 : ls.getD k [] = ls[k] := by simp [List.getD, h]
  rw [e2]
  omega
theorem offL_all (m : Nat) (b : List Int) {k : Nat} (h : (wl m b).length ≤ k) : offL (wl m b) k = wlE m b := by
  unfold offL wlE
  rw [List.take_of_length_le h]
theorem offL_mono (ls : List (List Int)) {k m : Nat} (h : k ≤ m) : offL ls k ≤ offL ls m := by
  unfold offL
  rw [← Nat.add_sub_cancel' h, List.take_add, lfF_app, List.length_append]
  omega
/-- What stands at a leaf's place. -/
theorem wl_at {m : Nat} {b : List Int} (hb : isB b) {k : Nat} (hk : k < (wl m b).length) : ∃ t, b.drop (offL (wl m b) k) = lfB ((wl m b).getD k []) ++ t := by
  obtain ⟨rest, e, _⟩ := wl_pre m b hb
  refine ⟨lfF ((wl m b).drop (k + 1)) ++ rest, ?_⟩
  have e1 : wl m b = (wl m b).take k ++ ((wl m b).getD k [] :: (wl m b).drop (k + 1)) := by
    have e2 : (wl m b).getD k [] = (wl m b)[k] := by simp [List.getD, hk]
    rw [e2, ← List.drop_eq_getElem_cons hk, List.take_append_drop]
  have e3 : b = lfF ((wl m b).take k) ++ (lfB ((wl m b).getD k []) ++ (lfF ((wl m b).drop (k + 1)) ++ rest)) := by
    conv => lhs; rw [e, e1, lfF_app, lfF_cons]
    simp only [List.append_assoc]
  unfold offL
  generalize hz : (wl m b).getD k [] = z at *
  generalize hy : (wl m b).drop (k + 1) = y at *
  generalize hx : (wl m b).take k = x at *
  rw [e3, List.drop_left]
theorem wl_end {m : Nat} {b : List Int} (hb : isB b) (h : (wl m b).length < m) : wl 1 (b.drop (wlE m b)) = [] := by
  obtain ⟨rest, e, h2⟩ := wl_pre m b hb
  have e2 : b.drop (wlE m b) = rest := by
    unfold wlE
    generalize wl m b = x at *
    rw [e, List.drop_left]
  rw [e2]
  rcases h2 with h2 | h2
  · omega
  · exact h2
theorem wl1_cons {a c : Int} {t : List Int} (h : wl 1 (a :: c :: t) = []) : t.length < (a * 256 + c).toNat := by
  unfold wl at h
  split at h
  · simp at h
  · omega
theorem offL_le {m : Nat} {b : List Int} (hb : isB b) (k : Nat) : offL (wl m b) k ≤ b.length := by
  rcases Nat.lt_or_ge k (wl m b).length with h | h
  · exact Nat.le_trans (offL_mono _ (Nat.le_of_lt h)) (by rw [offL_all m b (Nat.le_refl _)]; exact wlE_le m b hb)
  · rw [offL_all m b h]
    exact wlE_le m b hb
theorem offL_next {m : Nat} {b : List Int} (hb : isB b) {k : Nat} (hk : k < (wl m b).length) : offL (wl m b) k + 2 + ((wl m b).getD k []).length ≤ b.length := by
  rw [← offL_succ hk]
  exact offL_le hb _
theorem getD_mem {α : Type} {d : α} : ∀ {l : List α} {k : Nat}, k < l.length → l.getD k d ∈ l := by
  intro l k h
  have e2 : l.getD k d = l[k] := by simp [List.getD, h]
  rw [e2]
  exact List.getElem_mem h

/-! ### a height's leaves -/
/-- The whole leaves of a file. -/
def wlF (F : ByteArray → Option (List Int)) (h q : Nat) : List (List Int) := wl (2 ^ h) (fl F (lfN h q))
/-- Is the leaf j there, if those ahead of it are? -/
def hasL (F : ByteArray → Option (List Int)) (h j : Nat) : Bool := decide (j < 1048576) && decide (j % 2 ^ h < (wlF F h (j / 2 ^ h)).length)
/-- A height has n leaves. -/
def CnL (F : ByteArray → Option (List Int)) (h n : Nat) : Prop := (∀ j, j < n → hasL F h j = true) ∧ hasL F h n = false
theorem CnL.uniq {F : ByteArray → Option (List Int)} {h n m : Nat} (a : CnL F h n) (b : CnL F h m) : n = m := by
  rcases Nat.lt_trichotomy n m with g | g | g
  · have := b.1 n g; rw [a.2] at this; cases this
  · exact g
  · have := a.1 m g; rw [b.2] at this; cases this
theorem CnL.have (F : ByteArray → Option (List Int)) (h : Nat) : ∃ n, CnL F h n := least (hasL F h) 1048576 (by simp [hasL])
theorem CnL.le {F : ByteArray → Option (List Int)} {h n : Nat} (k : CnL F h n) : n ≤ 1048576 := by
  cases n with
  | zero => omega
  | succ n =>
    have := k.1 n (Nat.lt_succ_self n)
    simp only [hasL, Bool.and_eq_true, decide_eq_true_eq] at this
    omega
/-- The leaf j. -/
def lf (F : ByteArray → Option (List Int)) (h j : Nat) : List Int := (wlF F h (j / 2 ^ h)).getD (j % 2 ^ h) []
def lfs (F : ByteArray → Option (List Int)) (h n : Nat) : List (List Int) := (List.range n).map (lf F h)
theorem lfs_len (F : ByteArray → Option (List Int)) (h n : Nat) : (lfs F h n).length = n := by simp [lfs]
theorem lfs_succ (F : ByteArray → Option (List Int)) (h n : Nat) : lfs F h (n + 1) = lfs F h n ++ [lf F h n] := by simp [lfs, List.range_succ]
theorem wlF_le (F : ByteArray → Option (List Int)) (h q : Nat) : (wlF F h q).length ≤ 2 ^ h := wl_le _ _
/-- Files end at a multiple of their number of leaves. -/
theorem hB.fit {h : Nat} (k : hB h) {i : Nat} (hi : i * 2 ^ h < 1048576) : i * 2 ^ h + 2 ^ h ≤ 1048576 := by
  obtain ⟨a, b⟩ := k
  rcases (by omega : h = 1 ∨ h = 2 ∨ h = 3 ∨ h = 4 ∨ h = 5 ∨ h = 6 ∨ h = 7 ∨ h = 8) with rfl | rfl | rfl | rfl | rfl | rfl | rfl | rfl <;> simp only [Nat.reducePow] at * <;> omega
theorem hasL_at {F : ByteArray → Option (List Int)} {h i k : Nat} (hi : i * 2 ^ h + k < 1048576) (hk : k < 2 ^ h) : hasL F h (i * 2 ^ h + k) = decide (k < (wlF F h i).length) := by
  unfold hasL
  rw [Nat.mul_comm i, Nat.mul_add_mod, Nat.mul_add_div (Nat.two_pow_pos h), Nat.mod_eq_of_lt hk, Nat.div_eq_of_lt hk, Nat.add_zero]
  rw [Nat.mul_comm] at hi
  simp [hi]
theorem lf_at {F : ByteArray → Option (List Int)} {h i k : Nat} (hk : k < 2 ^ h) : lf F h (i * 2 ^ h + k) = (wlF F h i).getD k [] := by
  unfold lf
  rw [Nat.mul_comm i, Nat.mul_add_mod, Nat.mul_add_div (Nat.two_pow_pos h), Nat.mod_eq_of_lt hk, Nat.div_eq_of_lt hk, Nat.add_zero]
/-- What a file has of a height's leaves. -/
theorem CnL.at' {F : ByteArray → Option (List Int)} {h n : Nat} (c : CnL F h n) (hh : hB h) {i : Nat} (h1 : i * 2 ^ h ≤ n) (h2 : i * 2 ^ h < 1048576) : i * 2 ^ h + (wlF F h i).length ≤ n ∧ ((wlF F h i).length < 2 ^ h → n = i * 2 ^ h + (wlF F h i).length) := by
  have hf := hh.fit h2
  have hl := wlF_le F h i
  have key : ∀ k, k < (wlF F h i).length → n ≠ i * 2 ^ h + k := fun k hk e => by
    have h3 := c.2
    rw [e, hasL_at (by omega) (by omega)] at h3
    simp only [decide_eq_false_iff_not] at h3
    exact h3 hk
  have hle : i * 2 ^ h + (wlF F h i).length ≤ n := by
    rcases Nat.lt_or_ge n (i * 2 ^ h + (wlF F h i).length) with hlt | hge
    · exact absurd (show n = i * 2 ^ h + (n - i * 2 ^ h) by omega) (key _ (by omega))
    · exact hge
  refine ⟨hle, fun hlt => ?_⟩
  rcases Nat.lt_or_ge (i * 2 ^ h + (wlF F h i).length) n with h3 | h3
  · have h4 := c.1 _ h3
    rw [hasL_at (by omega) hlt] at h4
    simp at h4
  · omega
/-- Where a leaf lies: its file, its place, its length. -/
abbrev Plc := ByteArray × Nat × Nat
def plK (nm : ByteArray) (ls : List (List Int)) (k : Nat) : Plc := (nm, offL ls k + 2, (ls.getD k []).length)
def plL (F : ByteArray → Option (List Int)) (h j : Nat) : Plc := plK (lfN h (j / 2 ^ h)) (wlF F h (j / 2 ^ h)) (j % 2 ^ h)
def plsL (F : ByteArray → Option (List Int)) (h n : Nat) : List Plc := (List.range n).map (plL F h)
theorem plsL_len (F : ByteArray → Option (List Int)) (h n : Nat) : (plsL F h n).length = n := by simp [plsL]
theorem plsL_succ (F : ByteArray → Option (List Int)) (h n : Nat) : plsL F h (n + 1) = plsL F h n ++ [plL F h n] := by simp [plsL, List.range_succ]
theorem plL_at {F : ByteArray → Option (List Int)} {h i k : Nat} (hk : k < 2 ^ h) : plL F h (i * 2 ^ h + k) = plK (lfN h i) (wlF F h i) k := by
  unfold plL
  rw [Nat.mul_comm i, Nat.mul_add_mod, Nat.mul_add_div (Nat.two_pow_pos h), Nat.mod_eq_of_lt hk, Nat.div_eq_of_lt hk, Nat.add_zero]
/-- The leaves of a file, with their places. -/
def wls (nm : ByteArray) (ls : List (List Int)) (n : Nat) : List (Nat × Plc) := (List.range n).map fun k => (k, plK nm ls k)
theorem wls_len (nm : ByteArray) (ls : List (List Int)) (n : Nat) : (wls nm ls n).length = n := by simp [wls]
theorem wls_succ (nm : ByteArray) (ls : List (List Int)) (n : Nat) : wls nm ls (n + 1) = wls nm ls n ++ [(n, plK nm ls n)] := by simp [wls, List.range_succ]

end Go.Proofs.YtpocadbhajacaaaGreatDoor

/-
  Laws on slices of bytes for the seats of frame; octet's and the document's numbers, put and read; spoil and names of the law.
-/
namespace Go.Proofs.YtpocadbhajacaaaGreatDoor
open Go.RowKit
set_option linter.unusedVariables false
set_option maxRecDepth 100000

/-- How long a slice is. -/
def lenOf : Value → Nat
  | .slice _ n _ => n
  | _ => 0
section
variable {dst : Option Tmp} {ty : TypeId} {pos : String} {aft : Array Edge} {gd : Option (Nat × Bool)} {ops : Array Oper} {rest : List Oper} {a : Act} {w : World} {K : Act → World → Prop} {Q : Exit → Act → World → Prop}
end
theorem Own.of_blkF {w : World} {g B : Nat} {xs : List Int} (h : Blk w g 5 (u8s xs)) (hB : B ≤ g) (hl : xs.length ≤ 9223372036854775807) : Own w B (.slice (some ⟨g, 0, none⟩) xs.length xs.length) xs :=
  ⟨by simp [u8s_length], .inr ⟨g, xs.length, (u8s xs).toArray, rfl, hB, h, Nat.le_refl _, by unfold maxLen; omega, by simp [u8s_length], by rw [Nat.mul_one]; exact List.take_of_length_le (by simp [u8s_length])⟩⟩
theorem mul_step (v x : Int) (h0 : 0 ≤ v) (h1 : v < 72057594037927936) (h2 : 0 ≤ x) (h3 : x ≤ 255) :
    IntKind.u64.wrap (IntKind.u64.wrap (v * 256) + IntKind.u64.wrap x) = v * 256 + x := by
  rw [IntKind.wrap_u64, IntKind.wrap_u64, IntKind.wrap_u64, Int.emod_eq_of_lt (by omega) (by omega), Int.emod_eq_of_lt (by omega) (by omega)]
  omega
set_option maxHeartbeats 400000 in
theorem readF_any (a : Option Addr) (len cap : Nat) (xs : List Int) (p : Int) (n : Nat) (w : World) (hs : Sl w a len cap xs) (hn : n ≤ 8) (hn0 : 0 < n) :
    Calls Tryz.prog 68 #[.slice a len cap, .int .i64 p, .int .i64 n] w fun e w' => e = .returned (.tuple #[.int .u64 (rdV xs p n), .int .i64 (rdN len p n), .int .i64 (rdE len p n)]) ∧ w = w' := by
  obtain ⟨hx, _, _, hl, hb, _, hc⟩ := hs
  by_cases h : p < 0 ∨ (len : Int) < p ∨ (len : Int) - p < n
  · have e1 : rdV xs p n = 0 := by simp [rdV, hx]; omega
    have e2 : rdN len p n = 0 := by simp [rdN]; omega
    rw [e1, e2]
    clear e1 e2 hc
    by_cases h1 : p < 0
    · have e3 : rdE len p n = 2 := by simp [rdE, h1]
      rw [e3]
      clear e3
      go_enter Tryz.func68, Tryz.ntmps68
      go_wp2
      go_ret3
      exact ⟨rfl, rfl⟩
    by_cases h2 : (len : Int) < p
    · have e3 : rdE len p n = 2 := by simp [rdE, h2]
      rw [e3]
      clear e3
      go_enter Tryz.func68, Tryz.ntmps68
      go_wp2
      go_ret3
      exact ⟨rfl, rfl⟩
    · have h3 : (len : Int) - p < n := by omega
      have e3 : rdE len p n = 10 := by simp [rdE, h1, h2, h3]
      rw [e3]
      clear e3 h
      go_enter Tryz.func68, Tryz.ntmps68
      go_wp2
      go_ret3
      exact ⟨rfl, rfl⟩
  · obtain ⟨p, rfl⟩ := Int.eq_ofNat_of_zero_le (show 0 ≤ p by omega)
    obtain ⟨b, off, rfl, hce⟩ := hc (by omega)
    clear hc
    have e1 : rdV xs p n = beVal ((xs.drop p).take n) := by simp only [rdV, hx]; rw [if_pos (by omega)]; simp
    have e2 : rdN len p n = p + n := by simp [rdN]; omega
    have e3 : rdE len p n = 0 := by simp [rdE]; omega
    rw [e1, e2, e3]
    clear e1 e2 e3
    have h1 : ¬ ((p : Int) < 0) := by omega
    have h2 : ¬ ((len : Int) < p) := by omega
    have h3 : ¬ ((len : Int) - p < n) := by omega
    clear h
    go_enter Tryz.func68, Tryz.ntmps68
    go_wp2
    go_loop [9, 10] (fun v i => ∃ k : Nat, k ≤ n ∧ i = .int .i64 k ∧ v = .int .u64 (beVal ((xs.drop p).take k))) (fun _ i => n - (intOf i).toNat)
    case atStart => exact ⟨0, Nat.zero_le _, rfl, by simp [beVal]⟩
    case round =>
      obtain ⟨k, hk, rfl, rfl⟩ := hrel
      by_cases hlt : k < n
      · have hck := hce (p + k) (by omega)
        have HS : Hid _ := beVal_step xs p k (by omega)
        have H2 : Hid _ := hb.get (p + k)
        have H3 : Hid _ := beVal_take_bd xs hb p k (by omega) (by omega)
        go_wp2
        go_round
        case rel =>
          refine ⟨k + 1, by omega, by go_num, ?_⟩
          rw [HS.out, ← mul_step _ _ H3.out.1 H3.out.2 H2.out.1 H2.out.2]
          rfl
        case measure => simp [intOf]; omega
      · have hkn : k = n := by omega
        subst hkn
        clear hce
        go_wp2
        go_ret3
        exact ⟨rfl, rfl⟩
set_option maxHeartbeats 400000 in
theorem room_any (a : Option Addr) (len cap : Nat) (p : Int) (n : Nat) (w : World) (hl : len ≤ 140737488355328) (hn : n ≤ 32) :
    Calls Tryz.prog 111 #[.slice a len cap, .int .i64 p, .int .i64 n] w fun e w' => e = .returned (.int .i64 (rdE len p n)) ∧ w = w' := by
  by_cases h : p < 0
  · have e : rdE len p n = 2 := by simp [rdE, h]
    rw [e]
    go_enter Tryz.func111, Tryz.ntmps111
    go_wp2
    go_ret
    exact ⟨rfl, rfl⟩
  by_cases h' : (len : Int) < p
  · have e : rdE len p n = 2 := by simp [rdE, h']
    rw [e]
    clear e
    go_enter Tryz.func111, Tryz.ntmps111
    go_wp2
    go_ret
    exact ⟨rfl, rfl⟩
  by_cases h2 : (len : Int) - p < n
  · have e : rdE len p n = 10 := by simp [rdE, h, h', h2]
    rw [e]
    clear e
    go_enter Tryz.func111, Tryz.ntmps111
    go_wp2
    go_ret
    exact ⟨rfl, rfl⟩
  · have e : rdE len p n = 0 := by simp [rdE, h, h', h2]
    rw [e]
    clear e
    go_enter Tryz.func111, Tryz.ntmps111
    go_wp2
    go_ret
    exact ⟨rfl, rfl⟩
set_option maxHeartbeats 400000 in
theorem number_any (a : Option Addr) (len cap : Nat) (xs : List Int) (p : Int) (n : Nat) (w : World) (hs : Sl w a len cap xs) (hn : n ≤ 8) (hn0 : 0 < n) :
    Calls Tryz.prog 98 #[.slice a len cap, .int .i64 p, .int .i64 n] w fun e w' => e = .returned (.tuple #[.int .u64 (rdV xs p n), .int .i64 (rdN len p n), .int .i64 (rdE len p n)]) ∧ w = w' := by
  obtain ⟨hx, _, _, hl, hb, _, hc⟩ := hs
  by_cases h : p < 0 ∨ (len : Int) < p ∨ (len : Int) - p < n
  · have e1 : rdV xs p n = 0 := by simp [rdV, hx]; omega
    have e2 : rdN len p n = 0 := by simp [rdN]; omega
    have e3 : rdE len p n = 2 ∨ rdE len p n = 10 := by
      by_cases h1 : p < 0 ∨ (len : Int) < p
      · left; simp [rdE, h1]
      · right; have h2 : (len : Int) - p < n := by omega
        simp [rdE, h1, h2]
    rw [e1, e2]
    have hne : (rdE len p n != 0) = true := by simp; omega
    clear e1 e2 hc e3
    go_enter Tryz.func98, Tryz.ntmps98
    go_wp2_with (go_at_call 111; refine (room_any _ _ _ _ _ _ hl (by omega)).mono ?_; rintro e w' ⟨rfl, rfl⟩)
    go_ret3
    exact ⟨rfl, rfl⟩
  · obtain ⟨p, rfl⟩ := Int.eq_ofNat_of_zero_le (show 0 ≤ p by omega)
    obtain ⟨b, off, rfl, hce⟩ := hc (by omega)
    clear hc
    have e1 : rdV xs p n = beVal ((xs.drop p).take n) := by simp only [rdV, hx]; rw [if_pos (by omega)]; simp
    have e2 : rdN len p n = p + n := by simp [rdN]; omega
    have e3 : rdE len p n = 0 := by simp [rdE]; omega
    rw [e1, e2, e3]
    have E3 : Hid (rdE len p n = 0) := e3
    clear e1 e2 e3
    go_enter Tryz.func98, Tryz.ntmps98
    go_wp2_with (go_at_call 111; refine (room_any _ _ _ _ _ _ hl (by omega)).mono ?_; rintro e w' ⟨rfl, rfl⟩; rw [E3.out])
    go_loop [6, 19] (fun v i => ∃ k : Nat, k ≤ n ∧ i = .int .i64 k ∧ v = .int .u64 (beVal ((xs.drop p).take k))) (fun _ i => n - (intOf i).toNat)
    case atStart => exact ⟨0, Nat.zero_le _, rfl, by simp [beVal]⟩
    case round =>
      obtain ⟨k, hk, rfl, rfl⟩ := hrel
      by_cases hlt : k < n
      · have hck := hce (p + k) (by omega)
        have HS : Hid _ := beVal_step xs p k (by omega)
        have H2 : Hid _ := hb.get (p + k)
        have H3 : Hid _ := beVal_take_bd xs hb p k (by omega) (by omega)
        go_wp2
        go_round
        case rel =>
          refine ⟨k + 1, by omega, by go_num, ?_⟩
          rw [HS.out, ← or_step _ _ H3.out.1 H3.out.2 H2.out.1 H2.out.2]
          rfl
        case measure => simp [intOf]; omega
      · have hkn : k = n := by omega
        subst hkn
        clear hce
        go_wp2
        go_ret3
        exact ⟨rfl, rfl⟩
/-- The bytes of a number, the highest first. -/
def be (v : Int) (n : Nat) : List Int := (List.range n).map fun i => v / 256 ^ (n - 1 - i) % 256
theorem be_length (v : Int) (n : Nat) : (be v n).length = n := by simp [be]
theorem be_get (v : Int) (n k : Nat) (h : k < n) : (be v n).getD k 0 = v / 256 ^ (n - 1 - k) % 256 := by simp [be, List.getD, h]

theorem pow2_8 (m : Nat) : (2 : Int) ^ (8 * m) = 256 ^ m := by rw [Int.pow_mul]; rfl
theorem spl_zer (ys : List Int) (n m : Nat) (h : ys.length = m) : spl (u8s (zer (m + n))) (u8s (ys.take m)) 0 = u8s (ys ++ zer n) := by
  rw [spl_u8, ← h, List.take_length]
  congr 1
  simp [splB, zer]
set_option maxHeartbeats 400000 in
theorem widened_any (a : Option Addr) (len cap : Nat) (xs : List Int) (n : Nat) (w : World) (hs : Sl w a len cap xs) (hn : n ≤ 64) :
    Calls Tryz.prog 88 #[.slice a len cap, .int .i64 n] w fun e w' => ∃ g, e = .returned (.slice (some ⟨g, 0, none⟩) (len + n) (len + n)) ∧ w.heap.size ≤ g ∧ Blk w' g 5 (u8s (xs ++ zer n)) ∧ Below w.heap.size w w' := by
  have hr := hs.hreach
  have HS := hide hs
  clear hs
  go_enter Tryz.func88, Tryz.ntmps88
  go_wp2_with (refine step_make (len + n) rfl rfl rfl (by omega) (by omega) (by omega) ?_)
  intro w1 g hrow hg hb
  go_wp2_with (refine step_copy rfl rfl rfl (HS.out.below hb) g 0 len (by omega) hrow (fun _ => rfl) (by rw [u8s_length, zer_length]; omega) ?_)
  intro w2 hrow2 hbut
  rw [spl_zer xs n len HS.out.hlen] at hrow2
  go_wp2
  go_ret
  exact ⟨g, rfl, hg, hrow2, hb.trans (hbut.below hg)⟩
/-- One byte more of B laid over noughts. -/
theorem fill_step (xs B : List Int) (len n k : Nat) (hx : xs.length = len) (hB : B.length = n) (hk : k < n) :
    (xs ++ (B.take k ++ zer (n - k))).set (len + k) (B.getD k 0) = xs ++ (B.take (k + 1) ++ zer (n - (k + 1))) := by
  subst hx
  rw [List.set_append_right _ _ (by omega), Nat.add_sub_cancel_left]
  congr 1
  have hz : zer (n - k) = 0 :: zer (n - (k + 1)) := by
    have : n - k = (n - (k + 1)) + 1 := by omega
    rw [this]; simp [zer, List.replicate_succ]
  rw [List.set_append_right _ _ (by simp; omega), hz]
  have e : k - (B.take k).length = 0 := by simp; omega
  have e2 : B.getD k 0 = B[k] := by simp [List.getD, hB, hk]
  rw [e, e2, List.take_succ_eq_append_getElem (by omega), List.append_assoc]
  rfl
set_option maxHeartbeats 400000 in
theorem putNumber_any (a : Option Addr) (len cap : Nat) (xs : List Int) (v : Int) (n : Nat) (w : World) (hs : Sl w a len cap xs) (hn : n ≤ 8) (hv : 0 ≤ v) (hv2 : v < 18446744073709551616) :
    Calls Tryz.prog 66 #[.slice a len cap, .int .u64 v, .int .i64 n] w fun e w' => ∃ g, e = .returned (.slice (some ⟨g, 0, none⟩) (len + n) (len + n)) ∧ w.heap.size ≤ g ∧ Blk w' g 5 (u8s (xs ++ be v n)) ∧ Below w.heap.size w w' := by
  have hr := hs.hreach
  have HS := hide hs
  clear hs
  go_enter Tryz.func66, Tryz.ntmps66
  go_wp2_with (go_at_call 88; refine (widened_any _ _ _ xs n _ HS.out (by omega)).mono ?_; rintro e w1 ⟨g, rfl, hg, hrow, hb⟩)
  go_loopw [13] (fun i wr => ∃ k : Nat, k ≤ n ∧ i = .int .i64 k ∧ Blk wr g 5 (u8s (xs ++ ((be v n).take k ++ zer (n - k)))) ∧ Below w.heap.size w wr) (fun i _ => n - (intOf i).toNat)
  case atStart => exact ⟨0, by omega, rfl, by simpa using hrow, hb⟩
  case round =>
    obtain ⟨k, hk, rfl, hr1, hb1⟩ := hrel
    by_cases hlt : k < n
    · have hl1 : (xs ++ ((be v n).take k ++ zer (n - k))).length = len + n := by simp [be_length, zer_length, HS.out.hlen]; omega
      have hcell : wr.cell? ⟨g, len + k, none⟩ = some (.int .u8 ((xs ++ ((be v n).take k ++ zer (n - k))).getD (len + k) 0)) := by rw [hr1.cell, u8s_get _ _ (by omega)]
      have hfree := hr1.free (len + k)
      clear hl1
      have HE := hide (fill_step xs (be v n) len n k HS.out.hlen (be_length v n) hlt)
      have HR := hide hr1
      clear hr1
      go_wp2
      go_roundw
      case rel =>
        have e := HR.out.set (len + k) (.int .u8 ((be v n).getD k 0))
        rw [u8s_set, HE.out, be_get v n k hlt, ← pow2_8] at e
        exact ⟨k + 1, by omega, by go_num, e, hb1.setCell hg _⟩
      case measure => simp [intOf]; omega
    · have hkn : k = n := by omega
      subst hkn
      go_wp2
      go_ret
      refine ⟨g, rfl, hg, ?_, hb1⟩
      have e : xs ++ (List.take k (be v k) ++ zer (k - k)) = xs ++ be v k := by
        rw [List.take_of_length_le (by rw [be_length]; exact Nat.le_refl _)]; simp [zer]
      rw [e] at hr1
      exact hr1
/-- One byte more of B, from its end. -/
theorem back_step (B : List Int) (n k : Nat) (hB : B.length = n) (hk : k < n) : (zer (k + 1) ++ B.drop (k + 1)).set k (B.getD k 0) = zer k ++ B.drop k := by
  have hz : zer (k + 1) = zer k ++ [0] := by simp [zer, List.replicate_succ']
  rw [hz, List.append_assoc, List.set_append_right _ _ (by simp [zer]), List.drop_eq_getElem_cons (i := k) (by omega)]
  have e : k - (zer k).length = 0 := by simp [zer]
  rw [e]
  simp [List.getD, hB, hk]

theorem div_pow (v : Int) (m : Nat) : v / 256 ^ m / 256 = v / 256 ^ (m + 1) := by
  rw [Int.pow_succ, Int.ediv_ediv_of_nonneg (Int.le_of_lt (Int.pow_pos (by decide)))]

theorem quo256 (v : Int) (m : Nat) (hv : 0 ≤ v) (hv2 : v < 18446744073709551616) : IntKind.u64.wrap ((v / 256 ^ m).tdiv 256) = v / 256 ^ (m + 1) := by
  have h0 : 0 ≤ v / 256 ^ m := Int.ediv_nonneg hv (Int.le_of_lt (Int.pow_pos (by decide)))
  have h1 : v / 256 ^ m ≤ v := Int.ediv_le_self _ hv
  rw [Int.tdiv_eq_ediv_of_nonneg h0, div_pow, IntKind.wrap_u64]
  have h2 : 0 ≤ v / 256 ^ (m + 1) := Int.ediv_nonneg hv (Int.le_of_lt (Int.pow_pos (by decide)))
  have h3 : v / 256 ^ (m + 1) ≤ v := Int.ediv_le_self _ hv
  exact Int.emod_eq_of_lt h2 (by omega)

set_option maxHeartbeats 400000 in
theorem number_ref (v : Int) (n : Nat) (w : World) (hn : n ≤ 8) (hv : 0 ≤ v) (hv2 : v < 18446744073709551616) :
    Calls Tryz.prog 38 #[.int .u64 v, .int .i64 n] w fun e w' => ∃ g, e = .returned (.slice (some ⟨g, 0, none⟩) n n) ∧ w.heap.size ≤ g ∧ Blk w' g 5 (u8s (be v n)) ∧ Below w.heap.size w w' := by
  go_enter Tryz.func38, Tryz.ntmps38
  go_wp2_with (refine step_make n rfl rfl rfl rfl rfl (by omega) ?_)
  intro w1 g hrow hg hb
  go_wp2
  go_loopw [0, 6] (fun vv i wr => ∃ j : Nat, j ≤ n ∧ i = .int .i64 ((j : Int) - 1) ∧ vv = .int .u64 (v / 256 ^ (n - j)) ∧ Blk wr g 5 (u8s (zer j ++ (be v n).drop j)) ∧ Below w.heap.size w wr) (fun _ i _ => (intOf i + 1).toNat)
  case atStart => exact ⟨n, by omega, rfl, by simp, by rw [List.drop_eq_nil_of_le (by rw [be_length]; exact Nat.le_refl _), List.append_nil]; exact hrow, hb⟩
  case round =>
    obtain ⟨j, hj, rfl, rfl, hr1, hb1⟩ := hrel
    by_cases h0 : j = 0
    · subst h0
      go_wp2
      go_ret
      refine ⟨g, rfl, hg, ?_, hb1⟩
      simpa [zer] using hr1
    · obtain ⟨k, rfl⟩ : ∃ k, j = k + 1 := ⟨j - 1, by omega⟩
      have hl1 : (zer (k + 1) ++ (be v n).drop (k + 1)).length = n := by simp [be_length, zer_length]; omega
      have hcell : wr.cell? ⟨g, k, none⟩ = some (.int .u8 ((zer (k + 1) ++ (be v n).drop (k + 1)).getD k 0)) := by rw [hr1.cell]; exact u8s_get _ _ (by omega)
      have hfree := hr1.free k
      have HE := hide (back_step (be v n) n k (be_length v n) (by omega))
      have HG := hide (be_get v n k (by omega))
      have ek : (((k + 1 : Nat) : Int) - 1) = (k : Int) := by omega
      rw [ek]
      clear hl1
      go_wp2
      go_roundw
      case rel =>
        have e := hr1.set k (.int .u8 ((be v n).getD k 0))
        have en : n - 1 - k = n - (k + 1) := by omega
        rw [u8s_set, HE.out, HG.out, en] at e
        have eq := quo256 v (n - (k + 1)) hv hv2
        have en2 : n - (k + 1) + 1 = n - k := by omega
        rw [en2] at eq
        exact ⟨k, by omega, by go_num, by rw [eq], e, hb1.setCell hg _⟩
      case measure => simp [intOf]

end Go.Proofs.YtpocadbhajacaaaGreatDoor

/-
  The way through a file's whole leaves: whole and what it hands out.
-/
namespace Go.Proofs.YtpocadbhajacaaaGreatDoor
open Go.RowKit Go.Shelf
set_option linter.unusedVariables false
set_option linter.unusedSimpArgs false
set_option maxRecDepth 100000

/-- A place in cells. -/
def plV (x : Plc) : List Value := [.string x.1, .int .i64 (x.2.1 : Int), .int .i64 (x.2.2 : Int)]
theorem One.pl (x : Plc) : One (plV x) := by intro v hv; simp [plV] at hv; rcases hv with rfl | rfl | rfl <;> rfl
theorem zPl : Zeroed 102 [.string { data := #[] }, .int .i64 0, .int .i64 0] := fun _ _ _ _ _ _ _ => by kernel_rfl
theorem wPl : Wide 102 3 := ⟨by kernel_rfl, by kernel_rfl⟩
theorem Blk.pl3 {w : World} {g : Nat} {t : TypeId} {x : Plc} (k : Blk w g t (plV x)) : w.cell? ⟨g, 0, none⟩ = some (.string x.1) ∧ w.cell? ⟨g, 1, none⟩ = some (.int .i64 (x.2.1 : Int)) ∧ w.cell? ⟨g, 2, none⟩ = some (.int .i64 (x.2.2 : Int)) :=
  ⟨by rw [k.cell]; rfl, by rw [k.cell]; rfl, by rw [k.cell]; rfl⟩
section
variable {F : Fence} {n : Nat} {dst : Option Tmp} {ty : TypeId} {pos : String} {aft : Array Edge} {gd : Option (Nat × Bool)} {ops : Array Oper} {rest : List Oper} {a : Act} {w : World} {Q : Exit → Act → World → Prop}
theorem istep_buildPl (hF : WideF F) {x y z : Operand} {nm : ByteArray} {p q : Nat} (hw : Region.wanted ⟨dst, .build 102 #[(0, x), (1, y), (2, z)], ty, pos, aft, gd⟩ (yielded ops a.tmps) = true) (hx : a.eval x = .string nm) (hy : a.eval y = .int .i64 (p : Int)) (hz : a.eval z = .int .i64 (q : Int))
    (k : wpListIn F n Tryz.prog ops Q rest (a.put dst (.agg (plV (nm, p, q)).toArray)) w) : wpListIn F n Tryz.prog ops Q (⟨dst, .build 102 #[(0, x), (1, y), (2, z)], ty, pos, aft, gd⟩ :: rest) a w :=
  istep_run hF (fun c => by simp) hw _ w (run_op (M := Instr.build 102 #[(0, .string nm), (1, .int .i64 (p : Int)), (2, .int .i64 (q : Int))]) (by simp [execOp, hx, hy, hz]) (by kernel_rfl)) k
end
theorem end_any (x : Plc) (w : World) (hb : x.2.1 + x.2.2 ≤ 9223372036854775807) : Calls Tryz.prog 74 #[.agg (plV x).toArray] w fun r w' => r = .returned (.int .i64 ((x.2.1 + x.2.2 : Nat) : Int)) ∧ Below w.heap.size w w' := by
  obtain ⟨nm, p, q⟩ := x
  have hw : wrap64 ((p : Int) + (q : Int)) = ((p + q : Nat) : Int) := by unfold wrap64; simp only at hb; omega
  have HW := hide hw
  clear hw hb
  go_enter Tryz.func74, Tryz.ntmps74
  go_wp2_with (first | (refine step_box (cs := plV (nm, p, q)) rfl rfl ?_; intro w1 g1 hg1 hle1 hb1; obtain ⟨c0, c1, c2⟩ := hg1.pl3; have HB1 := hide hb1; clear hg1 hb1) | (rw [HW.out]))
  go_ret
  exact ⟨rfl, HB1.out⟩
theorem uint16_any (a : Option Addr) (len cap : Nat) (xs : List Int) (p : Int) (w : World) (hs : Sl w a len cap xs) :
    Calls Tryz.prog 78 #[.slice a len cap, .int .i64 p] w fun e w' => e = .returned (.tuple #[.int .u16 (rdV xs p 2), .int .i64 (rdN len p 2), .int .i64 (rdE len p 2)]) ∧ w = w' := by
  have hb := rdV_bd xs hs.hbyte p 2
  have hb1 : 0 ≤ rdV xs p 2 := hb.1
  have hb2 : rdV xs p 2 < 65536 := hb.2
  have hw : IntKind.u16.wrap (rdV xs p 2) = rdV xs p 2 := by rw [IntKind.wrap_u16]; exact Int.emod_eq_of_lt hb1 hb2
  clear hb
  have HS := hide hs
  clear hs
  go_enter Tryz.func78, Tryz.ntmps78
  go_wp2_with (go_at_call 98; refine (number_any _ _ _ xs _ 2 _ HS.out (by omega) (by omega)).mono ?_; rintro e w' ⟨rfl, rfl⟩)
  go_ret3
  exact ⟨rfl, rfl⟩
theorem whole_mk (d : Nat) (h : Int) (nm : ByteArray) (w : World) : Calls Tryz.prog 49 #[.pointer (some ⟨d, 0, none⟩), .int .i64 h, .string nm] w fun r w' => ∃ gd gh gn, r = .returned (.func (.func 77) #[] #[.pointer (some ⟨gd, 0, none⟩), .pointer (some ⟨gn, 0, none⟩), .pointer (some ⟨gh, 0, none⟩)]) ∧
    Blk w' gd 26 [.pointer (some ⟨d, 0, none⟩)] ∧ Blk w' gh 3 [.int .i64 h] ∧ Blk w' gn 9 [.string nm] ∧ w.heap.size ≤ gd ∧ w.heap.size ≤ gh ∧ w.heap.size ≤ gn ∧ Below w.heap.size w w' := by
  go_enter Tryz.func49, Tryz.ntmps49
  go_wp2
  go_ret
  have b1 : Below w.heap.size w (w.alloc (.cells #[.pointer (some ⟨d, 0, none⟩)] 26)) := (Below.refl _ _).alloc (Nat.le_refl _) _
  have B1 : Blk (w.alloc (.cells #[.pointer (some ⟨d, 0, none⟩)] 26)) w.heap.size 26 [.pointer (some ⟨d, 0, none⟩)] := Blk.made _ _ _
  generalize hW1 : w.alloc (.cells #[.pointer (some ⟨d, 0, none⟩)] 26) = W1 at *
  have s1 := b1.size
  have b2 : Below W1.heap.size W1 (W1.alloc (.cells #[.int .i64 h] 3)) := (Below.refl _ _).alloc (Nat.le_refl _) _
  have B2 : Blk (W1.alloc (.cells #[.int .i64 h] 3)) W1.heap.size 3 [.int .i64 h] := Blk.made _ _ _
  generalize hW2 : W1.alloc (.cells #[.int .i64 h] 3) = W2 at *
  have s2 := b2.size
  have b3 : Below W2.heap.size W2 (W2.alloc (.cells #[.string nm] 9)) := (Below.refl _ _).alloc (Nat.le_refl _) _
  have B3 : Blk (W2.alloc (.cells #[.string nm] 9)) W2.heap.size 9 [.string nm] := Blk.made _ _ _
  generalize hW3 : W2.alloc (.cells #[.string nm] 9) = W3 at *
  have z1 : W1.heap.size = w.heap.size + 1 := by rw [← hW1]; exact World.size_alloc _ _
  have z2 : W2.heap.size = w.heap.size + 1 + 1 := by rw [← hW2, World.size_alloc, z1]
  exact ⟨w.heap.size, w.heap.size + 1, w.heap.size + 1 + 1, rfl, (B1.on b2).on b3, by rw [← z1]; exact B2.on b3, by rw [← z2]; exact B3, Nat.le_refl _, by omega, by omega, on_below (on_below b1 b2) b3⟩

/-! ### what a round leaves -/
/-- A disk's blocks. -/
def FD (d : Nat) (D : Dm) (k : Nat) : Prop := D.own d k ∨ D.ro k ∨ k = 2
/-- A disk's blocks are left, and of the blocks behind B all but those of slices of slices. -/
structure KB (B : Nat) (F : Nat → Prop) (A C : World) : Prop where
  size : A.heap.size ≤ C.heap.size
  keep : ∀ k, F k → k < A.heap.size → C.heap[k]? = A.heap[k]?
  rest : ∀ k t cs, B ≤ k → t ≠ 31 → Blk A k t cs → Blk C k t cs
theorem KB.refl (B : Nat) (F : Nat → Prop) (A : World) : KB B F A A := ⟨Nat.le_refl _, fun _ _ _ => rfl, fun _ _ _ _ _ h => h⟩
theorem KB.trans {B : Nat} {F : Nat → Prop} {A C D : World} (h : KB B F A C) (k : KB B F C D) : KB B F A D :=
  ⟨Nat.le_trans h.size k.size, fun i hi hl => (k.keep i hi (Nat.lt_of_lt_of_le hl h.size)).trans (h.keep i hi hl), fun i t cs h1 h2 h3 => k.rest i t cs h1 h2 (h.rest i t cs h1 h2 h3)⟩
theorem KB.below {B : Nat} {F : Nat → Prop} {A C : World} (h : Below A.heap.size A C) : KB B F A C := ⟨h.size, fun k _ hk => h.block k hk, fun k t cs _ _ hb => hb.on h⟩
theorem KB.but {B g : Nat} {F : Nat → Prop} {A C : World} (h : But g A C) (hg : g < B) (hF : ∀ k, F k → k ≠ g) : KB B F A C := ⟨Nat.le_of_eq h.size.symm, fun k hk _ => h.block k (hF k hk), fun k t cs h1 _ hb => hb.but h (by omega)⟩
theorem KB.book {B B' : Nat} {F : Nat → Prop} (hF : ∀ k, F k → k < B') (W : World) (l : Nat) (o o' : Obj) (hl : B' ≤ l) (h : W.heap[l]? = some o) (hc : o.isCells = false) : KB B F W (W.putObj l o') :=
  ⟨(grownBy_putObj' W l o').size, fun k hk _ => World.putObj_heap_other (by have := hF k hk; omega), fun k t cs _ _ hb => by
    have hne : k ≠ l := fun e => by
      subst e
      rw [hb] at h
      injection h with h
      subst h
      cases hc
    unfold Blk
    rw [World.putObj_heap_other hne]
    exact hb⟩
/-- What stands when a file is walked over. -/
structure WAt (w : World) (d s : Nat) (rs : List Rw) (D : Dm) (gd gh gn H : Nat) (nm : ByteArray) (B : Nat) : Prop where
  dk : DkAt w d s rs D
  pt : PT w
  bd : Blk w gd 26 [.pointer (some ⟨d, 0, none⟩)]
  bh : Blk w gh 3 [.int .i64 (H : Int)]
  bn : Blk w gn 9 [.string nm]
  le : B ≤ gd ∧ B ≤ gh ∧ B ≤ gn
section
variable {w w' : World} {d s : Nat} {rs : List Rw} {D : Dm} {gd gh gn H : Nat} {nm : ByteArray} {B : Nat}
theorem fd_lt (h1 : DkAt w d s rs D) (h2 : PT w) {k : Nat} (hk : FD d D k) : k < w.heap.size := by
  rcases hk with hk | hk | rfl
  · exact h1.lt (.inl hk)
  · exact h1.lt (.inr hk)
  · exact h2.lt
theorem dk_fd (h1 : DkAt w d s rs D) (hk : ∀ k, FD d D k → w'.heap[k]? = w.heap[k]?) : DkAt w' d s rs D := h1.same (fun k hq => hk k (by rcases hq with hq | hq; exact .inl hq; exact .inr (.inl hq)))
theorem pt_fd (h1 : PT w) (hk : ∀ k, FD d D k → w'.heap[k]? = w.heap[k]?) : PT w' := h1.sameS (hk _ (.inr (.inr rfl)))
theorem WAt.below (h : WAt w d s rs D gd gh gn H nm B) (hb : Below w.heap.size w w') : WAt w' d s rs D gd gh gn H nm B :=
  ⟨h.dk.below hb, h.pt.below hb, h.bd.on hb, h.bh.on hb, h.bn.on hb, h.le⟩
theorem WAt.kb (h : WAt w d s rs D gd gh gn H nm B) (hb : KB B (FD d D) w w') : WAt w' d s rs D gd gh gn H nm B :=
  ⟨dk_fd h.dk (fun k hk => hb.keep k hk (fd_lt h.dk h.pt hk)), pt_fd h.pt (fun k hk => hb.keep k hk (fd_lt h.dk h.pt hk)), hb.rest _ _ _ h.le.1 (by decide) h.bd, hb.rest _ _ _ h.le.2.1 (by decide) h.bh, hb.rest _ _ _ h.le.2.2 (by decide) h.bn, h.le⟩
end
/-- What is handed out: a number and a place. -/
def encW (x : Nat × Plc) : Array Value := #[.int .i64 (x.1 : Int), .agg (plV x.2).toArray]
def RW (nm : ByteArray) (ls : List (List Int)) (pre : List (Nat × Plc)) (x : Nat × Plc) (W0 W : World) : Prop := pre.length < ls.length ∧ pre = wls nm ls pre.length ∧ x = (pre.length, plK nm ls pre.length)
theorem rw_own (nm : ByteArray) (ls : List (List Int)) (B0 : Nat) (pre : List (Nat × Plc)) (x : Nat × Plc) (W0 : World) : OwnFrom B0 (fun (_ : Unit) W => RW nm ls pre x W0 W) := fun _ W W' row h hg hr => h

end Go.Proofs.YtpocadbhajacaaaGreatDoor

/-
  The way through a file's whole leaves: the contract of what whole hands back.
-/
namespace Go.Proofs.YtpocadbhajacaaaGreatDoor
open Go.RowKit Go.Shelf
set_option linter.unusedVariables false
set_option linter.unusedSimpArgs false
set_option maxRecDepth 100000

theorem fE_fl {w : World} {d s : Nat} {rs : List Rw} {D : Dm} (h : DkAt w d s rs D) {n : ByteArray} (hf : fE rs n ≠ 0) : fl (play rs) n = [] := by
  have hnone : play rs n = none := by
    by_cases hn : nmB n = true
    · cases hp : play rs n with
      | none => rfl
      | some xs => simp [fE, hn, hp] at hf
    · exact Nmd.play h.valS n (by simpa using hn)
  simp [fl, hnone]
/-- What is read of a file, from a place in it. -/
theorem rq_in {w : World} {d s : Nat} {rs : List Rw} {D : Dm} (h : DkAt w d s rs D) (n : ByteArray) (p q : Nat) (hp : p ≤ (fl (play rs) n).length) : rqE rs n (p : Int) (q : Int) = fE rs n ∧ rqB rs n (p : Int) (q : Int) = ((fl (play rs) n).drop p).take q := by
  have e1 : rqE rs n (p : Int) (q : Int) = fE rs n := by
    unfold rqE
    by_cases hf : fE rs n = 0
    · rw [if_pos hf, if_neg (by omega), hf]
    · rw [if_neg hf]
  refine ⟨e1, ?_⟩
  unfold rqB
  rw [e1]
  by_cases hf : fE rs n = 0
  · rw [if_pos hf]
    simp only [Int.toNat_natCast]
    rcases Nat.le_total q ((fl (play rs) n).length - p) with h1 | h1
    · rw [Nat.min_eq_left h1]
    · rw [Nat.min_eq_right h1, List.take_of_length_le (by rw [List.length_drop]; omega), List.take_of_length_le (by rw [List.length_drop]; omega)]
  · rw [if_neg hf, fE_fl h hf]
    simp
theorem wrap_powB {H P : Nat} (hh : hB H) (hP : 2 ^ H = P) : wrap64 (2 ^ H) = (P : Int) := by
  have e : ((2 : Int) ^ H) = (P : Int) := by rw [← hP]; simp [Int.natCast_pow]
  have := hh.pow
  rw [e]
  unfold wrap64
  omega
/-- Two bytes. -/
theorem rd_two (a c : Int) : rdV [a, c] 0 2 = a * 256 + c ∧ rdE 2 0 2 = 0 := by
  refine ⟨?_, by decide⟩
  simp [rdV, beVal]
theorem rd_few {ys : List Int} (h : ys.length < 2) : rdE ys.length 0 2 = 10 := by
  unfold rdE
  rw [if_neg (by omega), if_pos (by omega)]
set_option maxHeartbeats 4000000 in
theorem whole_seq (d s : Nat) (rs : List Rw) (D : Dm) (gd gh gn H : Nat) (nm : ByteArray) (B : Nat) (w : World) (h : WAt w d s rs D gd gh gn H nm B) (hh : hB H) (hwt : wt rs ≤ 1099511000000) :
    SeqQ Fence.wide 3 Tryz.prog 77 #[.pointer (some ⟨gd, 0, none⟩), .pointer (some ⟨gn, 0, none⟩), .pointer (some ⟨gh, 0, none⟩)] encW (RW nm (wl (2 ^ H) (fl (play rs) nm))) (fun _ => KB B (FD d D)) (fun ys => ys = wls nm (wl (2 ^ H) (fl (play rs) nm)) (wl (2 ^ H) (fl (play rs) nm)).length) (fun ys => ∃ k, k ≤ (wl (2 ^ H) (fl (play rs) nm)).length ∧ ys = wls nm (wl (2 ^ H) (fl (play rs) nm)) k) w := by
  intro l0 J Jx W hW hJ hJx hY h0
  have H0 := hide (h.below hW)
  have HJ0 := hide h0
  obtain ⟨b, HB⟩ : ∃ b, Hid (fl (play rs) nm = b) := ⟨_, hide rfl⟩
  have hbb := h.dk.byB nm
  have hbl : b.length ≤ 1099511000000 := by rw [← HB.out]; exact Nat.le_trans (play_wt _ _) hwt
  have hsz0 : W.cell? ⟨gn, 0, none⟩ = some (.string nm) := by rw [H0.out.bn.cell]; rfl
  have hsd0 : W.cell? ⟨gd, 0, none⟩ = some (.pointer (some ⟨d, 0, none⟩)) := by rw [H0.out.bd.cell]; rfl
  have hsh0 : W.cell? ⟨gh, 0, none⟩ = some (.int .i64 (H : Int)) := by rw [H0.out.bh.cell]; rfl
  have hsz := size_any d s rs D W H0.out.dk nm
  rw [size_is H0.out.dk, HB.out] at hsz
  have HSZ := hide hsz
  have HRD0 : Hid (∀ (W : World), DkAt W d s rs D → ∀ p : Nat, p ≤ b.length → Calls Tryz.prog 50 #[.pointer (some ⟨d, 0, none⟩), .string nm, .int .i64 (p : Int), .int .i64 2] W fun e w' => ∃ v, e = .returned (.tuple #[v, .int .i64 (fE rs nm)]) ∧ Own w' W.heap.size v ((b.drop p).take 2) ∧ Below W.heap.size W w') := hide (fun W hW p hp => by
    have := read_any d s rs D W hW nm (p : Int) (2 : Nat) hwt
    obtain ⟨e1, e2⟩ := rq_in hW nm p 2 (by rw [HB.out]; exact hp)
    rw [e1, e2, HB.out] at this
    exact this)
  rw [HB.out] at hbb hY ⊢
  obtain ⟨P, HP⟩ : ∃ P, Hid (2 ^ H = P) := ⟨_, hide rfl⟩
  have HWP := hide (wrap_powB hh HP.out)
  have hP := hh.pow
  rw [HP.out] at hP hY ⊢
  have HBB := hide hbb
  obtain ⟨ls, HLS⟩ : ∃ ls, Hid (wl P b = ls) := ⟨_, hide rfl⟩
  have hLP : ls.length ≤ P := by rw [← HLS.out]; exact wl_le _ _
  rw [HLS.out] at hY ⊢
  obtain ⟨hPlo, hPhi⟩ := hP
  have hH8 := hh.2
  have hHi : (H : Int) ≤ 8 := by omega
  have HAT : Hid (∀ k, k < ls.length → ∃ t, b.drop (offL ls k) = lfB (ls.getD k []) ++ t) := hide (fun k hk => by
    rw [← HLS.out] at hk ⊢
    exact wl_at HBB.out hk)
  have HNX : Hid (∀ k, k < ls.length → offL ls k + 2 + (ls.getD k []).length ≤ b.length ∧ (ls.getD k []).length ≤ 65535) := hide (fun k hk => by
    rw [← HLS.out] at hk ⊢
    exact ⟨offL_next HBB.out hk, (wl_ok _ _ HBB.out _ (getD_mem hk)).1⟩)
  have HEN : Hid (ls.length < P → wl 1 (b.drop (offL ls ls.length)) = []) := hide (fun hk => by
    rw [← HLS.out] at hk ⊢
    rw [offL_all _ _ (Nat.le_refl _)]
    exact wl_end HBB.out hk)
  have HOL : Hid (∀ k, offL ls k ≤ b.length) := hide (fun k => by
    rw [← HLS.out]
    exact offL_le HBB.out k)
  clear h hW h0 hh hwt hsz hbb HB HLS
  refine callsIn_of_wp Tryz.func77 rfl trivial ?_ rfl
  simp only [Tryz.ntmps77, List.size_toArray, List.length_cons, List.length_nil, Nat.reduceAdd, Nat.reduceSub, Array.replicate_succ, Array.replicate_zero, List.push_toArray, List.append_toArray, List.nil_append, List.cons_append]
  refine wpIn_wide.2 ?_
  go_wp2_with fail
  refine HSZ.out.mono ?_
  rintro r w' ⟨rfl, rfl⟩
  go_wp2_with (rw [HWP.out])
  try simp only [Act.put]
  refine (wpIn_wide (n := 3)).1 ?_
  gi_loopw [23, 7] (fun i p wr => ∃ (k : Nat) (pre : List (Nat × Plc)), k ≤ ls.length ∧ i = .int .i64 (k : Int) ∧ p = .int .i64 ((offL ls k : Nat) : Int) ∧ Hid (pre = wls nm ls k) ∧ Hid (J pre wr) ∧ Hid (WAt wr d s rs D gd gh gn H nm B)) (fun i _ _ => P - (intOf i).toNat)
  case atStart => exact ⟨0, [], Nat.zero_le _, rfl, by rw [offL_zero]; rfl, hide rfl, HJ0, H0⟩
  case round =>
    clear H0 HJ0 hsz0 hsd0 hsh0 HSZ
    obtain ⟨k, pre, hk, rfl, rfl, HPR, HJ, HA⟩ := hrel
    by_cases hkP : k < P
    · have hkPi : (k : Int) < (P : Int) := by omega
      have hat := HOL.out k
      have hc1 : wr.cell? ⟨gd, 0, none⟩ = some (.pointer (some ⟨d, 0, none⟩)) := by rw [HA.out.bd.cell]; rfl
      have hc2 : wr.cell? ⟨gn, 0, none⟩ = some (.string nm) := by rw [HA.out.bn.cell]; rfl
      have HRDk := hide (fun (W : World) (hW : DkAt W d s rs D) => HRD0.out W hW (offL ls k) hat)
      by_cases hkl : k < ls.length
      · obtain ⟨t, ht⟩ := HAT.out k hkl
        have hnx := HNX.out k hkl
        have hof := offL_succ hkl
        have HRA : Hid (∀ V : World, RW nm ls pre (k, plK nm ls k) wr V) := hide (fun V => by
          have hpl : pre.length = k := by rw [HPR.out, wls_len]
          exact ⟨by rw [hpl]; exact hkl, by rw [hpl]; exact HPR.out, by rw [hpl]⟩)
        have HM : Hid (pre ++ [(k, plK nm ls k)] = wls nm ls (k + 1)) := hide (by rw [wls_succ, HPR.out])
        have HPK : Hid (plK nm ls k = (nm, offL ls k + 2, (ls.getD k []).length)) := hide rfl
        obtain ⟨ys, HYS⟩ : ∃ ys, Hid ((b.drop (offL ls k)).take 2 = ys) := ⟨_, hide rfl⟩
        have hys : ys = [(((ls.getD k []).length / 256 : Nat) : Int), (((ls.getD k []).length % 256 : Nat) : Int)] := by rw [← HYS.out, ht]; rfl
        have HRD := HRDk
        rw [HYS.out] at HRD
        have HYB : Hid (isB ys) := hide (by rw [← HYS.out]; exact (HBB.out.dropS _).takeS _)
        have HYL : Hid (ys.length = 2) := hide (by rw [hys]; rfl)
        have hyl2 : (2 : Nat) ≤ 2 := by omega
        have HYV : Hid (rdV ys 0 2 = (((ls.getD k []).length : Nat) : Int)) := hide (by rw [hys, (rd_two _ _).1]; omega)
        have HYE : Hid (rdE 2 0 2 = 0) := hide (rd_two 0 0).2
        have HON := hide hof
        clear ht hys HYS HRDk hof
        generalize hvv : (ls.getD k []).length = vv at *
        obtain ⟨on, HOO⟩ : ∃ on, Hid (offL ls (k + 1) = on) := ⟨_, hide rfl⟩
        rw [HOO.out] at HON
        generalize hat' : offL ls k = at' at *
        clear hvv hat'
        obtain ⟨hn1, hn2⟩ := hnx
        have hge : ¬ (b.length : Int) < ((at' + 2 + vv : Nat) : Int) := by omega
        have hge2 : decide ((b.length : Int) < (at' : Int) + 2 + (vv : Int)) = false := decide_eq_false (by omega)
        gi_wp2_with fail
        refine ⟨trivial, (callsIn_wide.2 (HRD.out _ HA.out.dk)).mono ?_⟩
        rintro e w1 ⟨v, rfl, ho1, hb1⟩
        obtain ⟨va, vc, rfl, hs1⟩ := ho1.sl' HYB.out (by rw [HYL.out]; omega)
        rw [HYL.out] at hs1 ⊢
        have HS1 := hide hs1
        have HA1 := hide (HA.out.below hb1)
        have HJ1 := hide (hJ _ wr w1 none HJ.out ⟨hb1.os, hb1.tape, hb1.output, hb1.size, fun i hi _ => hb1.block i hi⟩ (fun r e => by cases e))
        have HB1 := hide hb1
        clear hs1 ho1 hb1 hc1 hc2
        gi_wp2_with fail
        refine ⟨trivial, (callsIn_wide.2 (uint16_any _ _ _ _ _ _ HS1.out)).mono ?_⟩
        rintro e w2 ⟨rfl, rfl⟩
        rw [HYV.out, HYE.out]
        have hc3 : w1.cell? ⟨gn, 0, none⟩ = some (.string nm) := by rw [HA1.out.bn.cell]; rfl
        gi_wp2_with (first | (refine istep_buildPl WideF.wide rfl rfl rfl rfl ?_) | (refine istep_alloc WideF.wide zPl rfl ?_))
        intro w3 g3 hg3 hle3 hb3
        have HG3 := hide hg3
        have HL3 := hide hle3
        have HB3 := hide (on_below HB1.out hb3)
        have HA3 := hide (HA1.out.below hb3)
        have HJ3 := hide (hJ _ w1 w3 none HJ1.out ⟨hb3.os, hb3.tape, hb3.output, hb3.size, fun i hi _ => hb3.block i hi⟩ (fun r e => by cases e))
        clear hg3 hle3 hb3 hc3
        gi_wp2_with (refine istep_storeA WideF.wide wPl rfl rfl rfl HG3.out rfl (One.pl (nm, at' + 2, vv)) rfl ?_)
        intro w4 hg4 hbut
        have hgw : wr.heap.size ≤ g3 := Nat.le_trans HB1.out.size HL3.out
        have HG4 := hide hg4
        have HB4 := hide (HB3.out.trans (hbut.below hgw))
        have HA4 := hide (HA.out.below HB4.out)
        have HJ4 := hide (hJ _ wr w4 none HJ.out ⟨HB4.out.os, HB4.out.tape, HB4.out.output, HB4.out.size, fun i hi _ => HB4.out.block i hi⟩ (fun r e => by cases e))
        clear hg4 hbut HG3 HL3 HB3 HA3 HJ3 HB1 HA1 HJ1 HS1
        gi_wp2_with (first | (refine istep_loadA WideF.wide wPl rfl rfl HG4.out rfl ?_))
        refine ⟨trivial, (callsIn_wide.2 (end_any (nm, at' + 2, vv) _ (by simp only; omega))).mono ?_⟩
        rintro e w5 ⟨rfl, hb5⟩
        have HG5 := hide (HG4.out.on hb5)
        have HB5 := hide (on_below HB4.out hb5)
        have HJ5 := hide (hJ _ wr w5 none HJ.out ⟨HB5.out.os, HB5.out.tape, HB5.out.output, HB5.out.size, fun i hi _ => HB5.out.block i hi⟩ (fun r e => by cases e))
        have HA5 := hide (HA.out.below HB5.out)
        have HBG : Hid (B ≤ g3) := hide (by have h1 := HA.out.le.1; have h2 := HA.out.bd.lt; omega)
        clear hb5 HG4 HB4 HA4 HJ4
        try simp only at hge
        obtain ⟨fn, tmps, assign, body, hy, hR⟩ := hY pre (k, plK nm ls k) wr w5 HJ.out HB5.out HJ5.out (HRA.out w5)
        simp only [encW] at hy
        rw [HPK.out] at hy
        gi_wp2_with (first | (refine istep_loadA WideF.wide wPl rfl rfl HG5.out rfl ?_))
        refine hR.mono ?_
        rintro r W7 (⟨rfl, hJ7, hk7⟩ | ⟨rfl, hJx7⟩)
        · have HJ7 := hide hJ7
          have HA7 := hide (HA5.out.kb hk7)
          have HG7 := hide (hk7.rest _ _ _ HBG.out (by decide) HG5.out)
          clear hJ7 hk7 hy hR HJ HA HJ5 HA5 HG5 HPR HB5 HRD HRA
          gi_wp2_with (first | (refine istep_loadA WideF.wide wPl rfl rfl HG7.out rfl ?_))
          refine ⟨trivial, (callsIn_wide.2 (end_any (nm, at' + 2, vv) _ (by simp only; omega))).mono ?_⟩
          rintro e w8 ⟨rfl, hb8⟩
          have HA8 := hide (HA7.out.below hb8)
          have HJ8 := hide (hJ _ W7 w8 none HJ7.out ⟨hb8.os, hb8.tape, hb8.output, hb8.size, fun i hi _ => hb8.block i hi⟩ (fun r e => by cases e))
          clear hb8 HA7 HJ7 HG7
          gi_wp2
          go_roundw
          case rel => exact ⟨k + 1, _, by omega, by go_num, by rw [HOO.out, HON.out]; rfl, HM.out.symm ▸ hide rfl, HJ8, HA8⟩
          case measure => simp only [intOf]; omega
        · have HJx7 := hide hJx7
          clear hJx7 hy hR HJ HA HJ5 HA5 HG5 HPR HB5 HRD HRA
          gi_wp2
          refine bodyPost_ret (results_none rfl _ _ _) rfl ?_
          exact ⟨⟨_, rfl⟩, .inr ⟨_, ⟨k + 1, by omega, HM.out⟩, HJx7.out⟩⟩
      · have hke : k = ls.length := by omega
        have hen := HEN.out (by omega)
        rw [← hke] at hen
        have HFIN : Hid (pre = wls nm ls ls.length) := hide (by rw [← hke]; exact HPR.out)
        by_cases h2 : (b.drop (offL ls k)).length < 2
        · obtain ⟨ys, HYS⟩ : ∃ ys, Hid ((b.drop (offL ls k)).take 2 = ys) := ⟨_, hide rfl⟩
          have HRD := HRDk
          rw [HYS.out] at HRD
          have HYB : Hid (isB ys) := hide (by rw [← HYS.out]; exact (HBB.out.dropS _).takeS _)
          have hyl : ys.length < 2 := by rw [← HYS.out, List.length_take]; omega
          have HYE0 := rd_few hyl
          obtain ⟨yl, HYL⟩ : ∃ yl, Hid (ys.length = yl) := ⟨_, hide rfl⟩
          rw [HYL.out] at HYE0 hyl
          have hyl2 : yl ≤ 2 := by omega
          have HYE := hide HYE0
          obtain ⟨vv, hvv⟩ : ∃ vv : Nat, rdV ys 0 2 = (vv : Int) := ⟨(rdV ys 0 2).toNat, by have := (rdV_bd ys HYB.out 0 2).1; omega⟩
          have HYV := hide hvv
          have hvb : vv ≤ 65535 := by have := (rdV_bd ys HYB.out 0 2).2; rw [hvv] at this; omega
          clear HYE0 hvv hen h2 HYS hke
          generalize hat' : offL ls k = at' at *
          clear hat'
          gi_wp2_with fail
          refine ⟨trivial, (callsIn_wide.2 (HRD.out _ HA.out.dk)).mono ?_⟩
          rintro e w1 ⟨v, rfl, ho1, hb1⟩
          obtain ⟨va, vc, rfl, hs1⟩ := ho1.sl' HYB.out (by rw [HYL.out]; omega)
          rw [HYL.out] at hs1 ⊢
          have HS1 := hide hs1
          have HA1 := hide (HA.out.below hb1)
          have HJ1 := hide (hJ _ wr w1 none HJ.out ⟨hb1.os, hb1.tape, hb1.output, hb1.size, fun i hi _ => hb1.block i hi⟩ (fun r e => by cases e))
          have HB1 := hide hb1
          clear hs1 ho1 hb1 hc1 hc2
          gi_wp2_with fail
          refine ⟨trivial, (callsIn_wide.2 (uint16_any _ _ _ _ _ _ HS1.out)).mono ?_⟩
          rintro e w2 ⟨rfl, rfl⟩
          rw [HYV.out, HYE.out]
          have hc3 : w1.cell? ⟨gn, 0, none⟩ = some (.string nm) := by rw [HA1.out.bn.cell]; rfl
          gi_wp2_with (first | (refine istep_buildPl WideF.wide rfl rfl rfl rfl ?_) | (refine istep_alloc WideF.wide zPl rfl ?_))
          intro w3 g3 hg3 hle3 hb3
          have HG3 := hide hg3
          have HL3 := hide hle3
          have HB3 := hide (on_below HB1.out hb3)
          have HA3 := hide (HA1.out.below hb3)
          have HJ3 := hide (hJ _ w1 w3 none HJ1.out ⟨hb3.os, hb3.tape, hb3.output, hb3.size, fun i hi _ => hb3.block i hi⟩ (fun r e => by cases e))
          clear hg3 hle3 hb3 hc3
          gi_wp2_with (refine istep_storeA WideF.wide wPl rfl rfl rfl HG3.out rfl (One.pl (nm, at' + 2, vv)) rfl ?_)
          intro w4 hg4 hbut
          have hgw : wr.heap.size ≤ g3 := Nat.le_trans HB1.out.size HL3.out
          have HG4 := hide hg4
          have HB4 := hide (HB3.out.trans (hbut.below hgw))
          have HA4 := hide (HA.out.below HB4.out)
          have HJ4 := hide (hJ _ wr w4 none HJ.out ⟨HB4.out.os, HB4.out.tape, HB4.out.output, HB4.out.size, fun i hi _ => HB4.out.block i hi⟩ (fun r e => by cases e))
          clear hg4 hbut HG3 HL3 HB3 HA3 HJ3 HB1 HA1 HJ1 HS1
          gi_wp2
          refine ⟨trivial, ?_⟩
          gi_wp2
          refine ⟨(fun f h => by cases h), ?_⟩
          gi_wp2
          refine bodyPost_ret (results_none rfl _ _ _) rfl ?_
          exact ⟨⟨_, rfl⟩, .inl ⟨_, HFIN.out, HJ4.out⟩⟩
        · obtain ⟨x, c, t, ht⟩ : ∃ x c t, b.drop (offL ls k) = x :: c :: t := by
            match hm : b.drop (offL ls k) with
            | [] => simp [hm] at h2
            | [_] => simp [hm] at h2
            | x :: c :: t => exact ⟨x, c, t, rfl⟩
          rw [ht] at hen
          have hlo := wl1_cons hen
          have hbt : b.length = offL ls k + 2 + t.length := by
            have := congrArg List.length ht
            rw [List.length_drop] at this
            simp at this
            omega
          have hxb : isB (x :: c :: t) := by rw [← ht]; exact HBB.out.dropS _
          have hx0 := hxb x (by simp)
          have hc0 := hxb c (by simp)
          obtain ⟨ys, HYS⟩ : ∃ ys, Hid ((b.drop (offL ls k)).take 2 = ys) := ⟨_, hide rfl⟩
          have HRD := HRDk
          rw [HYS.out] at HRD
          have hys : ys = [x, c] := by rw [← HYS.out, ht]; rfl
          have HYB : Hid (isB ys) := hide (by rw [← HYS.out]; exact (HBB.out.dropS _).takeS _)
          have HYL : Hid (ys.length = 2) := hide (by rw [hys]; rfl)
          have hyl2 : (2 : Nat) ≤ 2 := by omega
          obtain ⟨vv, hvv⟩ : ∃ vv : Nat, (x * 256 + c) = (vv : Int) := ⟨(x * 256 + c).toNat, by omega⟩
          have HYV : Hid (rdV ys 0 2 = (vv : Int)) := hide (by rw [hys, (rd_two _ _).1, hvv])
          have HYE : Hid (rdE 2 0 2 = 0) := hide (rd_two 0 0).2
          rw [hvv] at hlo
          have hgt : (b.length : Int) < ((offL ls k + 2 + vv : Nat) : Int) := by omega
          have hvb : vv ≤ 70000 := by omega
          have hgt2 : decide ((b.length : Int) < (offL ls k : Int) + 2 + (vv : Int)) = true := decide_eq_true (by omega)
          clear ht hys HYS hen h2 hx0 hc0 hxb hvv hlo hbt hke
          generalize hat' : offL ls k = at' at *
          clear hat'
          gi_wp2_with fail
          refine ⟨trivial, (callsIn_wide.2 (HRD.out _ HA.out.dk)).mono ?_⟩
          rintro e w1 ⟨v, rfl, ho1, hb1⟩
          obtain ⟨va, vc, rfl, hs1⟩ := ho1.sl' HYB.out (by rw [HYL.out]; omega)
          rw [HYL.out] at hs1 ⊢
          have HS1 := hide hs1
          have HA1 := hide (HA.out.below hb1)
          have HJ1 := hide (hJ _ wr w1 none HJ.out ⟨hb1.os, hb1.tape, hb1.output, hb1.size, fun i hi _ => hb1.block i hi⟩ (fun r e => by cases e))
          have HB1 := hide hb1
          clear hs1 ho1 hb1 hc1 hc2
          gi_wp2_with fail
          refine ⟨trivial, (callsIn_wide.2 (uint16_any _ _ _ _ _ _ HS1.out)).mono ?_⟩
          rintro e w2 ⟨rfl, rfl⟩
          rw [HYV.out, HYE.out]
          have hc3 : w1.cell? ⟨gn, 0, none⟩ = some (.string nm) := by rw [HA1.out.bn.cell]; rfl
          gi_wp2_with (first | (refine istep_buildPl WideF.wide rfl rfl rfl rfl ?_) | (refine istep_alloc WideF.wide zPl rfl ?_))
          intro w3 g3 hg3 hle3 hb3
          have HG3 := hide hg3
          have HL3 := hide hle3
          have HB3 := hide (on_below HB1.out hb3)
          have HA3 := hide (HA1.out.below hb3)
          have HJ3 := hide (hJ _ w1 w3 none HJ1.out ⟨hb3.os, hb3.tape, hb3.output, hb3.size, fun i hi _ => hb3.block i hi⟩ (fun r e => by cases e))
          clear hg3 hle3 hb3 hc3
          gi_wp2_with (refine istep_storeA WideF.wide wPl rfl rfl rfl HG3.out rfl (One.pl (nm, at' + 2, vv)) rfl ?_)
          intro w4 hg4 hbut
          have hgw : wr.heap.size ≤ g3 := Nat.le_trans HB1.out.size HL3.out
          have HG4 := hide hg4
          have HB4 := hide (HB3.out.trans (hbut.below hgw))
          have HA4 := hide (HA.out.below HB4.out)
          have HJ4 := hide (hJ _ wr w4 none HJ.out ⟨HB4.out.os, HB4.out.tape, HB4.out.output, HB4.out.size, fun i hi _ => HB4.out.block i hi⟩ (fun r e => by cases e))
          clear hg4 hbut HG3 HL3 HB3 HA3 HJ3 HB1 HA1 HJ1 HS1
          gi_wp2_with (first | (refine istep_loadA WideF.wide wPl rfl rfl HG4.out rfl ?_))
          refine ⟨trivial, (callsIn_wide.2 (end_any (nm, at' + 2, vv) _ (by simp only; omega))).mono ?_⟩
          rintro e w5 ⟨rfl, hb5⟩
          have HJ5 := hide (hJ _ w4 w5 none HJ4.out ⟨hb5.os, hb5.tape, hb5.output, hb5.size, fun i hi _ => hb5.block i hi⟩ (fun r e => by cases e))
          clear hb5 HG4 HB4 HA4 HJ4
          try simp only at hgt
          gi_wp2
          refine ⟨(fun f h => by cases h), ?_⟩
          gi_wp2
          refine bodyPost_ret (results_none rfl _ _ _) rfl ?_
          exact ⟨⟨_, rfl⟩, .inl ⟨_, HFIN.out, HJ5.out⟩⟩
    · have hkPi : ¬ (k : Int) < (P : Int) := by omega
      have HFIN : Hid (pre = wls nm ls ls.length) := hide (by rw [HPR.out, show k = ls.length by omega])
      gi_wp2
      go_end0
      exact ⟨⟨_, rfl⟩, .inl (HFIN.out ▸ HJ.out)⟩

end Go.Proofs.YtpocadbhajacaaaGreatDoor

/-
  The document's files: by rising names, one behind the other, without any program.
-/
namespace Go.Proofs.YtpocadbhajacaaaGreatDoor
open Go.RowKit
set_option linter.unusedVariables false

theorem bl_irr : ∀ x : List UInt8, Op.bytesLess x x = false
  | [] => rfl
  | a :: x => by
    unfold Op.bytesLess
    have h := bl_irr x
    simp [h]
theorem bl_tot : ∀ x y : List UInt8, x ≠ y → Op.bytesLess x y = false → Op.bytesLess y x = true
  | [], [], h, _ => absurd rfl h
  | [], b :: y, _, h => by simp [Op.bytesLess] at h
  | a :: x, [], _, _ => by simp [Op.bytesLess]
  | a :: x, b :: y, h, h' => by
    unfold Op.bytesLess at h' ⊢
    simp only [Bool.or_eq_false_iff, decide_eq_false_iff_not, Bool.and_eq_false_iff, beq_eq_false_iff_ne] at h'
    simp only [Bool.or_eq_true, decide_eq_true_eq, Bool.and_eq_true, beq_iff_eq]
    by_cases hab : a = b
    · right
      refine ⟨hab.symm, bl_tot x y (fun e => h (by rw [hab, e])) ?_⟩
      rcases h'.2 with h2 | h2
      · exact absurd hab h2
      · exact h2
    · left
      exact UInt8.lt_of_le_of_ne (UInt8.not_lt.1 h'.1) (Ne.symm hab)
theorem bl_trans : ∀ x y z : List UInt8, Op.bytesLess x y = true → Op.bytesLess y z = true → Op.bytesLess x z = true
  | _, _, [], _, h => by simp [Op.bytesLess] at h
  | _, [], _ :: _, h, _ => by simp [Op.bytesLess] at h
  | [], _ :: _, _ :: _, _, _ => by simp [Op.bytesLess]
  | a :: x, b :: y, c :: z, h1, h2 => by
    unfold Op.bytesLess at h1 h2 ⊢
    simp only [Bool.or_eq_true, decide_eq_true_eq, Bool.and_eq_true, beq_iff_eq] at h1 h2 ⊢
    rcases h1 with h1 | ⟨h1, h1'⟩
    · rcases h2 with h2 | ⟨h2, h2'⟩
      · exact .inl (UInt8.lt_trans h1 h2)
      · exact .inl (h2 ▸ h1)
    · rcases h2 with h2 | ⟨h2, h2'⟩
      · exact .inl (h1 ▸ h2)
      · exact .inr ⟨h1.trans h2, bl_trans x y z h1' h2'⟩

def blt (a b : ByteArray) : Bool := Op.bytesLess a.toList b.toList
theorem blt_irr (a : ByteArray) : blt a a = false := bl_irr _
theorem blt_ne {a b : ByteArray} (h : blt a b = true) : a ≠ b := fun e => by rw [e, blt_irr] at h; cases h
theorem bytes_inj {a b : ByteArray} (h : a.toList = b.toList) : a = b := by
  rw [ByteArray.toList_eq, ByteArray.toList_eq] at h
  exact ByteArray.ext (Array.toList_inj.1 h)
theorem blt_tot {a b : ByteArray} (h : a ≠ b) (h' : blt a b = false) : blt b a = true := bl_tot _ _ (fun e => h (bytes_inj e)) h'
theorem blt_trans {a b c : ByteArray} (h : blt a b = true) (h' : blt b c = true) : blt a c = true := bl_trans _ _ _ h h'

def Srt (l : List (ByteArray × List Int)) : Prop := l.Pairwise fun a b => blt a.1 b.1 = true
/-- Files as a function, and as a list by rising names. -/
structure FL (f : ByteArray → Option (List Int)) (l : List (ByteArray × List Int)) : Prop where
  srt : Srt l
  mem : ∀ n xs, f n = some xs ↔ (n, xs) ∈ l
theorem FL.nil : FL (fun _ => none) [] := ⟨List.Pairwise.nil, fun n xs => by simp⟩
def posF (l : List (ByteArray × List Int)) (n : ByteArray) : Nat := (l.takeWhile fun x => blt x.1 n).length
theorem posF_lt : ∀ (l : List (ByteArray × List Int)) (n : ByteArray) (i : Nat) (x : ByteArray × List Int), l[i]? = some x → i ≤ posF l n → (blt x.1 n = true ↔ i < posF l n)
  | [], _, _, _, h, _ => by simp at h
  | y :: l, n, 0, x, h, _ => by
    simp at h
    subst h
    cases hb : blt y.1 n <;> simp [posF, hb]
  | y :: l, n, i + 1, x, h, hi => by
    simp at h
    cases hb : blt y.1 n with
    | false => simp [posF, hb] at hi
    | true =>
      have e : posF (y :: l) n = posF l n + 1 := by simp [posF, hb]
      rw [e] at hi ⊢
      rw [posF_lt l n i x h (by omega)]
      omega
theorem posF_le (l : List (ByteArray × List Int)) (n : ByteArray) : posF l n ≤ l.length := (List.takeWhile_sublist _).length_le
theorem takeWhile_all {p : (ByteArray × List Int) → Bool} : ∀ (l : List (ByteArray × List Int)), ∀ x ∈ l.takeWhile p, p x = true
  | [], x, h => by simp at h
  | y :: l, x, h => by
    rw [List.takeWhile_cons] at h
    split at h
    · rename_i hy
      rcases List.mem_cons.1 h with rfl | h
      · exact hy
      · exact takeWhile_all l x h
    · cases h
theorem dropWhile_hd {p : (ByteArray × List Int) → Bool} : ∀ (l : List (ByteArray × List Int)) {y : ByteArray × List Int} {t : List (ByteArray × List Int)}, l.dropWhile p = y :: t → p y = false
  | [], y, t, h => by simp at h
  | z :: l, y, t, h => by
    rw [List.dropWhile_cons] at h
    split at h
    · exact dropWhile_hd l h
    · rename_i hz
      injection h with h1 h2
      subst h1
      simpa using hz
/-- Where a name stands, or would stand. -/
theorem FL.split {f : ByteArray → Option (List Int)} {l : List (ByteArray × List Int)} (h : FL f l) (n : ByteArray) :
    ∃ A B, l = A ++ B ∧ A.length = posF l n ∧ (∀ a ∈ A, blt a.1 n = true) ∧ ((f n = none ∧ ∀ b ∈ B, blt n b.1 = true) ∨ ∃ xs B', f n = some xs ∧ B = (n, xs) :: B' ∧ ∀ b ∈ B', blt n b.1 = true) := by
  obtain ⟨A, hA⟩ : ∃ A, A = l.takeWhile fun x => blt x.1 n := ⟨_, rfl⟩
  obtain ⟨B, hB⟩ : ∃ B, B = l.dropWhile fun x => blt x.1 n := ⟨_, rfl⟩
  have hl : l = A ++ B := by rw [hA, hB, List.takeWhile_append_dropWhile]
  have hA2 : ∀ a ∈ A, blt a.1 n = true := by rw [hA]; exact takeWhile_all (p := fun x => blt x.1 n) l
  refine ⟨A, B, hl, by rw [hA]; rfl, hA2, ?_⟩
  have hs := h.srt
  rw [hl] at hs
  have hsB := (List.pairwise_append.1 hs).2.1
  have hout : ∀ xs, (n, xs) ∈ l → (n, xs) ∈ B := fun xs hx => by
    rw [hl] at hx
    rcases List.mem_append.1 hx with hx | hx
    · exact absurd rfl (blt_ne (hA2 _ hx))
    · exact hx
  cases hBc : B with
  | nil =>
    refine .inl ⟨?_, fun b hb => by cases hb⟩
    cases hf : f n with
    | none => rfl
    | some xs =>
      have := hout xs ((h.mem n xs).1 hf)
      rw [hBc] at this
      cases this
  | cons y t =>
    rw [hBc] at hsB hB
    have hy : blt y.1 n = false := dropWhile_hd (p := fun x => blt x.1 n) l hB.symm
    have hst := List.pairwise_cons.1 hsB
    by_cases hyn : y.1 = n
    · right
      have hye : y = (n, y.2) := by rw [← hyn]
      refine ⟨y.2, t, (h.mem n y.2).2 (by rw [hl, hBc, ← hye]; simp), by rw [← hye], fun b hb => by have := hst.1 b hb; rw [hyn] at this; exact this⟩
    · left
      have h1 : blt n y.1 = true := blt_tot hyn hy
      have h2 : ∀ b ∈ y :: t, blt n b.1 = true := fun b hb => by
        rcases List.mem_cons.1 hb with rfl | hb
        · exact h1
        · exact blt_trans h1 (hst.1 b hb)
      refine ⟨?_, h2⟩
      cases hf : f n with
      | none => rfl
      | some xs =>
        have := hout xs ((h.mem n xs).1 hf)
        rw [hBc] at this
        exact absurd rfl (blt_ne (h2 _ this))
section
variable {f : ByteArray → Option (List Int)} {A B : List (ByteArray × List Int)} {n : ByteArray}
/-- The file at a name's place: new, or turned. -/
theorem FL.put (h : FL f (A ++ B)) (hA : ∀ a ∈ A, blt a.1 n = true) (hB : ∀ b ∈ B, blt n b.1 = true) (xs : List Int) : FL (upd f n (some xs)) (A ++ (n, xs) :: B) := by
  obtain ⟨h1, h2, h3⟩ := List.pairwise_append.1 h.srt
  refine ⟨List.pairwise_append.2 ⟨h1, List.pairwise_cons.2 ⟨hB, h2⟩, fun a ha b hb => ?_⟩, fun m ys => ?_⟩
  · rcases List.mem_cons.1 hb with rfl | hb
    · exact hA a ha
    · exact h3 a ha b hb
  · have hm := h.mem m ys
    unfold upd
    by_cases e : m = n
    · subst e
      rw [if_pos rfl]
      constructor
      · intro e
        injection e with e
        subst e
        simp
      · intro hx
        rcases List.mem_append.1 hx with hx | hx
        · exact absurd rfl (blt_ne (hA _ hx))
        · rcases List.mem_cons.1 hx with hx | hx
          · injection hx with _ hx
            rw [hx]
          · exact absurd rfl (blt_ne (hB _ hx))
    · rw [if_neg e, hm]
      simp only [List.mem_append, List.mem_cons, Prod.mk.injEq, e, false_and, false_or]
theorem FL.turn {ys : List Int} (h : FL f (A ++ (n, ys) :: B)) (hA : ∀ a ∈ A, blt a.1 n = true) (hB : ∀ b ∈ B, blt n b.1 = true) : FL (upd f n none) (A ++ B) := by
  obtain ⟨h1, h2, h3⟩ := List.pairwise_append.1 h.srt
  refine ⟨List.pairwise_append.2 ⟨h1, (List.pairwise_cons.1 h2).2, fun a ha b hb => h3 a ha b (List.mem_cons_of_mem _ hb)⟩, fun m zs => ?_⟩
  have hm := h.mem m zs
  unfold upd
  by_cases e : m = n
  · subst e
    rw [if_pos rfl]
    refine ⟨fun h => (by cases h), fun hx => ?_⟩
    rcases List.mem_append.1 hx with hx | hx
    · exact absurd rfl (blt_ne (hA _ hx))
    · exact absurd rfl (blt_ne (hB _ hx))
  · rw [if_neg e, hm]
    simp only [List.mem_append, List.mem_cons, Prod.mk.injEq, e, false_and, false_or]
theorem FL.set {ys : List Int} (h : FL f (A ++ (n, ys) :: B)) (hA : ∀ a ∈ A, blt a.1 n = true) (hB : ∀ b ∈ B, blt n b.1 = true) (xs : List Int) : FL (upd f n (some xs)) (A ++ (n, xs) :: B) := by
  have := (h.turn hA hB).put hA hB xs
  rw [upd_upd] at this
  exact this
end
/-- Two lists by rising names with the same files are the same. -/
theorem srt_ext : ∀ (l l' : List (ByteArray × List Int)), Srt l → Srt l' → (∀ x, x ∈ l ↔ x ∈ l') → l = l'
  | [], [], _, _, _ => rfl
  | [], y :: t, _, _, h => by have := (h y).2 (by simp); cases this
  | x :: t, [], _, _, h => by have := (h x).1 (by simp); cases this
  | x :: t, y :: t', h1, h2, h => by
    have p1 := List.pairwise_cons.1 h1
    have p2 := List.pairwise_cons.1 h2
    have e : x = y := by
      rcases List.mem_cons.1 ((h x).1 (by simp)) with e | hx
      · exact e
      · rcases List.mem_cons.1 ((h y).2 (by simp)) with e | hy
        · exact e.symm
        · have a1 := p2.1 x hx
          have a2 := p1.1 y hy
          exact absurd rfl (blt_ne (blt_trans a1 a2))
    subst e
    rw [srt_ext t t' p1.2 p2.2 (fun z => ?_)]
    have hz := h z
    simp only [List.mem_cons] at hz
    constructor
    · intro hm
      rcases hz.1 (.inr hm) with e | h'
      · exact absurd e.symm (fun e => by have := p1.1 z hm; rw [e] at this; exact absurd rfl (blt_ne this))
      · exact h'
    · intro hm
      rcases hz.2 (.inr hm) with e | h'
      · exact absurd e.symm (fun e => by have := p2.1 z hm; rw [e] at this; exact absurd rfl (blt_ne this))
      · exact h'
theorem FL.ext {f f' : ByteArray → Option (List Int)} {l l' : List (ByteArray × List Int)} (h : FL f l) (h' : FL f' l') : l = l' ↔ f = f' := by
  constructor
  · rintro rfl
    funext n
    cases hf : f n with
    | none =>
      cases hf' : f' n with
      | none => rfl
      | some xs => have := (h.mem n xs).2 ((h'.mem n xs).1 hf'); rw [hf] at this; cases this
    | some xs => exact ((h'.mem n xs).2 ((h.mem n xs).1 hf)).symm
  · rintro rfl
    exact srt_ext _ _ h.srt h'.srt (fun x => by rw [show x = (x.1, x.2) from rfl, ← h.mem, ← h'.mem])
/-- What a rename makes, done as the document does it: first the old name goes. -/
theorem ren_upd (f : ByteArray → Option (List Int)) {n t : ByteArray} (h : n ≠ t) (xs : List Int) : upd (upd f n none) t (some xs) = upd (upd f t (some xs)) n none := by
  funext x
  unfold upd
  by_cases h1 : x = t
  · subst h1
    rw [if_pos rfl, if_neg (Ne.symm h), if_pos rfl]
  · by_cases h2 : x = n
    · subst h2
      rw [if_neg h1, if_pos rfl, if_pos rfl]
    · rw [if_neg h1, if_neg h2, if_neg h2, if_neg h1]

end Go.Proofs.YtpocadbhajacaaaGreatDoor

/-
  The document's disk in memory; New, name, find.
-/
namespace Go.Proofs.YtpocadbhajacaaaGreatDoor
open Go.RowKit
set_option linter.unusedVariables false

def filC (l : List (ByteArray × List Int)) : List Value := l.flatMap fun x => [.string x.1, .string (str x.2)]
theorem filC_app (a b : List (ByteArray × List Int)) : filC (a ++ b) = filC a ++ filC b := by simp [filC]
theorem filC_cons (x : ByteArray × List Int) (b : List (ByteArray × List Int)) : filC (x :: b) = [.string x.1, .string (str x.2)] ++ filC b := by simp [filC]
theorem filC_length (l : List (ByteArray × List Int)) : (filC l).length = l.length * 2 := by
  induction l with
  | nil => rfl
  | cons x r ih => rw [filC_cons]; simp at ih ⊢; omega
theorem filC_take (l : List (ByteArray × List Int)) (k : Nat) : filC (l.take k) = (filC l).take (k * 2) := by
  by_cases hk : k ≤ l.length
  · have e : filC l = filC (l.take k) ++ filC (l.drop k) := by rw [← filC_app, List.take_append_drop]
    rw [e, List.take_left' (by rw [filC_length, List.length_take, Nat.min_eq_left hk])]
  · rw [List.take_of_length_le (by omega), List.take_of_length_le (by rw [filC_length]; omega)]
theorem filC_drop (l : List (ByteArray × List Int)) (k : Nat) : filC (l.drop k) = (filC l).drop (k * 2) := by
  by_cases hk : k ≤ l.length
  · have e : filC l = filC (l.take k) ++ filC (l.drop k) := by rw [← filC_app, List.take_append_drop]
    rw [e, List.drop_left' (by rw [filC_length, List.length_take, Nat.min_eq_left hk])]
  · rw [List.drop_of_length_le (by omega), List.drop_of_length_le (by rw [filC_length]; omega)]
    rfl
theorem filC_one (l : List (ByteArray × List Int)) : ∀ x ∈ filC l, x.oneCell' = true := by
  intro x hx
  simp only [filC, List.mem_flatMap] at hx
  obtain ⟨y, _, hy⟩ := hx
  simp at hy
  rcases hy with rfl | rfl <;> rfl
def fi0 : Value := .agg #[.string ByteArray.empty, .string ByteArray.empty]
theorem rFi : Ro 107 131 2 32 fi0 := ⟨by kernel_rfl, by kernel_rfl, by kernel_rfl, rfl, by decide, by decide, fun w => by kernel_rfl⟩
theorem wFi : Wide 131 2 := ⟨by kernel_rfl, by kernel_rfl⟩
def rkC (s : Int) (fv qv : Value) : List Value := [.int .i64 s, fv, qv]
/-- The files of the document's disk in memory. -/
structure FkAt (w : World) (r s : Nat) (fv qv : Value) (l : List (ByteArray × List Int)) : Prop where
  blk : Blk w r 110 (rkC s fv qv)
  row : w.ownsRow 0 131 2 fv l.length (filC l)
section
variable {w w' : World} {r s : Nat} {fv qv : Value} {l : List (ByteArray × List Int)}
theorem FkAt.below (h : FkAt w r s fv qv l) (hb : Below w.heap.size w w') : FkAt w' r s fv qv l :=
  ⟨h.blk.on hb, row_same h.row (fun k hk => by obtain ⟨cs, hc⟩ := row_lies h.row hk; exact hb.block k hc.lt)⟩
/-- A file's two cells. -/
theorem FkAt.file (h : FkAt w r s fv qv l) {k : Nat} {x : ByteArray × List Int} (hx : l[k]? = some x) : ∃ g cap cs, fv = .slice (some ⟨g, 0, none⟩) l.length cap ∧ Blk w g 131 cs ∧ cs.take (l.length * 2) = filC l ∧ l.length * 2 ≤ cs.length ∧ (cs.drop (k * 2)).take 2 = [.string x.1, .string (str x.2)] ∧ cs[k * 2]? = some (.string x.1) ∧ cs[k * 2 + 1]? = some (.string (str x.2)) := by
  have hlt : k < l.length := (List.getElem?_eq_some_iff.1 hx).1
  obtain ⟨g, cap, cs, h1, h2, h3, h4⟩ := row_at h.row (by omega)
  have e1 : l = l.take k ++ (x :: l.drop (k + 1)) := by
    obtain ⟨hlt, rfl⟩ := List.getElem?_eq_some_iff.1 hx
    rw [← List.drop_eq_getElem_cons hlt, List.take_append_drop]
  have e2 : filC l = filC (l.take k) ++ ([.string x.1, .string (str x.2)] ++ filC (l.drop (k + 1))) := by rw [← filC_cons, ← filC_app, ← e1]
  have e3 : (filC (l.take k)).length = k * 2 := by rw [filC_length, List.length_take, Nat.min_eq_left (by omega)]
  have e4 : (cs.drop (k * 2)).take 2 = [.string x.1, .string (str x.2)] := by
    have : ((filC l).drop (k * 2)).take 2 = [.string x.1, .string (str x.2)] := by
      rw [e2, List.drop_left' e3]
      rfl
    rw [← h3, List.drop_take, List.take_take, Nat.min_eq_left (by omega)] at this
    exact this
  refine ⟨g, cap, cs, h1, h2, h3, h4, e4, ?_, ?_⟩
  · have := congrArg (fun z => z[0]?) e4
    simpa [List.getElem?_take, List.getElem?_drop] using this
  · have := congrArg (fun z => z[1]?) e4
    simpa [List.getElem?_take, List.getElem?_drop] using this
end

theorem nameR_any (n : ByteArray) (w : World) : Calls Tryz.prog 87 #[.string n] w fun e w' => e = .returned (.bool (nmB n)) ∧ w' = w := by
  unfold nmB
  by_cases h1 : 1 ≤ n.size
  · by_cases h2 : n.size ≤ 128
    · go_enter Tryz.func87, Tryz.ntmps87
      go_wp2
      go_ret
      exact ⟨by congr; simp [h1, h2]; omega, rfl⟩
    · go_enter Tryz.func87, Tryz.ntmps87
      go_wp2
      go_ret
      exact ⟨by congr; simp [h1, h2]; omega, rfl⟩
  · go_enter Tryz.func87, Tryz.ntmps87
    go_wp2
    go_ret
    exact ⟨by simp, rfl⟩
/-- Is the file there that find's place shows? -/
theorem FL.found {f : ByteArray → Option (List Int)} {l : List (ByteArray × List Int)} (h : FL f l) (n : ByteArray) {x : ByteArray × List Int} (hx : l[posF l n]? = some x) : (x.1.toList == n.toList) = (f n).isSome := by
  obtain ⟨A, B, rfl, hA, hlt, hB⟩ := h.split n
  have hx2 : B[0]? = some x := by rw [← hA, List.getElem?_append_right (Nat.le_refl _), Nat.sub_self] at hx; exact hx
  rcases hB with ⟨h1, h2⟩ | ⟨xs, B', h1, rfl, h3⟩
  · rw [h1]
    have := h2 x (List.mem_of_getElem? hx2)
    exact beqS_ne (Ne.symm (blt_ne this))
  · simp at hx2
    subst hx2
    rw [h1]
    simp
theorem FL.gone {f : ByteArray → Option (List Int)} {l : List (ByteArray × List Int)} (h : FL f l) (n : ByteArray) (hx : l.length ≤ posF l n) : (f n).isSome = false := by
  obtain ⟨A, B, rfl, hA, hlt, hB⟩ := h.split n
  have hB0 : B = [] := by
    rw [List.length_append] at hx
    exact List.eq_nil_of_length_eq_zero (by omega)
  subst hB0
  rcases hB with ⟨h1, h2⟩ | ⟨xs, B', h1, h2, h3⟩
  · rw [h1]; rfl
  · cases h2
set_option maxRecDepth 100000 in
set_option maxHeartbeats 1000000 in
theorem find_any (r s : Nat) (fv qv : Value) (l : List (ByteArray × List Int)) (f : ByteArray → Option (List Int)) (n : ByteArray) (w : World) (h : FkAt w r s fv qv l) (hf : FL f l) (hl : l.length ≤ 1099511000000) :
    Calls Tryz.prog 67 #[.pointer (some ⟨r, 0, none⟩), .string n] w fun e w' => e = .returned (.tuple #[.int .i64 (posF l n : Nat), .bool (f n).isSome]) ∧ Below w.heap.size w w' := by
  obtain ⟨fa, fc, rfl⟩ := row_slice h.row
  have c1 : w.cell? ⟨r, 1, none⟩ = some (.slice fa l.length fc) := by rw [h.blk.cell]; rfl
  have HH := hide h
  have HF := hide hf
  clear h hf
  generalize hL : l.length = L at *
  have HL := hide hL
  clear hL
  go_enter Tryz.func67, Tryz.ntmps67
  go_wp2
  go_loopw [6] (fun i wr => ∃ k : Nat, i = .int .i64 (k : Int) ∧ Hid (k ≤ posF l n) ∧ w = wr) (fun i _ => L - (intOf i).toNat)
  case atStart => exact ⟨0, rfl, hide (Nat.zero_le _), rfl⟩
  case round =>
    obtain ⟨k, rfl, HK, rfl⟩ := hrel
    have hkL : k ≤ L := by have h1 := HK.out; have h2 := posF_le l n; have h3 := HL.out; omega
    by_cases hlt : k < L
    · obtain ⟨x, hx⟩ : ∃ x, l[k]? = some x := ⟨_, List.getElem?_eq_getElem (by rw [HL.out]; exact hlt)⟩
      obtain ⟨g, cap, cs, e1, hg, _, _, _, hc0, _⟩ := HH.out.file hx
      injection e1 with e1 _ e3
      subst e1 e3
      have hix := vw_at rFi g L fc k hlt
      have hcell : w.cell? ⟨g, k * 2, none⟩ = some (.string x.1) := by rw [hg.cell]; exact hc0
      have hlti : (k : Int) < (L : Int) := by omega
      have hpos := posF_lt l n k x hx HK.out
      unfold blt at hpos
      have HPOS := hide hpos
      have HX := hide hx
      clear hpos hc0 hg hx
      cases hb : Op.bytesLess x.1.toList n.toList with
      | true =>
        go_wp2
        go_roundw
        case rel => exact ⟨k + 1, by go_num, hide (HPOS.out.1 hb), trivial⟩
        case measure => simp [intOf]; omega
      | false =>
        have hkp : k = posF l n := by
          have h1 := HK.out
          have h2 : ¬ k < posF l n := fun h => by rw [HPOS.out.2 h] at hb; cases hb
          omega
        have HKP := hide hkp
        clear hkp
        go_wp2_with fail
        go_quiet (fail)
        go_wp2
        go_ret2
        rw [← HF.out.found n (by rw [← HKP.out]; exact HX.out), ← HKP.out]
        exact ⟨rfl, below_drewN (Below.refl _ _) _⟩
    · have hlti : ¬ (k : Int) < (L : Int) := by omega
      have hkp : k = posF l n := by have h1 := HK.out; have h2 := posF_le l n; have h3 := HL.out; omega
      have HKP := hide hkp
      clear hkp
      go_wp2_with fail
      go_quiet (fail)
      go_wp2
      go_ret2
      rw [HF.out.gone n (by have h2 := HKP.out; have h3 := HL.out; omega), ← HKP.out]
      exact ⟨rfl, below_drewN (Below.refl _ _) _⟩

end Go.Proofs.YtpocadbhajacaaaGreatDoor

/-
  The document's disk in memory, whole; what do's branches leave, and its end.
-/
namespace Go.Proofs.YtpocadbhajacaaaGreatDoor
open Go.RowKit
set_option linter.unusedVariables false

theorem str_take (xs : List Int) (k : Nat) : (str xs).extract 0 k = str (xs.take k) := by
  apply ByteArray.ext
  rw [ByteArray.data_extract]
  apply Array.toList_inj.1
  rw [Array.toList_extract]
  simp [str, strOfNums, List.extract, List.map_take]
theorem str_mid (xs : List Int) (i j : Nat) : (str xs).extract i j = str ((xs.drop i).take (j - i)) := by
  apply ByteArray.ext
  rw [ByteArray.data_extract]
  apply Array.toList_inj.1
  rw [Array.toList_extract]
  simp [str, strOfNums, List.extract, List.map_take, List.map_drop]
/-- Raw writes' cells, one behind the other. -/
def rwsC (l : List (Rw × Value)) : List Value := l.flatMap fun x => rwC x.1.k x.1.n x.2 x.1.s x.1.t
theorem rwsC_app (a b : List (Rw × Value)) : rwsC (a ++ b) = rwsC a ++ rwsC b := by simp [rwsC]
theorem rRw : Ro 108 117 5 72 (.agg rw0.toArray) := ⟨by kernel_rfl, by kernel_rfl, by kernel_rfl, rfl, by decide, by decide, fun w => by kernel_rfl⟩
structure Rm where
  fv : Value
  qv : Value
  l : List (ByteArray × List Int)
  qs : List (Rw × Value)
def Rm.own (R : Rm) (r k : Nat) : Prop := k = r ∨ R.fv.ownBlock = some k ∨ R.qv.ownBlock = some k
def Rm.ro (R : Rm) (k : Nat) : Prop := ∃ x ∈ R.qs, x.2.ownBlock = some k
/-- The document's disk in memory, with the raw writes that it has recorded. -/
structure RkAt (w : World) (r s : Nat) (rs : List Rw) (R : Rm) : Prop where
  s1 : 1 ≤ s
  s2 : s ≤ 4096
  fk : FkAt w r s R.fv R.qv R.l
  row : w.ownsRow 0 117 5 R.qv R.qs.length (rwsC R.qs)
  byt : ∀ x ∈ R.qs, BV w x.2 x.1.b
  raw : R.qs.map (·.1) = rs
  fls : FL (play rs) R.l
  val : Val s (fun _ => none) rs
  few : R.l.length ≤ rs.length
section
variable {w w' W : World} {r s : Nat} {rs : List Rw} {R : Rm}
theorem RkAt.same (h : RkAt w r s rs R) (hk : ∀ k, R.own r k ∨ R.ro k → w'.heap[k]? = w.heap[k]?) : RkAt w' r s rs R :=
  ⟨h.s1, h.s2, ⟨h.fk.blk.same (hk r (.inl (.inl rfl))), row_same h.fk.row (fun k e => hk k (.inl (.inr (.inl e))))⟩, row_same h.row (fun k e => hk k (.inl (.inr (.inr e)))), fun x hx => (h.byt x hx).same (fun k e => hk k (.inr ⟨x, hx, e⟩)), h.raw, h.fls, h.val, h.few⟩
/-- A block of the disk's, with its kind. -/
theorem RkAt.kind (h : RkAt w r s rs R) {k : Nat} (hk : R.own r k) : ∃ t cs, Blk w k t cs ∧ (t = 110 ∨ t = 131 ∨ t = 117) := by
  rcases hk with rfl | hk | hk
  · exact ⟨_, _, h.fk.blk, .inl rfl⟩
  · obtain ⟨cs, hc⟩ := row_lies h.fk.row hk; exact ⟨_, cs, hc, .inr (.inl rfl)⟩
  · obtain ⟨cs, hc⟩ := row_lies h.row hk; exact ⟨_, cs, hc, .inr (.inr rfl)⟩
theorem RkAt.off (h : RkAt w r s rs R) {k : Nat} {cs : List Value} (hc : Blk w k 5 cs) : ¬ R.own r k := fun hk => by
  obtain ⟨t, cs', h1, h2⟩ := h.kind hk
  rcases h2 with rfl | rfl | rfl <;> exact hc.apart h1 (by decide) rfl
theorem RkAt.lt (h : RkAt w r s rs R) {k : Nat} (hk : R.own r k ∨ R.ro k) : k < w.heap.size := by
  rcases hk with hk | ⟨x, hx, hk⟩
  · obtain ⟨t, cs, h1, _⟩ := h.kind hk; exact h1.lt
  · obtain ⟨cs, hc⟩ := (h.byt x hx).lies hk; exact hc.lt
theorem RkAt.below (h : RkAt w r s rs R) (hb : Below w.heap.size w w') : RkAt w' r s rs R := h.same (fun k hk => hb.block k (h.lt hk))
theorem RkAt.chs {S : Nat → Prop} (h : RkAt w r s rs R) (hc : Chs S w w') (hn : ∀ k, R.own r k ∨ R.ro k → ¬ S k) : RkAt w' r s rs R := h.same (fun k hk => hc.block k (h.lt hk) (hn k hk))
end
/-- What a call that writes leaves of the document's disk; v: a slice that it may keep. -/
def RoR (w w' : World) (r s : Nat) (R : Rm) (rs' : List Rw) (v : Value) : Prop :=
  ∃ R', RkAt w' r s rs' R' ∧ Chs (R.own r) w w' ∧ (∀ k, R'.own r k → R.own r k ∨ w.heap.size ≤ k) ∧ (∀ k, R'.ro k → R.ro k ∨ v.ownBlock = some k)
/-- What stands in do behind a branch. -/
structure DsR (w W : World) (r s : Nat) (R : Rm) (fv : Value) (l : List (ByteArray × List Int)) (x : Rw) (v : Value) (g3 : Nat) : Prop where
  fk : FkAt W r s fv R.qv l
  row : W.ownsRow 0 117 5 R.qv R.qs.length (rwsC R.qs)
  gb : Blk W g3 117 (rwC x.k x.n v x.s x.t)
  new : w.heap.size ≤ g3
  chs : Chs (R.own r) w W
  lie : ∀ k, fv.ownBlock = some k → R.own r k ∨ w.heap.size ≤ k
  off : R.qv.ownBlock ≠ some g3
section
variable {w W W' : World} {r s : Nat} {rs : List Rw} {R : Rm} {fv : Value} {l : List (ByteArray × List Int)} {x : Rw} {v : Value} {g3 : Nat}
theorem DsR.below (h : DsR w W r s R fv l x v g3) (hb : Below W.heap.size W W') : DsR w W' r s R fv l x v g3 :=
  ⟨h.fk.below hb, row_same h.row (fun k hk => by obtain ⟨cs, hc⟩ := row_lies h.row hk; exact hb.block k hc.lt), h.gb.on hb, h.new, h.chs.thenBelow hb, h.lie, h.off⟩
theorem DsR.r0 (h : DsR w W r s R fv l x v g3) : W.cell? ⟨g3, 0, none⟩ = some (.int .i64 x.k) := by rw [h.gb.cell]; rfl
theorem DsR.r1 (h : DsR w W r s R fv l x v g3) : W.cell? ⟨g3, 1, none⟩ = some (.string x.n) := by rw [h.gb.cell]; rfl
theorem DsR.r2 (h : DsR w W r s R fv l x v g3) : W.cell? ⟨g3, 2, none⟩ = some v := by rw [h.gb.cell]; rfl
theorem DsR.r3 (h : DsR w W r s R fv l x v g3) : W.cell? ⟨g3, 3, none⟩ = some (.int .i64 x.s) := by rw [h.gb.cell]; rfl
theorem DsR.r4 (h : DsR w W r s R fv l x v g3) : W.cell? ⟨g3, 4, none⟩ = some (.string x.t) := by rw [h.gb.cell]; rfl
theorem DsR.c1 (h : DsR w W r s R fv l x v g3) : W.cell? ⟨r, 1, none⟩ = some fv := by rw [h.fk.blk.cell]; rfl
theorem DsR.c2 (h : DsR w W r s R fv l x v g3) : W.cell? ⟨r, 2, none⟩ = some R.qv := by rw [h.fk.blk.cell]; rfl
theorem RkAt.ds (h : RkAt w r s rs R) {w1 : World} (hb : Below w.heap.size w w1) (hg : Blk w1 g3 117 (rwC x.k x.n v x.s x.t)) (hl : w.heap.size ≤ g3) : DsR w w1 r s R R.fv R.l x v g3 :=
  ⟨h.fk.below hb, row_same h.row (fun k hk => by obtain ⟨cs, hc⟩ := row_lies h.row hk; exact hb.block k hc.lt), hg, hl, Chs.of_below _ hb, fun k hk => .inl (.inr (.inl hk)), fun e => by have := h.lt (.inl (.inr (.inr e))); omega⟩
/-- The record has grown: the disk is whole again. -/
theorem DsR.done {rs' : List Rw} {qv' : Value} (h : RkAt w r s rs R) (hr : Lraw s (play rs) x) (hv : BV w v x.b) (hf : FL (doR (play rs) x) l) (hl : l.length ≤ rs.length + 1) (hfk : FkAt W' r s fv qv' l) (hrow : W'.ownsRow 0 117 5 qv' (R.qs ++ [(x, v)]).length (rwsC (R.qs ++ [(x, v)])))
    (hchs : Chs (R.own r) w W') (hlie : ∀ k, fv.ownBlock = some k → R.own r k ∨ w.heap.size ≤ k) (hlq : ∀ k, qv'.ownBlock = some k → R.own r k ∨ w.heap.size ≤ k) (hrs : rs' = rs ++ [x]) : RoR w W' r s R rs' v := by
  subst hrs
  refine ⟨⟨fv, qv', l, R.qs ++ [(x, v)]⟩, ⟨h.s1, h.s2, hfk, hrow, ?_, ?_, ?_, ?_, ?_⟩, hchs, ?_, ?_⟩
  · intro y hy
    rcases List.mem_append.1 hy with hy | hy
    · exact (h.byt y hy).same (fun k hk => by
        obtain ⟨cs, hc⟩ := (h.byt y hy).lies hk
        exact hchs.block k hc.lt (h.off hc))
    · simp at hy
      subst hy
      exact hv.same (fun k hk => by
        obtain ⟨cs, hc⟩ := hv.lies hk
        exact hchs.block k hc.lt (h.off hc))
  · simp [h.raw]
  · rw [play_snoc]; exact hf
  · rw [Val_app]
    exact ⟨h.val, hr, trivial⟩
  · simpa using hl
  · intro k hk
    rcases hk with hk | hk | hk
    · exact .inl (.inl hk)
    · exact hlie k hk
    · exact hlq k hk
  · intro k ⟨y, hy, e⟩
    rcases List.mem_append.1 hy with hy | hy
    · exact .inl ⟨y, hy, e⟩
    · simp at hy
      subst hy
      exact .inr e
end
theorem val_isB {s : Nat} : ∀ (rs : List Rw) (f : ByteArray → Option (List Int)), Val s f rs → (∀ n xs, f n = some xs → isB xs) → ∀ n xs, (rs.foldl doR f) n = some xs → isB xs
  | [], f, _, h => h
  | r :: t, f, hv, h => by
    refine val_isB t (doR f r) hv.2 (fun n xs hn => ?_)
    have key : ∀ (g : ByteArray → Option (List Int)) (m : ByteArray) (u : Option (List Int)), (∀ n xs, g n = some xs → isB xs) → (∀ xs, u = some xs → isB xs) → ∀ n xs, upd g m u n = some xs → isB xs := by
      intro g m u h1 h2 n xs hn
      unfold upd at hn
      split at hn
      · exact h2 xs hn
      · exact h1 n xs hn
    have hfl : ∀ m, isB (fl f m) := fun m => by
      unfold fl
      cases hm : f m with
      | none => exact fun x hx => by cases hx
      | some ys => exact h m ys hm
    rcases hv.1.1 with ⟨m, rfl, _⟩ | ⟨m, b, ys, rfl, _, _, _, hb⟩ | ⟨m, k, ys, rfl, _⟩ | ⟨m, ys, rfl, _⟩ | ⟨m, u, ys, rfl, _⟩
    · rw [do_cr] at hn
      exact key _ _ _ h (fun zs e => by injection e with e; subst e; exact fun x hx => by cases hx) n xs hn
    · rw [do_ap] at hn
      exact key _ _ _ h (fun zs e => by injection e with e; subst e; exact (hfl m).append hb) n xs hn
    · rw [do_cu] at hn
      exact key _ _ _ h (fun zs e => by injection e with e; subst e; exact (hfl m).take _) n xs hn
    · rw [do_rm] at hn
      exact key _ _ _ h (fun zs e => by cases e) n xs hn
    · rw [do_rn] at hn
      exact key _ _ _ (key _ _ _ h (fun zs e => by injection e with e; subst e; exact hfl m)) (fun zs e => by cases e) n xs hn
theorem RkAt.isb {w : World} {r s : Nat} {rs : List Rw} {R : Rm} (h : RkAt w r s rs R) {n : ByteArray} {xs : List Int} (hn : play rs n = some xs) : isB xs := val_isB rs _ h.val (fun n xs h => by cases h) n xs hn

/-! ### slices of files made -/
section
variable {dst : Option Tmp} {ty : TypeId} {pos : String} {aft : Array Edge} {gd : Option (Nat × Bool)} {ops : Array Oper} {rest : List Oper} {a : Act} {w : World} {K : Act → World → Prop} {Q : Exit → Act → World → Prop}
theorem build0F (w : World) : (Instr.buildSlice 107 0 #[]).run Tryz.prog w = .ok (.slice (some ⟨w.heap.size, 0, none⟩) 0 0) (w.alloc (.cells #[] 131)) := by kernel_rfl
set_option maxRecDepth 100000 in
theorem wp_0F {B : Nat} (hB : B ≤ w.heap.size) (h : ∀ w1 v, ((∃ g, v = .slice (some ⟨g, 0, none⟩) 0 0) ∧ w1.ownsRow B 131 2 v 0 []) → Below w.heap.size w w1 → K (a.put dst v) w1) :
    Oper.wp Tryz.prog ⟨dst, .buildSlice 107 0 #[], ty, pos, aft, gd⟩ a w K Q := by
  refine wp_runV (.slice (some ⟨w.heap.size, 0, none⟩) 0 0) (w.alloc (.cells #[] 131)) ?_ (h _ _ ⟨⟨_, rfl⟩, by simp, .inr ⟨w.heap.size, 0, #[], rfl, hB, heap_alloc_new w _, Nat.le_refl _, by unfold maxLen; omega, by simp, by simp⟩⟩ ((Below.refl _ _).alloc (Nat.le_refl _) _))
  unfold execOp
  simp only [List.map_toArray, List.map_nil]
  simp only [Sem.run_bind, build0F, Result.andThen_ok, Sem.run_pure]
theorem build_F (n b : ByteArray) (w : World) :
    (Instr.buildSlice 107 1 #[(0, .agg #[.string n, .string b])]).run Tryz.prog w = .ok (.slice (some ⟨w.heap.size, 0, none⟩) 1 1) (w.alloc (.cells #[.string n, .string b] 131)) := by kernel_rfl
set_option maxRecDepth 100000 in
theorem wp_oneF {x : Operand} {n : ByteArray} {xs : List Int} (hx : a.eval x = .agg #[.string n, .string (str xs)]) (h : ∀ w1 v, Vw w1 131 2 v 1 (filC [(n, xs)]) → Below w.heap.size w w1 → K (a.put dst v) w1) :
    Oper.wp Tryz.prog ⟨dst, .buildSlice 107 1 #[(0, x)], ty, pos, aft, gd⟩ a w K Q := by
  refine wp_runV (.slice (some ⟨w.heap.size, 0, none⟩) 1 1) (w.alloc (.cells #[.string n, .string (str xs)] 131)) ?_ (h _ _ ⟨by simp [filC], _, _, rfl, Nat.le_refl _, fun _ => ⟨_, 0, [.string n, .string (str xs)], rfl, Blk.made w 131 [.string n, .string (str xs)], rfl⟩⟩ ((Below.refl _ _).alloc (Nat.le_refl _) _))
  unfold execOp
  simp only [List.map_toArray, List.map_cons, List.map_nil, hx]
  simp only [Sem.run_bind, build_F, Result.andThen_ok, Sem.run_pure]
end

end Go.Proofs.YtpocadbhajacaaaGreatDoor

/-
  The document's do: a file made.
-/
namespace Go.Proofs.YtpocadbhajacaaaGreatDoor
open Go.RowKit
set_option linter.unusedVariables false

theorem join4 {T : Program} {c : Code} {a : Act} {w : World} {Q : Exit → Act → World → Prop} {K : Act → World → Prop} (P : Value → Value → Value → Value → World → Prop) (act : Value → Value → Value → Value → Act) (h1 : ∀ x y z u W, P x y z u W → K (act x y z u) W) (h2 : (∀ x y z u W, P x y z u W → K (act x y z u) W) → Code.wp T c (Exit.then K Q) a w) : Code.wp T c (Exit.then K Q) a w := h2 h1
section
variable {dst : Option Tmp} {ty : TypeId} {pos : String} {aft : Array Edge} {gd : Option (Nat × Bool)} {ops : Array Oper} {rest : List Oper} {a : Act} {w : World} {K : Act → World → Prop} {Q : Exit → Act → World → Prop}
theorem build_R (k : Int) (n : ByteArray) (b : Option Addr) (l c : Nat) (s : Int) (t : ByteArray) (w : World) :
    (Instr.buildSlice 108 1 #[(0, .agg (rwC k n (.slice b l c) s t).toArray)]).run Tryz.prog w = .ok (.slice (some ⟨w.heap.size, 0, none⟩) 1 1) (w.alloc (.cells (rwC k n (.slice b l c) s t).toArray 117)) := by kernel_rfl
set_option maxRecDepth 100000 in
theorem wp_oneR {x : Operand} {r : Rw} {v : Value} (hv : ∃ b l c, v = .slice b l c) (hx : a.eval x = .agg (rwC r.k r.n v r.s r.t).toArray) (h : ∀ w1 u, Vw w1 117 5 u 1 (rwsC [(r, v)]) → Below w.heap.size w w1 → K (a.put dst u) w1) :
    Oper.wp Tryz.prog ⟨dst, .buildSlice 108 1 #[(0, x)], ty, pos, aft, gd⟩ a w K Q := by
  obtain ⟨b, l, c, rfl⟩ := hv
  refine wp_runV (.slice (some ⟨w.heap.size, 0, none⟩) 1 1) (w.alloc (.cells (rwC r.k r.n (.slice b l c) r.s r.t).toArray 117)) ?_ (h _ _ ⟨by simp [rwsC, rwC], _, _, rfl, Nat.le_refl _, fun _ => ⟨_, 0, rwC r.k r.n (.slice b l c) r.s r.t, rfl, Blk.made w 117 _, rfl⟩⟩ ((Below.refl _ _).alloc (Nat.le_refl _) _))
  unfold execOp
  simp only [List.map_toArray, List.map_cons, List.map_nil, hx]
  simp only [Sem.run_bind, build_R, Result.andThen_ok, Sem.run_pure]
end
theorem rwsC_one (l : List (Rw × Value)) (h : ∀ x ∈ l, ∃ b n c, x.2 = .slice b n c) : ∀ x ∈ rwsC l, x.oneCell' = true := by
  intro x hx
  simp only [rwsC, List.mem_flatMap] at hx
  obtain ⟨y, hy, hx⟩ := hx
  obtain ⟨b, n, c, e⟩ := h y hy
  simp [rwC, e] at hx
  rcases hx with rfl | rfl | rfl | rfl | rfl <;> rfl

theorem row_on {w w' : World} {B : Nat} {e : TypeId} {q n : Nat} {v : Value} {xs : List Value} (h : w.ownsRow B e q v n xs) (hb : Below w.heap.size w w') : w'.ownsRow B e q v n xs := row_same h (fun k hk => by obtain ⟨cs, hc⟩ := row_lies h hk; exact hb.block k hc.lt)
theorem Vw.row0 {w : World} {B : Nat} {e : TypeId} {q n : Nat} {v : Value} {xs : List Value} (h : w.ownsRow B e q v n xs) : w.ownsRow 0 e q v n xs := by
  obtain ⟨h1, h2⟩ := h
  refine ⟨h1, ?_⟩
  rcases h2 with h2 | ⟨g, cap, cur, rfl, hg, r⟩
  · exact .inl h2
  · exact .inr ⟨g, cap, cur, rfl, Nat.zero_le _, r⟩
set_option maxRecDepth 100000 in
/-- Append to an empty slice of the call's own that has no room: only new memory. -/
theorem wp_app0 {T e : TypeId} {q by' : Nat} {z : Value} (R : Ro T e q by' z) {dst : Option Tmp} {ty : TypeId} {pos : String} {aft : Array Edge} {gd : Option (Nat × Bool)} {a : Act} {w : World} {K : Act → World → Prop} {Q : Exit → Act → World → Prop} {s x : Operand} {B : Nat} {v u : Value} {m : Nat} {ys : List Value} (hs : a.eval s = v) (hx : a.eval x = u) (hown : (∃ g, v = .slice (some ⟨g, 0, none⟩) 0 0) ∧ w.ownsRow B e q v 0 []) (hu : Vw w e q u m ys) (h1 : ∀ x ∈ ys, x.oneCell' = true) (hlen : m ≤ 1099511000000) (hB : B ≤ w.heap.size)
    (h : ∀ v' w', w'.ownsRow B e q v' m ys → Below w.heap.size w w' → K (a.put dst v') w') :
    Oper.wp Tryz.prog ⟨dst, .call { callee := .builtin .append, args := #[s, x], argTypes := #[T, T] }, ty, pos, aft, gd⟩ a w K Q := by
  obtain ⟨⟨g, rfl⟩, hown⟩ := hown
  obtain ⟨v', w', hr, h2, h3, h4⟩ := run_appV R hown hu h1 (by omega) hB ty
  have hbel : Below w.heap.size w w' := by
    obtain ⟨i0, hi, hz0, hz1, hz2⟩ := info_parts R.info
    obtain ⟨hl, ua, uc, rfl, hle, hat⟩ := hu
    by_cases h0 : m = 0
    · subst h0
      have e := run_append_nothing w T T ty e i0 R.und hi (some ⟨g, 0, none⟩) 0 0 (Nat.le_refl _) (.slice ua 0 uc) ⟨.inl ⟨e, R.und⟩, fun w' => by simp [Builtin.lenOf], by cases ua <;> simp [Builtin.firstCells, loadCells, loadCellsFrom], by cases ua <;> simp [Builtin.firstCells, loadCells, loadCellsFrom], by simp, by simp⟩
      rw [e] at hr
      injection hr with _ hr
      subst hr
      exact Below.refl _ _
    · obtain ⟨g', o, cs, rfl, hb, hcs⟩ := hat h0
      have hb9 := R.q9
      have e := run_append_grow w T ty e i0 z R.und hi hz0 ⟨g, 0, none⟩ 0 0 [] (by simp) (fun j v hv => by simp at hv) ⟨g', o, none⟩ m uc ys (by rw [hz1]; exact hl) (fun j x hx => by
        rw [Addr.add_lit, hb.cell]
        have : ys[j]? = cs[o + j]? := by
          rw [← hcs, List.getElem?_take, List.getElem?_drop, if_pos (by have := (List.getElem?_eq_some_iff.1 hx).1; omega)]
        rw [← this]
        exact hx) (by omega) (by omega) (by
          rw [Nat.zero_add, nextslicecap_zero (by omega), hz2]
          have : m * by' ≤ 1099511000000 * 128 := Nat.mul_le_mul hlen hb9
          omega)
      rw [e] at hr
      injection hr with _ hr
      subst hr
      exact ((Below.refl _ _).drew).alloc (by simp) _
  unfold Oper.wp execOp
  simp only [resolve, invoke, builtin, Sem.run_bind, Sem.run_pure, Result.andThen_ok, List.map_toArray, List.map_cons, List.map_nil, hs, hx, hr]
  exact h v' w' (by simpa using h2) hbel

theorem run_buildF1 {dst : Option Tmp} {ty : TypeId} {pos : String} {aft : Array Edge} {gd : Option (Nat × Bool)} {ac : Act} {w : World} {x : Operand} {n : ByteArray} (hx : ac.eval x = .string n) :
    (execOp ac.eval ⟨dst, .build 131 #[(0, x)], ty, pos, aft, gd⟩).run Tryz.prog w = .ok (.value (.agg #[.string n, .string (str [])])) w :=
  run_op (M := Instr.build 131 #[(0, .string n)]) (by simp [execOp, hx]) (by kernel_rfl)
theorem run_buildF2 {dst : Option Tmp} {ty : TypeId} {pos : String} {aft : Array Edge} {gd : Option (Nat × Bool)} {ac : Act} {w : World} {x y : Operand} {n b : ByteArray} (hx : ac.eval x = .string n) (hy : ac.eval y = .string b) :
    (execOp ac.eval ⟨dst, .build 131 #[(0, x), (1, y)], ty, pos, aft, gd⟩).run Tryz.prog w = .ok (.value (.agg #[.string n, .string b])) w :=
  run_op (M := Instr.build 131 #[(0, .string n), (1, .string b)]) (by simp [execOp, hx, hy]) (by kernel_rfl)
section
variable (r s : Nat) (rs : List Rw) (R : Rm) (n : ByteArray) (w : World) (h : RkAt w r s rs R) (hn : nmB n = true) (hwt : wt rs + 1 ≤ 1099511000000)
include h hn hwt
set_option maxRecDepth 100000 in
set_option maxHeartbeats 1000000 in
theorem doR_cr (hf : play rs n = none) (hv : BV w (.slice none 0 0) []) : Calls Tryz.prog 62 #[.pointer (some ⟨r, 0, none⟩), .agg (rwC 1 n (.slice none 0 0) 0 ByteArray.empty).toArray] w fun e w' => e = .returned (.tuple #[]) ∧ RoR w w' r s R (rs ++ [rCr n]) (.slice none 0 0) := by
  obtain ⟨A, B, hAB, hA, hlt, hB⟩ := h.fls.split n
  obtain ⟨I, hI⟩ : ∃ I, A.length = I := ⟨_, rfl⟩
  have hB2 : ∀ b ∈ B, blt n b.1 = true := by
    rcases hB with ⟨_, h2⟩ | ⟨xs, _, h1, _⟩
    · exact h2
    · rw [hf] at h1; cases h1
  have HLR : Hid (Lraw s (play rs) (rCr n)) := hide ⟨.inl ⟨n, rfl, hn, hf⟩, fun h2 => by cases h2⟩
  have HFL : Hid (FL (doR (play rs) (rCr n)) ((A ++ [(n, [])]) ++ B)) := hide (by
    have := h.fls
    rw [hAB] at this
    have := this.put hlt hB2 []
    rw [List.append_assoc]
    exact this)
  have HLN : Hid (((A ++ [(n, [])]) ++ B).length ≤ rs.length + 1) := hide (by
    have := h.few
    rw [hAB] at this
    simp at this ⊢
    omega)
  clear hB hB2 hn
  obtain ⟨fa, fc, hfe⟩ := row_slice h.fk.row
  have HH := hide h
  have HL : Hid (R.l.length ≤ 1099511000000) := hide (by have h1 := h.few; have h2 := len_wt rs; omega)
  have hrl : R.qs.length = rs.length := by rw [← h.raw]; simp
  have HRL : Hid (R.qs.length ≤ 1099511000000) := hide (by have h2 := len_wt rs; omega)
  clear hrl
  have HFE := hide hfe
  have HAB := hide hAB
  have HA := hide hA
  have HLTA := hide hlt
  have HV := hide hv
  have hfind : ∀ (W : World), FkAt W r s R.fv R.qv R.l → Calls Tryz.prog 67 #[.pointer (some ⟨r, 0, none⟩), .string n] W fun e w' => e = .returned (.tuple #[.int .i64 (I : Int), .bool false]) ∧ Below W.heap.size W w' := fun W hW => by
    have := find_any r s R.fv R.qv R.l (play rs) n W hW h.fls HL.out
    rw [← hA, hI, hf] at this
    exact this
  have HFD := hide hfind
  clear h hAB hA hlt hv hfe hfind hwt
  go_enter Tryz.func62, Tryz.ntmps62
  go_wp2_with (refine step_box (cs := rwC 1 n (.slice none 0 0) 0 ByteArray.empty) rfl rfl ?_)
  intro w1 g3 hg3 hle3 hb1
  have D1 : Hid (DsR w w1 r s R R.fv R.l (rCr n) (Value.slice none 0 0) g3) := hide (HH.out.ds hb1 hg3 hle3)
  have c1 : w1.cell? ⟨g3, 1, none⟩ = some (.string n) := D1.out.r1
  clear hg3 hle3 hb1
  go_wp2_with (go_at_call 67; refine (HFD.out _ D1.out.fk).mono ?_; rintro e w2 ⟨rfl, hb2⟩; have D2 := hide (D1.out.below hb2); have c0 : w2.cell? ⟨g3, 0, none⟩ = some (.int .i64 1) := D2.out.r0; clear c1 D1 hb2)
  clear HFD
  obtain ⟨vA, hto, hvt⟩ := (Vw.of_row D2.out.fk.row).to rFi (k := I) (by rw [HAB.out, List.length_append, hI]; omega)
  obtain ⟨vB, hfr, hvf⟩ := (Vw.of_row D2.out.fk.row).from rFi (k := I) (by rw [HAB.out, List.length_append, hI]; omega)
  have HTO := hide hto
  have HFR := hide hfr
  have HC1 : Hid (∀ z : World, Below w2.heap.size w2 z → z.cell? ⟨r, 1, none⟩ = some R.fv) := hide (fun z hz => (D2.out.below hz).c1)
  have HCN : Hid (∀ z : World, Below w2.heap.size w2 z → z.cell? ⟨g3, 1, none⟩ = some (.string n)) := hide (fun z hz => (D2.out.below hz).r1)
  have HVT : Hid (∀ z : World, Below w2.heap.size w2 z → Vw z 131 2 vA A.length (filC A)) := hide (fun z hz => by
    have := hvt z (Vw.of_row (D2.out.below hz).fk.row)
    rw [← filC_take, HAB.out, ← hI, List.take_left' rfl] at this
    exact this)
  have HVF : Hid (∀ z : World, Below w2.heap.size w2 z → Vw z 131 2 vB B.length (filC B)) := hide (fun z hz => by
    have := hvf z (Vw.of_row (D2.out.below hz).fk.row)
    rw [← filC_drop, HAB.out, ← hI, List.drop_left' rfl, List.length_append, Nat.add_sub_cancel_left] at this
    exact this)
  clear hto hfr hvt hvf
  clear c0
  refine join4 (fun x y z u W => Hid (W.ownsRow w2.heap.size 131 2 u (A ++ [(n, [])]).length (filC (A ++ [(n, [])]))) ∧ Hid (Below w2.heap.size w2 W)) ?act ?tail (fun hjoin => ?_)
  rotate_left
  rotate_left
  · refine wp_region_noPanic ?_
    refine wp_region_U (q := 13) (S := fun z : World => Below w2.heap.size w2 z) (by kernel_rfl) ?_
    have Z0 := hide ((Below.refl w2.heap.size w2).drew)
    have hHeld := Z0.out
    refine takeU 13 1 23 (.pointer (some ⟨r, 0, none⟩)) hHeld rfl rfl (by kernel_rfl) (by kernel_rfl) (by kernel_rfl) (by kernel_rfl) (by kernel_rfl) (by kernel_rfl) (fun _ _ _ h => h) (Or.inl ⟨by rfl, fun w _ => by go_simp⟩) ?_
    simp only [Act.put, List.setIfInBounds_toArray, List.set_cons_zero, List.set_cons_succ]
    refine takeU 13 2 24 (.pointer (some ⟨r, 0, none⟩)) hHeld rfl rfl (by kernel_rfl) (by kernel_rfl) (by kernel_rfl) (by kernel_rfl) (by kernel_rfl) (by kernel_rfl) (fun _ _ _ h => h) (Or.inl ⟨by rfl, fun w _ => by go_simp⟩) ?_
    simp only [Act.put, List.setIfInBounds_toArray, List.set_cons_zero, List.set_cons_succ]
    refine takeU 13 3 25 (.pointer (some ⟨r, 1, none⟩)) hHeld rfl rfl (by kernel_rfl) (by kernel_rfl) (by kernel_rfl) (by kernel_rfl) (by kernel_rfl) (by kernel_rfl) (fun _ _ _ h => h) (Or.inl ⟨by rfl, fun w _ => by go_simp⟩) ?_
    simp only [Act.put, List.setIfInBounds_toArray, List.set_cons_zero, List.set_cons_succ]
    refine takeU 13 4 26 (R.fv) hHeld rfl rfl (by kernel_rfl) (by kernel_rfl) (by kernel_rfl) (by kernel_rfl) (by kernel_rfl) (by kernel_rfl) (fun _ _ _ h => h) (Or.inl ⟨by rfl, fun w hw => by have hw' : w.cell? ⟨r, 1, none⟩ = some (R.fv) := (fun hw => HC1.out _ hw) hw; go_simp⟩) ?_
    simp only [Act.put, List.setIfInBounds_toArray, List.set_cons_zero, List.set_cons_succ]
    refine takeU 13 5 27 (.int .i64 (I : Int)) hHeld rfl rfl (by kernel_rfl) (by kernel_rfl) (by kernel_rfl) (by kernel_rfl) (by kernel_rfl) (by kernel_rfl) (fun _ _ _ h => h) (Or.inl ⟨by rfl, fun w _ => by go_simp⟩) ?_
    simp only [Act.put, List.setIfInBounds_toArray, List.set_cons_zero, List.set_cons_succ]
    refine takeU 13 6 28 (vA) hHeld rfl rfl (by kernel_rfl) (by kernel_rfl) (by kernel_rfl) (by kernel_rfl) (by kernel_rfl) (by kernel_rfl) (fun _ _ _ h => h) (Or.inl ⟨by rfl, fun w h => run_op rfl (HTO.out w)⟩) ?_
    simp only [Act.put, List.setIfInBounds_toArray, List.set_cons_zero, List.set_cons_succ]
    refine takeU 13 8 30 (.pointer (some ⟨g3, 1, none⟩)) hHeld rfl rfl (by kernel_rfl) (by kernel_rfl) (by kernel_rfl) (by kernel_rfl) (by kernel_rfl) (by kernel_rfl) (fun _ _ _ h => h) (Or.inl ⟨by rfl, fun w _ => by go_simp⟩) ?_
    simp only [Act.put, List.setIfInBounds_toArray, List.set_cons_zero, List.set_cons_succ]
    refine takeU 13 9 31 (.string n) hHeld rfl rfl (by kernel_rfl) (by kernel_rfl) (by kernel_rfl) (by kernel_rfl) (by kernel_rfl) (by kernel_rfl) (fun _ _ _ h => h) (Or.inl ⟨by rfl, fun w hw => by have hw' : w.cell? ⟨g3, 1, none⟩ = some (.string n) := (fun hw => HCN.out _ hw) hw; go_simp⟩) ?_
    simp only [Act.put, List.setIfInBounds_toArray, List.set_cons_zero, List.set_cons_succ]
    refine takeU 13 10 32 (.agg #[.string n, .string (str [])]) hHeld rfl rfl (by kernel_rfl) (by kernel_rfl) (by kernel_rfl) (by kernel_rfl) (by kernel_rfl) (by kernel_rfl) (fun _ _ _ h => h) (Or.inl ⟨by rfl, fun w h => run_buildF1 rfl⟩) ?_
    simp only [Act.put, List.setIfInBounds_toArray, List.set_cons_zero, List.set_cons_succ]
    have ONE1 : Hid (∀ x ∈ filC A, x.oneCell' = true) := hide (filC_one A)
    have ONE2 : Hid (∀ x ∈ filC [(n, [])], x.oneCell' = true) := hide (filC_one _)
    have HLA : Hid (A.length ≤ 1099511000000) := hide (by have := HL.out; rw [HAB.out, List.length_append] at this; omega)
    have HVA : Hid (∀ z : World, Below w2.heap.size w2 z → Vw z 131 2 vA A.length (filC A)) := hide (fun z hz => HVT.out z hz)
    refine wpAnyU_ready (rs := [0, 11]) (by kernel_rfl) (by simp) (AllReadyU.cons rfl (fun K hK => ?_) (AllReadyU.cons rfl (fun K hK => ?_) AllReadyU.nil))
    · rw [if_pos (by rfl)]
      refine wp_0F Z0.out.size ?_
      intro w3 g0 hv0 hb0
      have Z3 := hide (Z0.out.trans (hb0.mono Z0.out.size))
      have V0 := hide hv0
      have B0 := hide hb0
      refine hK.out _ _ (fun _ => Z3.out) ?_
      have hHeld := Z3.out
      clear hK K
      clear hv0 hb0
      simp only [Act.put]
      refine wpAnyU_ready (rs := [7, 11]) (by kernel_rfl) (by simp) (AllReadyU.cons rfl (fun K hK => ?_) (AllReadyU.cons rfl (fun K hK => ?_) AllReadyU.nil))
      · rw [if_pos (by rfl)]
        refine wp_app0 rFi rfl rfl V0.out (HVA.out _ Z3.out) ONE1.out (by have := HLA.out; omega) Z3.out.size ?_
        intro v29 w4 hv29 hb7
        have Z4 := hide (Z3.out.trans (hb7.mono Z3.out.size))
        have V29 := hide hv29
        have B7 := hide hb7
        refine hK.out _ _ (fun _ => Z4.out) ?_
        have hHeld := Z4.out
        clear hK K
        clear hv29 hb7
        simp only [Act.put]
        refine wpAnyU_ready (rs := [11]) (by kernel_rfl) (by simp) (AllReadyU.cons rfl (fun K hK => ?_) AllReadyU.nil)
        rw [if_pos (by rfl)]
        refine wp_oneF (n := n) (xs := []) rfl ?_
        intro w5 v33 hu33 hb11
        have Z5 := hide (Z4.out.trans (hb11.mono Z4.out.size))
        have U33 := hide hu33
        have B11 := hide hb11
        refine hK.out _ _ (fun _ => Z5.out) ?_
        have hHeld := Z5.out
        clear hK K
        clear hu33 hb11
        simp only [Act.put]
        have V29' := hide (row_on V29.out B11.out)
        refine wpAnyU_ready (rs := [12]) (by kernel_rfl) (by simp) (AllReadyU.cons rfl (fun K hK => ?_) AllReadyU.nil)
        rw [if_pos (by rfl)]
        refine wp_appV rFi rfl rfl V29'.out U33.out ONE2.out (by have := HLA.out; omega) Z5.out.size ?_
        intro v34 w6 hv34 hgr12 hat12
        have Z6 := hide (Z5.out.trans (grown_below hgr12 (fun k hk => row_ge V29'.out hk) Z5.out.size))
        have V34 : Hid (w6.ownsRow w2.heap.size 131 2 v34 (A ++ [(n, [])]).length (filC (A ++ [(n, [])]))) := hide (by rw [filC_app, List.length_append]; exact hv34)
        refine hK.out _ _ (fun _ => Z6.out) ?_
        have hHeld := Z6.out
        clear hK K
        clear hv34 hgr12 hat12
        simp only [Act.put]
        refine wpAnyU_ready (rs := [13]) (by kernel_rfl) (by simp) (AllReadyU.cons rfl (fun K hK => ?_) AllReadyU.nil)
        rw [if_pos (by rfl)]
        go_simp
        refine hK.out _ _ (fun h => absurd h (by decide)) ?_
        clear hK K
        refine wpAnyU_done (by kernel_rfl) ?_ _
        refine NoPanic.normal ?_
        exact hjoin g0 v29 v33 v34 w6 ⟨V34, Z6⟩
      · rw [if_pos (by rfl)]
        refine wp_oneF (n := n) (xs := []) rfl ?_
        intro w4 v33 hu33 hb11
        have Z4 := hide (Z3.out.trans (hb11.mono Z3.out.size))
        have U33 := hide hu33
        have B11 := hide hb11
        refine hK.out _ _ (fun _ => Z4.out) ?_
        have hHeld := Z4.out
        clear hK K
        clear hu33 hb11
        simp only [Act.put]
        have V0' := hide (And.intro V0.out.1 (row_on V0.out.2 B11.out))
        refine wpAnyU_ready (rs := [7]) (by kernel_rfl) (by simp) (AllReadyU.cons rfl (fun K hK => ?_) AllReadyU.nil)
        rw [if_pos (by rfl)]
        refine wp_app0 rFi rfl rfl V0'.out (HVA.out _ Z4.out) ONE1.out (by have := HLA.out; omega) Z4.out.size ?_
        intro v29 w5 hv29 hb7
        have Z5 := hide (Z4.out.trans (hb7.mono Z4.out.size))
        have V29 := hide hv29
        have B7 := hide hb7
        refine hK.out _ _ (fun _ => Z5.out) ?_
        have hHeld := Z5.out
        clear hK K
        clear hv29 hb7
        simp only [Act.put]
        have U33' := hide (U33.out.on B7.out)
        refine wpAnyU_ready (rs := [12]) (by kernel_rfl) (by simp) (AllReadyU.cons rfl (fun K hK => ?_) AllReadyU.nil)
        rw [if_pos (by rfl)]
        refine wp_appV rFi rfl rfl V29.out U33'.out ONE2.out (by have := HLA.out; omega) Z5.out.size ?_
        intro v34 w6 hv34 hgr12 hat12
        have Z6 := hide (Z5.out.trans (grown_below hgr12 (fun k hk => row_ge V29.out hk) Z5.out.size))
        have V34 : Hid (w6.ownsRow w2.heap.size 131 2 v34 (A ++ [(n, [])]).length (filC (A ++ [(n, [])]))) := hide (by rw [filC_app, List.length_append]; exact hv34)
        refine hK.out _ _ (fun _ => Z6.out) ?_
        have hHeld := Z6.out
        clear hK K
        clear hv34 hgr12 hat12
        simp only [Act.put]
        refine wpAnyU_ready (rs := [13]) (by kernel_rfl) (by simp) (AllReadyU.cons rfl (fun K hK => ?_) AllReadyU.nil)
        rw [if_pos (by rfl)]
        go_simp
        refine hK.out _ _ (fun h => absurd h (by decide)) ?_
        clear hK K
        refine wpAnyU_done (by kernel_rfl) ?_ _
        refine NoPanic.normal ?_
        exact hjoin g0 v29 v33 v34 w6 ⟨V34, Z6⟩
    · rw [if_pos (by rfl)]
      refine wp_oneF (n := n) (xs := []) rfl ?_
      intro w3 v33 hu33 hb11
      have Z3 := hide (Z0.out.trans (hb11.mono Z0.out.size))
      have U33 := hide hu33
      have B11 := hide hb11
      refine hK.out _ _ (fun _ => Z3.out) ?_
      have hHeld := Z3.out
      clear hK K
      clear hu33 hb11
      simp only [Act.put]
      refine wpAnyU_ready (rs := [0]) (by kernel_rfl) (by simp) (AllReadyU.cons rfl (fun K hK => ?_) AllReadyU.nil)
      rw [if_pos (by rfl)]
      refine wp_0F Z3.out.size ?_
      intro w4 g0 hv0 hb0
      have Z4 := hide (Z3.out.trans (hb0.mono Z3.out.size))
      have V0 := hide hv0
      have B0 := hide hb0
      refine hK.out _ _ (fun _ => Z4.out) ?_
      have hHeld := Z4.out
      clear hK K
      clear hv0 hb0
      simp only [Act.put]
      have U33' := hide (U33.out.on B0.out)
      refine wpAnyU_ready (rs := [7]) (by kernel_rfl) (by simp) (AllReadyU.cons rfl (fun K hK => ?_) AllReadyU.nil)
      rw [if_pos (by rfl)]
      refine wp_app0 rFi rfl rfl V0.out (HVA.out _ Z4.out) ONE1.out (by have := HLA.out; omega) Z4.out.size ?_
      intro v29 w5 hv29 hb7
      have Z5 := hide (Z4.out.trans (hb7.mono Z4.out.size))
      have V29 := hide hv29
      have B7 := hide hb7
      refine hK.out _ _ (fun _ => Z5.out) ?_
      have hHeld := Z5.out
      clear hK K
      clear hv29 hb7
      simp only [Act.put]
      have U33'' := hide (U33'.out.on B7.out)
      refine wpAnyU_ready (rs := [12]) (by kernel_rfl) (by simp) (AllReadyU.cons rfl (fun K hK => ?_) AllReadyU.nil)
      rw [if_pos (by rfl)]
      refine wp_appV rFi rfl rfl V29.out U33''.out ONE2.out (by have := HLA.out; omega) Z5.out.size ?_
      intro v34 w6 hv34 hgr12 hat12
      have Z6 := hide (Z5.out.trans (grown_below hgr12 (fun k hk => row_ge V29.out hk) Z5.out.size))
      have V34 : Hid (w6.ownsRow w2.heap.size 131 2 v34 (A ++ [(n, [])]).length (filC (A ++ [(n, [])]))) := hide (by rw [filC_app, List.length_append]; exact hv34)
      refine hK.out _ _ (fun _ => Z6.out) ?_
      have hHeld := Z6.out
      clear hK K
      clear hv34 hgr12 hat12
      simp only [Act.put]
      refine wpAnyU_ready (rs := [13]) (by kernel_rfl) (by simp) (AllReadyU.cons rfl (fun K hK => ?_) AllReadyU.nil)
      rw [if_pos (by rfl)]
      go_simp
      refine hK.out _ _ (fun h => absurd h (by decide)) ?_
      clear hK K
      refine wpAnyU_done (by kernel_rfl) ?_ _
      refine NoPanic.normal ?_
      exact hjoin g0 v29 v33 v34 w6 ⟨V34, Z6⟩
  intro x y z u W3 hP
  obtain ⟨V3, Z3⟩ := hP
  have D3 := hide (D2.out.below Z3.out)
  have c1 : W3.cell? ⟨r, 1, none⟩ = some R.fv := D3.out.c1
  have hfr := HFR.out
  obtain ⟨L4, hL4⟩ : ∃ L4, ((A ++ [(n, [])]) ++ B).length = L4 := ⟨_, rfl⟩
  have HL4 := hide hL4
  clear hL4
  have HLB : Hid ((A ++ [(n, [])]).length + B.length ≤ 1099511000002) := hide (by have := HL.out; rw [HAB.out, List.length_append] at this; simp; omega)
  go_upto_region 20 with (refine step_appV rFi rfl rfl rfl V3.out (HVF.out _ Z3.out) (filC_one _) (by have := HLB.out; omega) Z3.out.size ?_; intro v43 w4 hv43 hgr4 hat4; have V4 : Hid (w4.ownsRow w2.heap.size 131 2 v43 L4 (filC ((A ++ [(n, [])]) ++ B))) := hide (by rw [filC_app, ← HL4.out, List.length_append]; exact hv43); have Z4 := hide (Z3.out.trans (grown_below hgr4 (fun k hk => row_ge V3.out hk) Z3.out.size)); have D4 := hide (D2.out.below Z4.out); clear hv43 hgr4 hat4; obtain ⟨a4, c4, hve4⟩ := row_slice V4.out; subst hve4; have k1 : w4.cell? ⟨r, 1, none⟩ = some R.fv := D4.out.c1; have k2 : w4.frozen? ⟨r, 1, none⟩ = false := D4.out.fk.blk.free 1)
  have B6 := But.setCell w4 r 1 (.slice a4 L4 c4)
  have D6 : Hid (DsR w (w4.setCell ⟨r, 1, none⟩ (.slice a4 L4 c4)) r s R (.slice a4 L4 c4) ((A ++ [(n, [])]) ++ B) (rCr n) (Value.slice none 0 0) g3) := hide (by
    have hne : ∀ {k : Nat} {t : TypeId} {cs : List Value}, Blk w4 k t cs → t ≠ 110 → k ≠ r := fun hc ht => hc.apart D4.out.fk.blk ht
    refine ⟨⟨D4.out.fk.blk.set 1 _, ?_⟩, ?_, ?_, D4.out.new, D4.out.chs.thenBut B6 (.inl (.inl rfl)), fun k hk => ?_, D4.out.off⟩
    · rw [HL4.out]
      refine row_same (Vw.row0 V4.out) (fun k hk => B6.block k ?_)
      obtain ⟨cs, hc⟩ := row_lies V4.out hk
      exact hne hc (by decide)
    · refine row_same D4.out.row (fun k hk => B6.block k ?_)
      obtain ⟨cs, hc⟩ := row_lies D4.out.row hk
      exact hne hc (by decide)
    · exact D4.out.gb.but B6 (hne D4.out.gb (by decide))
    · right
      have h1 := row_ge V4.out hk
      have h2 := D2.out.chs.size
      omega)
  revert D6
  generalize w4.setCell ⟨r, 1, none⟩ (.slice a4 L4 c4) = w6
  intro D6
  clear k1 k2 c1 hfr B6 D4 Z4 V4 D3
  have c0 : w6.cell? ⟨g3, 0, none⟩ = some (.int .i64 1) := D6.out.r0
  go_wp2_with fail
  clear c0
  have HRE5 : Hid (∃ q1 q2, R.qv = .slice q1 R.qs.length q2) := hide (by obtain ⟨q1, q2, hq⟩ := row_slice HH.out.row; exact ⟨q1, q2, hq⟩)
  obtain ⟨L5, hL5⟩ : ∃ L5, (R.qs ++ [(rCr n, (Value.slice none 0 0))]).length = L5 := ⟨_, rfl⟩
  have HL5 := hide hL5
  clear hL5
  refine wp_region_noPanic ?_
  refine wp_region_U (q := 10) (S := fun z : World => z.cell? ⟨r, 2, none⟩ = some R.qv ∧ z.rangeAt g3 0 (rwC 1 n (.slice none 0 0) 0 ByteArray.empty)) (by kernel_rfl) ?_
  have Z0 := hide ((Below.refl w6.heap.size w6).drew)
  have E0 := hide (D6.out.below Z0.out)
  have HIR : Hid ((Tryz.prog.info? 117).map (·.size) = some (rwC 1 n (.slice none 0 0) 0 ByteArray.empty).length) := hide (by rw [wRw.size]; rfl)
  have gb0 : Blk w6.drew g3 117 (rwC 1 n (.slice none 0 0) 0 ByteArray.empty) := E0.out.gb
  have hHeld : w6.drew.cell? ⟨r, 2, none⟩ = some R.qv ∧ w6.drew.rangeAt g3 0 (rwC 1 n (.slice none 0 0) 0 ByteArray.empty) := ⟨E0.out.c2, gb0.range 0 _ (by simp)⟩
  clear gb0
  refine takeU 10 0 168 (.pointer (some ⟨r, 0, none⟩)) hHeld rfl rfl (by kernel_rfl) (by kernel_rfl) (by kernel_rfl) (by kernel_rfl) (by kernel_rfl) (by kernel_rfl) (fun _ _ _ h => h) (Or.inl ⟨by rfl, fun w _ => by go_simp⟩) ?_
  simp only [Act.put, List.setIfInBounds_toArray, List.set_cons_zero, List.set_cons_succ]
  refine takeU 10 1 169 (.pointer (some ⟨r, 0, none⟩)) hHeld rfl rfl (by kernel_rfl) (by kernel_rfl) (by kernel_rfl) (by kernel_rfl) (by kernel_rfl) (by kernel_rfl) (fun _ _ _ h => h) (Or.inl ⟨by rfl, fun w _ => by go_simp⟩) ?_
  simp only [Act.put, List.setIfInBounds_toArray, List.set_cons_zero, List.set_cons_succ]
  refine takeU 10 2 170 (.pointer (some ⟨r, 0, none⟩)) hHeld rfl rfl (by kernel_rfl) (by kernel_rfl) (by kernel_rfl) (by kernel_rfl) (by kernel_rfl) (by kernel_rfl) (fun _ _ _ h => h) (Or.inl ⟨by rfl, fun w _ => by go_simp⟩) ?_
  simp only [Act.put, List.setIfInBounds_toArray, List.set_cons_zero, List.set_cons_succ]
  refine takeU 10 3 171 (.pointer (some ⟨r, 2, none⟩)) hHeld rfl rfl (by kernel_rfl) (by kernel_rfl) (by kernel_rfl) (by kernel_rfl) (by kernel_rfl) (by kernel_rfl) (fun _ _ _ h => h) (Or.inl ⟨by rfl, fun w _ => by go_simp⟩) ?_
  simp only [Act.put, List.setIfInBounds_toArray, List.set_cons_zero, List.set_cons_succ]
  refine takeU 10 4 172 (R.qv) hHeld rfl rfl (by kernel_rfl) (by kernel_rfl) (by kernel_rfl) (by kernel_rfl) (by kernel_rfl) (by kernel_rfl) (fun _ _ _ h => h) (Or.inl ⟨by rfl, fun w hw => by have hw' : w.cell? ⟨r, 2, none⟩ = some (R.qv) := (fun h => h.1) hw; go_simp⟩) ?_
  simp only [Act.put, List.setIfInBounds_toArray, List.set_cons_zero, List.set_cons_succ]
  refine takeU 10 5 173 (.agg (rwC 1 n (.slice none 0 0) 0 ByteArray.empty).toArray) hHeld rfl rfl (by kernel_rfl) (by kernel_rfl) (by kernel_rfl) (by kernel_rfl) (by kernel_rfl) (by kernel_rfl) (fun _ _ _ h => h) (yieldsIf_load_mid (by rfl) _ _ rfl g3 0 rfl _ _ (fun w h => h.2) Tryz.underlying117 rfl HIR.out) ?_
  simp only [Act.put, List.setIfInBounds_toArray, List.set_cons_zero, List.set_cons_succ]
  refine wpAnyU_ready (rs := [6]) (by kernel_rfl) (by simp) (AllReadyU.cons rfl (fun K hK => ?_) AllReadyU.nil)
  rw [if_pos (by rfl)]
  refine wp_oneR (r := rCr n) (v := (Value.slice none 0 0)) ⟨_, _, _, rfl⟩ rfl ?_
  intro w4 u4 hu4 hb4
  have E4 := hide (E0.out.below hb4)
  have HU4 := hide hu4
  have gb0 : Blk w4 g3 117 (rwC 1 n (.slice none 0 0) 0 ByteArray.empty) := E4.out.gb
  have hH4 : w4.cell? ⟨r, 2, none⟩ = some R.qv ∧ w4.rangeAt g3 0 (rwC 1 n (.slice none 0 0) 0 ByteArray.empty) := ⟨E4.out.c2, gb0.range 0 _ (by simp)⟩
  clear gb0
  refine hK.out _ _ (fun _ => hH4) ?_
  have hHeld := hH4
  clear hK K
  clear hu4 hb4 hH4
  simp only [Act.put]
  refine wpAnyU_ready (rs := [7]) (by kernel_rfl) (by simp) (AllReadyU.cons rfl (fun K hK => ?_) AllReadyU.nil)
  rw [if_pos (by rfl)]
  refine wp_appV rRw rfl rfl E4.out.row HU4.out (rwsC_one _ (fun x hx => by simp at hx; subst hx; exact ⟨_, _, _, rfl⟩)) (by have := HRL.out; omega) (Nat.zero_le _) ?_
  intro qv5 w5 hrow5 hgr5 hat5
  have hne5 : ∀ k, R.qv.ownBlock = some k → k ≠ r := fun k hk e => by
    obtain ⟨cs, hc⟩ := row_lies E4.out.row hk
    exact hc.apart E4.out.fk.blk (by decide) e
  have hnf5 : ∀ k, (Value.slice a4 L4 c4).ownBlock = some k → R.qv.ownBlock ≠ some k := fun k hk e => by
    obtain ⟨cs, hc⟩ := row_lies E4.out.row e
    obtain ⟨cs', hc'⟩ := row_lies E4.out.fk.row hk
    exact hc.apart hc' (by decide) rfl
  have DK5 : Hid (Blk w5 r 110 (rkC s (Value.slice a4 L4 c4) R.qv)) := hide (E4.out.fk.blk.same (hgr5.block r E4.out.fk.blk.lt (fun e => hne5 r e.symm rfl)))
  have G5 : Hid (Blk w5 g3 117 (rwC 1 n (.slice none 0 0) 0 ByteArray.empty)) := hide (Blk.same E4.out.gb (hgr5.block g3 E4.out.gb.lt (fun e => E4.out.off e.symm)))
  have F5 : Hid (w5.ownsRow 0 131 2 (Value.slice a4 L4 c4) ((A ++ [(n, [])]) ++ B).length (filC (((A ++ [(n, [])]) ++ B)))) := hide (row_same E4.out.fk.row (fun k hk => by
    obtain ⟨cs, hc⟩ := row_lies E4.out.fk.row hk
    exact hgr5.block k hc.lt (fun e => hnf5 k hk e.symm)))
  have CH5 : Hid (Chs (R.own r) w w5) := hide (E4.out.chs.thenGrown hgr5 (fun k hk => .inl (.inr (.inr hk))))
  have LQ5 : Hid (∀ k, qv5.ownBlock = some k → R.own r k ∨ w.heap.size ≤ k) := hide (fun k hk => by
    rcases hat5 with e | e
    · exact .inl (.inr (.inr (by rw [e] at hk; exact hk)))
    · rw [e] at hk
      injection hk with hk
      have := E4.out.chs.size
      right
      omega)
  have ROW5 : Hid (w5.ownsRow 0 117 5 qv5 L5 (rwsC (R.qs ++ [(rCr n, (Value.slice none 0 0))]))) := hide (by rw [rwsC_app, ← HL5.out, List.length_append]; exact hrow5)
  obtain ⟨qa5, qc5, hqe5⟩ := row_slice ROW5.out
  subst hqe5
  have k1 : w5.cell? ⟨r, 2, none⟩ = some R.qv := by rw [DK5.out.cell]; rfl
  have k2 : w5.frozen? ⟨r, 2, none⟩ = false := DK5.out.free 2
  have hH5 : w5.cell? ⟨r, 2, none⟩ = some R.qv ∧ w5.rangeAt g3 0 (rwC 1 n (.slice none 0 0) 0 ByteArray.empty) := ⟨k1, G5.out.range 0 _ (by simp)⟩
  refine hK.out _ _ (fun _ => hH5) ?_
  have hHeld := hH5
  clear hK K
  clear hrow5 hgr5 hat5 hne5 hnf5
  simp only [Act.put]
  refine wpAnyU_ready (rs := [8]) (by kernel_rfl) (by simp) (AllReadyU.cons rfl (fun K hK => ?_) AllReadyU.nil)
  rw [if_pos (by rfl)]
  go_simp
  refine hK.out _ _ (fun _ => hH5) ?_
  have hHeld := hH5
  clear hK K
  clear hH5
  refine takeU 10 9 177 (.pointer (some ⟨r, 2, none⟩)) hHeld rfl rfl (by kernel_rfl) (by kernel_rfl) (by kernel_rfl) (by kernel_rfl) (by kernel_rfl) (by kernel_rfl) (fun _ _ _ h => h) (Or.inl ⟨by rfl, fun w _ => by go_simp⟩) ?_
  simp only [Act.put, List.setIfInBounds_toArray, List.set_cons_zero, List.set_cons_succ]
  refine wpAnyU_ready (rs := [10]) (by kernel_rfl) (by simp) (AllReadyU.cons rfl (fun K hK => ?_) AllReadyU.nil)
  rw [if_pos (by rfl)]
  go_simp
  refine hK.out _ _ (fun h => absurd h (by decide)) ?_
  clear hK K
  refine wpAnyU_done (by kernel_rfl) ?_ _
  refine NoPanic.normal ?_
  have B6 := But.setCell w5 r 2 (.slice qa5 L5 qc5)
  have FK6 : FkAt (w5.setCell ⟨r, 2, none⟩ (.slice qa5 L5 qc5)) r s (Value.slice a4 L4 c4) (.slice qa5 L5 qc5) (((A ++ [(n, [])]) ++ B)) := ⟨DK5.out.set 2 _, row_same F5.out (fun k hk => B6.block k (fun e => by
    obtain ⟨cs, hc⟩ := row_lies F5.out hk
    exact hc.apart DK5.out (by decide) e))⟩
  have hres : RoR w (w5.setCell ⟨r, 2, none⟩ (.slice qa5 L5 qc5)) r s R (rs ++ [rCr n]) (Value.slice none 0 0) := DsR.done HH.out HLR.out HV.out (by exact HFL.out) HLN.out FK6 (by rw [HL5.out]; exact row_same ROW5.out (fun k hk => B6.block k (fun e => by
    obtain ⟨cs, hc⟩ := row_lies ROW5.out hk
    exact hc.apart DK5.out (by decide) e))) (CH5.out.thenBut B6 (.inl (.inl rfl))) D6.out.lie LQ5.out rfl
  revert hres
  generalize w5.setCell ⟨r, 2, none⟩ (.slice qa5 L5 qc5) = w6
  intro hres
  have HRES := hide hres
  clear hres
  go_wp2
  go_end0
  exact ⟨rfl, HRES.out⟩
end

end Go.Proofs.YtpocadbhajacaaaGreatDoor
