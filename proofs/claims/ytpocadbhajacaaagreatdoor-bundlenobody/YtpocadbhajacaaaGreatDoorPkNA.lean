/-
  Texts one behind the other: Jfba Bwd Bwe Srb Bwf Bwg Bwh Bwi.
-/
import Derived.Test.YtpocadbhajacaaaGreatDoorNw
import Derived.Test.YtpocadbhajacaaaGreatDoorMe
import Derived.Deep.RegionLaw
import Derived.Test.YtpocadbhajacaaaGreatDoorBwb
import Derived.Test.YtpocadbhajacaaaGreatDoorBwc
import Derived.Test.YtpocadbhajacaaaGreatDoorSgb

/-
  Laws on slices of bytes for the seats of frame; octet's and the document's numbers, put and read; spoil and names of the law.
-/
namespace Go.Proofs.YtpocadbhajacaaaGreatDoor
open Go.RowKit
set_option linter.unusedVariables false
set_option maxRecDepth 100000

theorem sizeBF (w : World) : (sizeOf 5).run Tryz.prog w = .ok 1 w := by kernel_rfl
theorem und22F : Tryz.prog.underlying 31 = some (.slice (Tryz.prog.elem 31)) := by kernel_rfl
theorem elem22F : Tryz.prog.elem 31 = 5 := by kernel_rfl
/-- b[k:] -/
theorem slice_from {w : World} {a : Option Addr} {len cap : Nat} {xs : List Int} (h : Sl w a len cap xs) (k : Nat) (K : Int) (hK : K = (k : Int)) (hk : k ≤ len) :
    ∃ a', (∀ v : World, (Instr.slice 31 (.slice a len cap) (some (.int .i64 K)) none none).run Tryz.prog v = .ok (.slice a' (len - k) (cap - k)) v) ∧ Sl w a' (len - k) (cap - k) (xs.drop k) ∧ (∀ g, (0 < len → Apart g a) → 0 < len - k → Apart g a') := by
  subst hK
  have hrun : ∀ v : World, (Instr.slice 31 (.slice a len cap) (some (.int .i64 k)) none none).run Tryz.prog v = .ok (sliced a k len cap 1) v := fun v => by
    rw [run_slice_l v _ _ _ _ und22F .i64 k (by omega) (by omega), elem22F, sizeBF]
    simp
  obtain ⟨h1, h2, h3, h4, h5, h6, h7⟩ := h
  by_cases hc : k < cap
  · cases a with
    | none => have := h6 rfl; omega
    | some ad =>
      have es : sliced (some ad) k len cap 1 = .slice (some (ad.add k)) (len - k) (cap - k) := by
        simp only [sliced, Nat.mul_one]
        have : ¬ (cap = k) := by omega
        simp [this]
      refine ⟨some (ad.add k), fun v => by rw [hrun v, es], ?_, ?_⟩
      · refine ⟨by simp [h1], by omega, by omega, by omega, h5.drop k, (fun e => by cases e), fun h0 => ?_⟩
        obtain ⟨b, o, e, hce⟩ := h7 (by omega)
        cases e
        refine ⟨b, o + k, by rw [Addr.add_lit], fun i hi => ?_⟩
        rw [show o + k + i = o + (k + i) by omega, hce (k + i) (by omega)]
        simp [List.getD, List.getElem?_drop]
      · intro g ha h0 x hx
        cases hx
        have := ha (by omega) ad rfl
        unfold Addr.add
        split <;> exact this
  · obtain rfl : k = cap := by omega
    obtain rfl : len = k := by omega
    have es : sliced a len len len 1 = .slice a (len - len) (len - len) := by
      cases a <;> simp [sliced]
    refine ⟨a, fun v => by rw [hrun v, es], ?_, ?_⟩
    · rw [Nat.sub_self]
      exact ⟨by simp [h1], Nat.le_refl _, by omega, by omega, h5.drop _, fun _ => ⟨rfl, rfl⟩, fun h => absurd h (by omega)⟩
    · intro g _ h0
      omega
/-- Another world: of what was there only block g has turned. -/
structure Chg (g : Nat) (w w' : World) : Prop where
  os : w'.os = w.os
  tape : w'.tape = w.tape
  output : w'.output = w.output
  size : w.heap.size ≤ w'.heap.size
  block : ∀ k, k < w.heap.size → k ≠ g → w'.heap[k]? = w.heap[k]?
theorem Chg.refl (g : Nat) (w : World) : Chg g w w := ⟨rfl, rfl, rfl, Nat.le_refl _, fun _ _ _ => rfl⟩
theorem Chg.trans {g : Nat} {a b c : World} (h : Chg g a b) (k : Chg g b c) : Chg g a c :=
  ⟨k.os.trans h.os, k.tape.trans h.tape, k.output.trans h.output, Nat.le_trans h.size k.size, fun i hi hg => (k.block i (Nat.lt_of_lt_of_le hi h.size) hg).trans (h.block i hi hg)⟩
theorem Chg.of_but {g : Nat} {w w' : World} (h : But g w w') : Chg g w w' := ⟨h.os, h.tape, h.output, Nat.le_of_eq h.size.symm, fun k _ hk => h.block k hk⟩
theorem Chg.of_below {g : Nat} {w w' : World} (h : Below w.heap.size w w') : Chg g w w' := ⟨h.os, h.tape, h.output, h.size, fun k hk _ => h.block k hk⟩
theorem Chg.below {g B : Nat} {w w' : World} (h : Chg g w w') (hg : B ≤ g) (hB : B ≤ w.heap.size) : Below B w w' := ⟨h.os, h.tape, h.output, h.size, fun k hk => h.block k (by omega) (by omega)⟩
theorem Blk.chg {g k : Nat} {w w' : World} {t : TypeId} {cs : List Value} (h : Blk w k t cs) (hc : Chg g w w') (hk : k ≠ g) : Blk w' k t cs := by
  unfold Blk; rw [hc.block k h.lt hk]; exact h
theorem Sl.chg {g : Nat} {w w' : World} {a : Option Addr} {len cap : Nat} {xs : List Int} (h : Sl w a len cap xs) (hc : Chg g w w') (hk : 0 < len → Apart g a) : Sl w' a len cap xs := by
  obtain ⟨h1, h2, h3, h4, h5, h6, h7⟩ := h
  refine ⟨h1, h2, h3, h4, h5, h6, fun h => ?_⟩
  obtain ⟨b, off, e, hce⟩ := h7 h
  refine ⟨b, off, e, fun i hi => ?_⟩
  rw [World.cell?_of_block (w := w) (hc.block b (World.block_lt_of_cell? w _ (hce i hi)) (hk h ⟨b, off, none⟩ e))]
  exact hce i hi
/-- How long a slice is. -/
def lenOf : Value → Nat
  | .slice _ n _ => n
  | _ => 0
theorem chg_drew (g : Nat) (w : World) : Chg g w w.drew := ⟨rfl, rfl, rfl, Nat.le_refl _, fun _ _ _ => rfl⟩
theorem sl_from (g n cap k : Nat) (K : Int) (hK : K = (k : Int)) (hk : k ≤ n) (hc : n ≤ cap) : ∃ a', (∀ v : World, (Instr.slice 31 (.slice (some ⟨g, 0, none⟩) n cap) (some (.int .i64 K)) none none).run Tryz.prog v = .ok (.slice a' (n - k) (cap - k)) v) ∧
    (∀ (w' : World) (z : List Int), Sl w' (some ⟨g, 0, none⟩) n cap z → Sl w' a' (n - k) (cap - k) (z.drop k)) ∧ ∀ x, a' = some x → x.block = g := by
  subst hK
  by_cases h : k < cap
  · refine ⟨some ⟨g, 0 + k, none⟩, fun v => ?_, fun w' z hs => hs.drop k hk, fun x hx => by cases hx; rfl⟩
    rw [run_slice_l v _ _ _ _ und22F .i64 k (by omega) (by omega), elem22F, sizeBF]
    have : ¬ cap = k := by omega
    simp [sliced, this, Addr.add_lit]
  · obtain rfl : k = cap := by omega
    obtain rfl : n = k := by omega
    refine ⟨some ⟨g, 0, none⟩, fun v => ?_, fun w' z hs => ⟨by rw [List.length_drop, hs.hlen], by omega, by omega, by omega, hs.hbyte.drop _, (fun e => by cases e), fun h0 => by omega⟩, fun x hx => by cases hx; rfl⟩
    rw [run_slice_l v _ _ _ _ und22F .i64 n (by omega) (by omega), elem22F, sizeBF]
    simp [sliced]
theorem sl_toF (g n cap k : Nat) (K : Int) (hK : K = (k : Int)) (hk : k ≤ cap) (v : World) :
    (Instr.slice 31 (.slice (some ⟨g, 0, none⟩) n cap) none (some (.int .i64 K)) none).run Tryz.prog v = .ok (.slice (some ⟨g, 0, none⟩) k cap) v := by
  subst hK
  rw [run_slice_h v _ _ _ _ und22F .i64 k (by omega) (by omega), elem22F, sizeBF]
  simp [sliced, Addr.add_lit]
section
variable {dst : Option Tmp} {ty : TypeId} {pos : String} {aft : Array Edge} {gd : Option (Nat × Bool)} {ops : Array Oper} {rest : List Oper} {a : Act} {w : World} {K : Act → World → Prop} {Q : Exit → Act → World → Prop}
set_option maxRecDepth 100000 in
theorem wp_boxG {T : TypeId} {x : Operand} {cs : List Value} (hx : a.eval x = .agg cs.toArray) (h : ∀ w1 g, Blk w1 g T cs → w.heap.size ≤ g → Below w.heap.size w w1 → K (a.put dst (.pointer (some ⟨g, 0, none⟩))) w1) :
    Oper.wp Tryz.prog ⟨dst, .box T x, ty, pos, aft, gd⟩ a w K Q :=
  wp_runV (.pointer (some ⟨w.heap.size, 0, none⟩)) (w.alloc (.cells cs.toArray T)) (by simp [execOp, hx, Instr.box, newVar, newRow, Result.andThen, Value.cells])
    (h _ _ (Blk.made _ _ _) (Nat.le_refl _) ((Below.refl _ _).alloc (Nat.le_refl _) _))
end
theorem spl_snoc (cs vs : List Value) (v : Value) (o : Nat) (h : o + vs.length < cs.length) : (spl cs vs o).set (o + vs.length) v = spl cs (vs ++ [v]) o := by
  unfold spl
  rw [List.set_append_right _ _ (by simp; omega)]
  have e : o + vs.length - (cs.take o ++ vs).length = 0 := by simp; omega
  rw [e, List.drop_eq_getElem_cons h]
  simp [Nat.add_assoc]
theorem spl_length (cs vs : List Value) (o : Nat) (h : o + vs.length ≤ cs.length) : (spl cs vs o).length = cs.length := by
  simp [spl]; omega
theorem u8s_take_succ (B : List Int) (k : Nat) (h : k < B.length) : u8s (B.take (k + 1)) = u8s (B.take k) ++ [.int .u8 (B.getD k 0)] := by
  rw [List.take_succ_eq_append_getElem h, u8s_app]
  congr 1
  simp [u8s, List.getD, h]
theorem Blk.sl0 {w : World} {g : Nat} {t : TypeId} {xs : List Int} (h : Blk w g t (u8s xs)) (hb : isB xs) (hl : xs.length ≤ 140737488355328) : Sl w (some ⟨g, 0, none⟩) xs.length xs.length xs :=
  h.sl 0 xs.length xs (by rw [List.drop_zero, List.take_of_length_le (by rw [u8s_length]; exact Nat.le_refl _)]) hb hl (Nat.le_refl _) (by omega)
theorem Own.of_blkF {w : World} {g B : Nat} {xs : List Int} (h : Blk w g 5 (u8s xs)) (hB : B ≤ g) (hl : xs.length ≤ 9223372036854775807) : Own w B (.slice (some ⟨g, 0, none⟩) xs.length xs.length) xs :=
  ⟨by simp [u8s_length], .inr ⟨g, xs.length, (u8s xs).toArray, rfl, hB, h, Nat.le_refl _, by unfold maxLen; omega, by simp [u8s_length], by rw [Nat.mul_one]; exact List.take_of_length_le (by simp [u8s_length])⟩⟩
theorem spl_all (B : List Int) (n : Nat) (h : B.length = n) : spl (u8s (zer n)) (u8s B) 0 = u8s B := by
  unfold spl
  rw [List.drop_of_length_le (by rw [u8s_length, u8s_length, zer_length, h]; omega)]
  simp
theorem spl_next (B : List Int) (n k : Nat) (h : B.length = n) (hk : k < n) : (spl (u8s (zer n)) (u8s (B.take k)) 0).set k (.int .u8 (B.getD k 0)) = spl (u8s (zer n)) (u8s (B.take (k + 1))) 0 := by
  have hl : (B.take k).length = k := by rw [List.length_take]; omega
  have e2 := spl_snoc (u8s (zer n)) (u8s (B.take k)) (.int .u8 (B.getD k 0)) 0 (by rw [u8s_length, u8s_length, hl, zer_length]; omega)
  rwa [u8s_length, hl, Nat.zero_add, ← u8s_take_succ _ _ (by omega)] at e2
theorem spl_there (B : List Int) (n k : Nat) (h : B.length = n) (hk : k < n) : ∃ old, (spl (u8s (zer n)) (u8s (B.take k)) 0)[k]? = some old := by
  have hl : (B.take k).length = k := by rw [List.length_take]; omega
  have : k < (spl (u8s (zer n)) (u8s (B.take k)) 0).length := by rw [spl_length _ _ _ (by rw [u8s_length, u8s_length, hl, zer_length]; omega), u8s_length, zer_length]; exact hk
  exact ⟨_, List.getElem?_eq_getElem this⟩
theorem mul_step (v x : Int) (h0 : 0 ≤ v) (h1 : v < 72057594037927936) (h2 : 0 ≤ x) (h3 : x ≤ 255) :
    IntKind.u64.wrap (IntKind.u64.wrap (v * 256) + IntKind.u64.wrap x) = v * 256 + x := by
  rw [IntKind.wrap_u64, IntKind.wrap_u64, IntKind.wrap_u64, Int.emod_eq_of_lt (by omega) (by omega), Int.emod_eq_of_lt (by omega) (by omega)]
  omega
set_option maxHeartbeats 400000 in
theorem readF_any (a : Option Addr) (len cap : Nat) (xs : List Int) (p : Int) (n : Nat) (w : World) (hs : Sl w a len cap xs) (hn : n ≤ 8) (hn0 : 0 < n) :
    Calls Tryz.prog 68 #[.slice a len cap, .int .i64 p, .int .i64 n] w fun e w' => e = .returned (.tuple #[.int .u64 (rdV xs p n), .int .i64 (rdN len p n), .int .i64 (rdE len p n)]) ∧ w = w' := by
  obtain ⟨hx, _, _, hl, hb, _, hc⟩ := hs
  by_cases h : p < 0 ∨ (len : Int) < p ∨ (len : Int) - p < n
  · have e1 : rdV xs p n = 0 := by simp [rdV, hx]; omega
    have e2 : rdN len p n = 0 := by simp [rdN]; omega
    rw [e1, e2]
    clear e1 e2 hc
    by_cases h1 : p < 0
    · have e3 : rdE len p n = 2 := by simp [rdE, h1]
      rw [e3]
      clear e3
      go_enter Tryz.func68, Tryz.ntmps68
      go_wp2
      go_ret3
      exact ⟨rfl, rfl⟩
    by_cases h2 : (len : Int) < p
    · have e3 : rdE len p n = 2 := by simp [rdE, h2]
      rw [e3]
      clear e3
      go_enter Tryz.func68, Tryz.ntmps68
      go_wp2
      go_ret3
      exact ⟨rfl, rfl⟩
    · have h3 : (len : Int) - p < n := by omega
      have e3 : rdE len p n = 10 := by simp [rdE, h1, h2, h3]
      rw [e3]
      clear e3 h
      go_enter Tryz.func68, Tryz.ntmps68
      go_wp2
      go_ret3
      exact ⟨rfl, rfl⟩
  · obtain ⟨p, rfl⟩ := Int.eq_ofNat_of_zero_le (show 0 ≤ p by omega)
    obtain ⟨b, off, rfl, hce⟩ := hc (by omega)
    clear hc
    have e1 : rdV xs p n = beVal ((xs.drop p).take n) := by simp only [rdV, hx]; rw [if_pos (by omega)]; simp
    have e2 : rdN len p n = p + n := by simp [rdN]; omega
    have e3 : rdE len p n = 0 := by simp [rdE]; omega
    rw [e1, e2, e3]
    clear e1 e2 e3
    have h1 : ¬ ((p : Int) < 0) := by omega
    have h2 : ¬ ((len : Int) < p) := by omega
    have h3 : ¬ ((len : Int) - p < n) := by omega
    clear h
    go_enter Tryz.func68, Tryz.ntmps68
    go_wp2
    go_loop [9, 10] (fun v i => ∃ k : Nat, k ≤ n ∧ i = .int .i64 k ∧ v = .int .u64 (beVal ((xs.drop p).take k))) (fun _ i => n - (intOf i).toNat)
    case atStart => exact ⟨0, Nat.zero_le _, rfl, by simp [beVal]⟩
    case round =>
      obtain ⟨k, hk, rfl, rfl⟩ := hrel
      by_cases hlt : k < n
      · have hck := hce (p + k) (by omega)
        have HS : Hid _ := beVal_step xs p k (by omega)
        have H2 : Hid _ := hb.get (p + k)
        have H3 : Hid _ := beVal_take_bd xs hb p k (by omega) (by omega)
        go_wp2
        go_round
        case rel =>
          refine ⟨k + 1, by omega, by go_num, ?_⟩
          rw [HS.out, ← mul_step _ _ H3.out.1 H3.out.2 H2.out.1 H2.out.2]
          rfl
        case measure => simp [intOf]; omega
      · have hkn : k = n := by omega
        subst hkn
        clear hce
        go_wp2
        go_ret3
        exact ⟨rfl, rfl⟩
set_option maxHeartbeats 400000 in
theorem room_any (a : Option Addr) (len cap : Nat) (p : Int) (n : Nat) (w : World) (hl : len ≤ 140737488355328) (hn : n ≤ 32) :
    Calls Tryz.prog 111 #[.slice a len cap, .int .i64 p, .int .i64 n] w fun e w' => e = .returned (.int .i64 (rdE len p n)) ∧ w = w' := by
  by_cases h : p < 0
  · have e : rdE len p n = 2 := by simp [rdE, h]
    rw [e]
    go_enter Tryz.func111, Tryz.ntmps111
    go_wp2
    go_ret
    exact ⟨rfl, rfl⟩
  by_cases h' : (len : Int) < p
  · have e : rdE len p n = 2 := by simp [rdE, h']
    rw [e]
    clear e
    go_enter Tryz.func111, Tryz.ntmps111
    go_wp2
    go_ret
    exact ⟨rfl, rfl⟩
  by_cases h2 : (len : Int) - p < n
  · have e : rdE len p n = 10 := by simp [rdE, h, h', h2]
    rw [e]
    clear e
    go_enter Tryz.func111, Tryz.ntmps111
    go_wp2
    go_ret
    exact ⟨rfl, rfl⟩
  · have e : rdE len p n = 0 := by simp [rdE, h, h', h2]
    rw [e]
    clear e
    go_enter Tryz.func111, Tryz.ntmps111
    go_wp2
    go_ret
    exact ⟨rfl, rfl⟩
set_option maxHeartbeats 400000 in
theorem number_any (a : Option Addr) (len cap : Nat) (xs : List Int) (p : Int) (n : Nat) (w : World) (hs : Sl w a len cap xs) (hn : n ≤ 8) (hn0 : 0 < n) :
    Calls Tryz.prog 98 #[.slice a len cap, .int .i64 p, .int .i64 n] w fun e w' => e = .returned (.tuple #[.int .u64 (rdV xs p n), .int .i64 (rdN len p n), .int .i64 (rdE len p n)]) ∧ w = w' := by
  obtain ⟨hx, _, _, hl, hb, _, hc⟩ := hs
  by_cases h : p < 0 ∨ (len : Int) < p ∨ (len : Int) - p < n
  · have e1 : rdV xs p n = 0 := by simp [rdV, hx]; omega
    have e2 : rdN len p n = 0 := by simp [rdN]; omega
    have e3 : rdE len p n = 2 ∨ rdE len p n = 10 := by
      by_cases h1 : p < 0 ∨ (len : Int) < p
      · left; simp [rdE, h1]
      · right; have h2 : (len : Int) - p < n := by omega
        simp [rdE, h1, h2]
    rw [e1, e2]
    have hne : (rdE len p n != 0) = true := by simp; omega
    clear e1 e2 hc e3
    go_enter Tryz.func98, Tryz.ntmps98
    go_wp2_with (go_at_call 111; refine (room_any _ _ _ _ _ _ hl (by omega)).mono ?_; rintro e w' ⟨rfl, rfl⟩)
    go_ret3
    exact ⟨rfl, rfl⟩
  · obtain ⟨p, rfl⟩ := Int.eq_ofNat_of_zero_le (show 0 ≤ p by omega)
    obtain ⟨b, off, rfl, hce⟩ := hc (by omega)
    clear hc
    have e1 : rdV xs p n = beVal ((xs.drop p).take n) := by simp only [rdV, hx]; rw [if_pos (by omega)]; simp
    have e2 : rdN len p n = p + n := by simp [rdN]; omega
    have e3 : rdE len p n = 0 := by simp [rdE]; omega
    rw [e1, e2, e3]
    have E3 : Hid (rdE len p n = 0) := e3
    clear e1 e2 e3
    go_enter Tryz.func98, Tryz.ntmps98
    go_wp2_with (go_at_call 111; refine (room_any _ _ _ _ _ _ hl (by omega)).mono ?_; rintro e w' ⟨rfl, rfl⟩; rw [E3.out])
    go_loop [6, 19] (fun v i => ∃ k : Nat, k ≤ n ∧ i = .int .i64 k ∧ v = .int .u64 (beVal ((xs.drop p).take k))) (fun _ i => n - (intOf i).toNat)
    case atStart => exact ⟨0, Nat.zero_le _, rfl, by simp [beVal]⟩
    case round =>
      obtain ⟨k, hk, rfl, rfl⟩ := hrel
      by_cases hlt : k < n
      · have hck := hce (p + k) (by omega)
        have HS : Hid _ := beVal_step xs p k (by omega)
        have H2 : Hid _ := hb.get (p + k)
        have H3 : Hid _ := beVal_take_bd xs hb p k (by omega) (by omega)
        go_wp2
        go_round
        case rel =>
          refine ⟨k + 1, by omega, by go_num, ?_⟩
          rw [HS.out, ← or_step _ _ H3.out.1 H3.out.2 H2.out.1 H2.out.2]
          rfl
        case measure => simp [intOf]; omega
      · have hkn : k = n := by omega
        subst hkn
        clear hce
        go_wp2
        go_ret3
        exact ⟨rfl, rfl⟩
theorem spl_full {cs vs : List Value} (h : vs.length = cs.length) : spl cs vs 0 = vs := by
  unfold spl
  rw [List.drop_of_length_le (by omega)]
  simp
theorem elemBy : Tryz.prog.elem 31 = 5 := by kernel_rfl
set_option maxRecDepth 100000 in
theorem b_at (b o n cap i : Nat) (hi : i < n) (v : World) : (Instr.indexAt 31 (.slice (some ⟨b, o, none⟩) n cap) (.int .i64 (i : Int))).run Tryz.prog v = .ok (.pointer (some ⟨b, o + i, none⟩)) v := by
  rw [run_indexAt_slice v _ _ _ _ .i64 i undBs, if_pos ⟨by omega, by omega⟩, elemBy, sizeBF]
  simp only [Result.andThen_ok, Int.toNat_natCast]
  rw [Addr.add_lit, Nat.mul_one]
/-- The bytes of a number, the highest first. -/
def be (v : Int) (n : Nat) : List Int := (List.range n).map fun i => v / 256 ^ (n - 1 - i) % 256
theorem be_length (v : Int) (n : Nat) : (be v n).length = n := by simp [be]
theorem be_isB (v : Int) (n : Nat) : isB (be v n) := by
  intro x hx
  simp only [be, List.mem_map, List.mem_range] at hx
  obtain ⟨i, _, rfl⟩ := hx
  omega
theorem be_get (v : Int) (n k : Nat) (h : k < n) : (be v n).getD k 0 = v / 256 ^ (n - 1 - k) % 256 := by simp [be, List.getD, h]

theorem pow2_8 (m : Nat) : (2 : Int) ^ (8 * m) = 256 ^ m := by rw [Int.pow_mul]; rfl
theorem spl_zer (ys : List Int) (n m : Nat) (h : ys.length = m) : spl (u8s (zer (m + n))) (u8s (ys.take m)) 0 = u8s (ys ++ zer n) := by
  rw [spl_u8, ← h, List.take_length]
  congr 1
  simp [splB, zer]
set_option maxHeartbeats 400000 in
theorem widened_any (a : Option Addr) (len cap : Nat) (xs : List Int) (n : Nat) (w : World) (hs : Sl w a len cap xs) (hn : n ≤ 64) :
    Calls Tryz.prog 88 #[.slice a len cap, .int .i64 n] w fun e w' => ∃ g, e = .returned (.slice (some ⟨g, 0, none⟩) (len + n) (len + n)) ∧ w.heap.size ≤ g ∧ Blk w' g 5 (u8s (xs ++ zer n)) ∧ Below w.heap.size w w' := by
  have hr := hs.hreach
  have HS := hide hs
  clear hs
  go_enter Tryz.func88, Tryz.ntmps88
  go_wp2_with (refine step_make (len + n) rfl rfl rfl (by omega) (by omega) (by omega) ?_)
  intro w1 g hrow hg hb
  go_wp2_with (refine step_copy rfl rfl rfl (HS.out.below hb) g 0 len (by omega) hrow (fun _ => rfl) (by rw [u8s_length, zer_length]; omega) ?_)
  intro w2 hrow2 hbut
  rw [spl_zer xs n len HS.out.hlen] at hrow2
  go_wp2
  go_ret
  exact ⟨g, rfl, hg, hrow2, hb.trans (hbut.below hg)⟩
/-- One byte more of B laid over noughts. -/
theorem fill_step (xs B : List Int) (len n k : Nat) (hx : xs.length = len) (hB : B.length = n) (hk : k < n) :
    (xs ++ (B.take k ++ zer (n - k))).set (len + k) (B.getD k 0) = xs ++ (B.take (k + 1) ++ zer (n - (k + 1))) := by
  subst hx
  rw [List.set_append_right _ _ (by omega), Nat.add_sub_cancel_left]
  congr 1
  have hz : zer (n - k) = 0 :: zer (n - (k + 1)) := by
    have : n - k = (n - (k + 1)) + 1 := by omega
    rw [this]; simp [zer, List.replicate_succ]
  rw [List.set_append_right _ _ (by simp; omega), hz]
  have e : k - (B.take k).length = 0 := by simp; omega
  have e2 : B.getD k 0 = B[k] := by simp [List.getD, hB, hk]
  rw [e, e2, List.take_succ_eq_append_getElem (by omega), List.append_assoc]
  rfl
set_option maxHeartbeats 400000 in
theorem putNumber_any (a : Option Addr) (len cap : Nat) (xs : List Int) (v : Int) (n : Nat) (w : World) (hs : Sl w a len cap xs) (hn : n ≤ 8) (hv : 0 ≤ v) (hv2 : v < 18446744073709551616) :
    Calls Tryz.prog 66 #[.slice a len cap, .int .u64 v, .int .i64 n] w fun e w' => ∃ g, e = .returned (.slice (some ⟨g, 0, none⟩) (len + n) (len + n)) ∧ w.heap.size ≤ g ∧ Blk w' g 5 (u8s (xs ++ be v n)) ∧ Below w.heap.size w w' := by
  have hr := hs.hreach
  have HS := hide hs
  clear hs
  go_enter Tryz.func66, Tryz.ntmps66
  go_wp2_with (go_at_call 88; refine (widened_any _ _ _ xs n _ HS.out (by omega)).mono ?_; rintro e w1 ⟨g, rfl, hg, hrow, hb⟩)
  go_loopw [13] (fun i wr => ∃ k : Nat, k ≤ n ∧ i = .int .i64 k ∧ Blk wr g 5 (u8s (xs ++ ((be v n).take k ++ zer (n - k)))) ∧ Below w.heap.size w wr) (fun i _ => n - (intOf i).toNat)
  case atStart => exact ⟨0, by omega, rfl, by simpa using hrow, hb⟩
  case round =>
    obtain ⟨k, hk, rfl, hr1, hb1⟩ := hrel
    by_cases hlt : k < n
    · have hl1 : (xs ++ ((be v n).take k ++ zer (n - k))).length = len + n := by simp [be_length, zer_length, HS.out.hlen]; omega
      have hcell : wr.cell? ⟨g, len + k, none⟩ = some (.int .u8 ((xs ++ ((be v n).take k ++ zer (n - k))).getD (len + k) 0)) := by rw [hr1.cell, u8s_get _ _ (by omega)]
      have hfree := hr1.free (len + k)
      clear hl1
      have HE := hide (fill_step xs (be v n) len n k HS.out.hlen (be_length v n) hlt)
      have HR := hide hr1
      clear hr1
      go_wp2
      go_roundw
      case rel =>
        have e := HR.out.set (len + k) (.int .u8 ((be v n).getD k 0))
        rw [u8s_set, HE.out, be_get v n k hlt, ← pow2_8] at e
        exact ⟨k + 1, by omega, by go_num, e, hb1.setCell hg _⟩
      case measure => simp [intOf]; omega
    · have hkn : k = n := by omega
      subst hkn
      go_wp2
      go_ret
      refine ⟨g, rfl, hg, ?_, hb1⟩
      have e : xs ++ (List.take k (be v k) ++ zer (k - k)) = xs ++ be v k := by
        rw [List.take_of_length_le (by rw [be_length]; exact Nat.le_refl _)]; simp [zer]
      rw [e] at hr1
      exact hr1
/-- One byte more of B, from its end. -/
theorem back_step (B : List Int) (n k : Nat) (hB : B.length = n) (hk : k < n) : (zer (k + 1) ++ B.drop (k + 1)).set k (B.getD k 0) = zer k ++ B.drop k := by
  have hz : zer (k + 1) = zer k ++ [0] := by simp [zer, List.replicate_succ']
  rw [hz, List.append_assoc, List.set_append_right _ _ (by simp [zer]), List.drop_eq_getElem_cons (i := k) (by omega)]
  have e : k - (zer k).length = 0 := by simp [zer]
  rw [e]
  simp [List.getD, hB, hk]

theorem div_pow (v : Int) (m : Nat) : v / 256 ^ m / 256 = v / 256 ^ (m + 1) := by
  rw [Int.pow_succ, Int.ediv_ediv_of_nonneg (Int.le_of_lt (Int.pow_pos (by decide)))]

theorem quo256 (v : Int) (m : Nat) (hv : 0 ≤ v) (hv2 : v < 18446744073709551616) : IntKind.u64.wrap ((v / 256 ^ m).tdiv 256) = v / 256 ^ (m + 1) := by
  have h0 : 0 ≤ v / 256 ^ m := Int.ediv_nonneg hv (Int.le_of_lt (Int.pow_pos (by decide)))
  have h1 : v / 256 ^ m ≤ v := Int.ediv_le_self _ hv
  rw [Int.tdiv_eq_ediv_of_nonneg h0, div_pow, IntKind.wrap_u64]
  have h2 : 0 ≤ v / 256 ^ (m + 1) := Int.ediv_nonneg hv (Int.le_of_lt (Int.pow_pos (by decide)))
  have h3 : v / 256 ^ (m + 1) ≤ v := Int.ediv_le_self _ hv
  exact Int.emod_eq_of_lt h2 (by omega)

set_option maxHeartbeats 400000 in
theorem number_ref (v : Int) (n : Nat) (w : World) (hn : n ≤ 8) (hv : 0 ≤ v) (hv2 : v < 18446744073709551616) :
    Calls Tryz.prog 38 #[.int .u64 v, .int .i64 n] w fun e w' => ∃ g, e = .returned (.slice (some ⟨g, 0, none⟩) n n) ∧ w.heap.size ≤ g ∧ Blk w' g 5 (u8s (be v n)) ∧ Below w.heap.size w w' := by
  go_enter Tryz.func38, Tryz.ntmps38
  go_wp2_with (refine step_make n rfl rfl rfl rfl rfl (by omega) ?_)
  intro w1 g hrow hg hb
  go_wp2
  go_loopw [0, 6] (fun vv i wr => ∃ j : Nat, j ≤ n ∧ i = .int .i64 ((j : Int) - 1) ∧ vv = .int .u64 (v / 256 ^ (n - j)) ∧ Blk wr g 5 (u8s (zer j ++ (be v n).drop j)) ∧ Below w.heap.size w wr) (fun _ i _ => (intOf i + 1).toNat)
  case atStart => exact ⟨n, by omega, rfl, by simp, by rw [List.drop_eq_nil_of_le (by rw [be_length]; exact Nat.le_refl _), List.append_nil]; exact hrow, hb⟩
  case round =>
    obtain ⟨j, hj, rfl, rfl, hr1, hb1⟩ := hrel
    by_cases h0 : j = 0
    · subst h0
      go_wp2
      go_ret
      refine ⟨g, rfl, hg, ?_, hb1⟩
      simpa [zer] using hr1
    · obtain ⟨k, rfl⟩ : ∃ k, j = k + 1 := ⟨j - 1, by omega⟩
      have hl1 : (zer (k + 1) ++ (be v n).drop (k + 1)).length = n := by simp [be_length, zer_length]; omega
      have hcell : wr.cell? ⟨g, k, none⟩ = some (.int .u8 ((zer (k + 1) ++ (be v n).drop (k + 1)).getD k 0)) := by rw [hr1.cell]; exact u8s_get _ _ (by omega)
      have hfree := hr1.free k
      have HE := hide (back_step (be v n) n k (be_length v n) (by omega))
      have HG := hide (be_get v n k (by omega))
      have ek : (((k + 1 : Nat) : Int) - 1) = (k : Int) := by omega
      rw [ek]
      clear hl1
      go_wp2
      go_roundw
      case rel =>
        have e := hr1.set k (.int .u8 ((be v n).getD k 0))
        have en : n - 1 - k = n - (k + 1) := by omega
        rw [u8s_set, HE.out, HG.out, en] at e
        have eq := quo256 v (n - (k + 1)) hv hv2
        have en2 : n - (k + 1) + 1 = n - k := by omega
        rw [en2] at eq
        exact ⟨k, by omega, by go_num, by rw [eq], e, hb1.setCell hg _⟩
      case measure => simp [intOf]

end Go.Proofs.YtpocadbhajacaaaGreatDoor

/-
  The way through a file's whole leaves: whole and what it hands out.
-/
namespace Go.Proofs.YtpocadbhajacaaaGreatDoor
open Go.RowKit Go.Shelf
set_option linter.unusedVariables false
set_option linter.unusedSimpArgs false
set_option maxRecDepth 100000

/-- A place in cells. -/
def plV (x : Plc) : List Value := [.string x.1, .int .i64 (x.2.1 : Int), .int .i64 (x.2.2 : Int)]
theorem One.pl (x : Plc) : One (plV x) := by intro v hv; simp [plV] at hv; rcases hv with rfl | rfl | rfl <;> rfl
theorem zPl : Zeroed 102 [.string { data := #[] }, .int .i64 0, .int .i64 0] := fun _ _ _ _ _ _ _ => by kernel_rfl
theorem wPl : Wide 102 3 := ⟨by kernel_rfl, by kernel_rfl⟩
theorem Blk.pl3 {w : World} {g : Nat} {t : TypeId} {x : Plc} (k : Blk w g t (plV x)) : w.cell? ⟨g, 0, none⟩ = some (.string x.1) ∧ w.cell? ⟨g, 1, none⟩ = some (.int .i64 (x.2.1 : Int)) ∧ w.cell? ⟨g, 2, none⟩ = some (.int .i64 (x.2.2 : Int)) :=
  ⟨by rw [k.cell]; rfl, by rw [k.cell]; rfl, by rw [k.cell]; rfl⟩
section
variable {F : Fence} {n : Nat} {dst : Option Tmp} {ty : TypeId} {pos : String} {aft : Array Edge} {gd : Option (Nat × Bool)} {ops : Array Oper} {rest : List Oper} {a : Act} {w : World} {Q : Exit → Act → World → Prop}
theorem istep_buildPl (hF : WideF F) {x y z : Operand} {nm : ByteArray} {p q : Nat} (hw : Region.wanted ⟨dst, .build 102 #[(0, x), (1, y), (2, z)], ty, pos, aft, gd⟩ (yielded ops a.tmps) = true) (hx : a.eval x = .string nm) (hy : a.eval y = .int .i64 (p : Int)) (hz : a.eval z = .int .i64 (q : Int))
    (k : wpListIn F n Tryz.prog ops Q rest (a.put dst (.agg (plV (nm, p, q)).toArray)) w) : wpListIn F n Tryz.prog ops Q (⟨dst, .build 102 #[(0, x), (1, y), (2, z)], ty, pos, aft, gd⟩ :: rest) a w :=
  istep_run hF (fun c => by simp) hw _ w (run_op (M := Instr.build 102 #[(0, .string nm), (1, .int .i64 (p : Int)), (2, .int .i64 (q : Int))]) (by simp [execOp, hx, hy, hz]) (by kernel_rfl)) k
end
theorem end_any (x : Plc) (w : World) (hb : x.2.1 + x.2.2 ≤ 9223372036854775807) : Calls Tryz.prog 74 #[.agg (plV x).toArray] w fun r w' => r = .returned (.int .i64 ((x.2.1 + x.2.2 : Nat) : Int)) ∧ Below w.heap.size w w' := by
  obtain ⟨nm, p, q⟩ := x
  have hw : wrap64 ((p : Int) + (q : Int)) = ((p + q : Nat) : Int) := by unfold wrap64; simp only at hb; omega
  have HW := hide hw
  clear hw hb
  go_enter Tryz.func74, Tryz.ntmps74
  go_wp2_with (first | (refine step_box (cs := plV (nm, p, q)) rfl rfl ?_; intro w1 g1 hg1 hle1 hb1; obtain ⟨c0, c1, c2⟩ := hg1.pl3; have HB1 := hide hb1; clear hg1 hb1) | (rw [HW.out]))
  go_ret
  exact ⟨rfl, HB1.out⟩
theorem uint16_any (a : Option Addr) (len cap : Nat) (xs : List Int) (p : Int) (w : World) (hs : Sl w a len cap xs) :
    Calls Tryz.prog 78 #[.slice a len cap, .int .i64 p] w fun e w' => e = .returned (.tuple #[.int .u16 (rdV xs p 2), .int .i64 (rdN len p 2), .int .i64 (rdE len p 2)]) ∧ w = w' := by
  have hb := rdV_bd xs hs.hbyte p 2
  have hb1 : 0 ≤ rdV xs p 2 := hb.1
  have hb2 : rdV xs p 2 < 65536 := hb.2
  have hw : IntKind.u16.wrap (rdV xs p 2) = rdV xs p 2 := by rw [IntKind.wrap_u16]; exact Int.emod_eq_of_lt hb1 hb2
  clear hb
  have HS := hide hs
  clear hs
  go_enter Tryz.func78, Tryz.ntmps78
  go_wp2_with (go_at_call 98; refine (number_any _ _ _ xs _ 2 _ HS.out (by omega) (by omega)).mono ?_; rintro e w' ⟨rfl, rfl⟩)
  go_ret3
  exact ⟨rfl, rfl⟩
theorem whole_mk (d : Nat) (h : Int) (nm : ByteArray) (w : World) : Calls Tryz.prog 49 #[.pointer (some ⟨d, 0, none⟩), .int .i64 h, .string nm] w fun r w' => ∃ gd gh gn, r = .returned (.func (.func 77) #[] #[.pointer (some ⟨gd, 0, none⟩), .pointer (some ⟨gn, 0, none⟩), .pointer (some ⟨gh, 0, none⟩)]) ∧
    Blk w' gd 26 [.pointer (some ⟨d, 0, none⟩)] ∧ Blk w' gh 3 [.int .i64 h] ∧ Blk w' gn 9 [.string nm] ∧ w.heap.size ≤ gd ∧ w.heap.size ≤ gh ∧ w.heap.size ≤ gn ∧ Below w.heap.size w w' := by
  go_enter Tryz.func49, Tryz.ntmps49
  go_wp2
  go_ret
  have b1 : Below w.heap.size w (w.alloc (.cells #[.pointer (some ⟨d, 0, none⟩)] 26)) := (Below.refl _ _).alloc (Nat.le_refl _) _
  have B1 : Blk (w.alloc (.cells #[.pointer (some ⟨d, 0, none⟩)] 26)) w.heap.size 26 [.pointer (some ⟨d, 0, none⟩)] := Blk.made _ _ _
  generalize hW1 : w.alloc (.cells #[.pointer (some ⟨d, 0, none⟩)] 26) = W1 at *
  have s1 := b1.size
  have b2 : Below W1.heap.size W1 (W1.alloc (.cells #[.int .i64 h] 3)) := (Below.refl _ _).alloc (Nat.le_refl _) _
  have B2 : Blk (W1.alloc (.cells #[.int .i64 h] 3)) W1.heap.size 3 [.int .i64 h] := Blk.made _ _ _
  generalize hW2 : W1.alloc (.cells #[.int .i64 h] 3) = W2 at *
  have s2 := b2.size
  have b3 : Below W2.heap.size W2 (W2.alloc (.cells #[.string nm] 9)) := (Below.refl _ _).alloc (Nat.le_refl _) _
  have B3 : Blk (W2.alloc (.cells #[.string nm] 9)) W2.heap.size 9 [.string nm] := Blk.made _ _ _
  generalize hW3 : W2.alloc (.cells #[.string nm] 9) = W3 at *
  have z1 : W1.heap.size = w.heap.size + 1 := by rw [← hW1]; exact World.size_alloc _ _
  have z2 : W2.heap.size = w.heap.size + 1 + 1 := by rw [← hW2, World.size_alloc, z1]
  exact ⟨w.heap.size, w.heap.size + 1, w.heap.size + 1 + 1, rfl, (B1.on b2).on b3, by rw [← z1]; exact B2.on b3, by rw [← z2]; exact B3, Nat.le_refl _, by omega, by omega, on_below (on_below b1 b2) b3⟩

/-! ### what a round leaves -/
/-- A disk's blocks. -/
def FD (d : Nat) (D : Dm) (k : Nat) : Prop := D.own d k ∨ D.ro k ∨ k = 2
/-- A disk's blocks are left, and of the blocks behind B all but those of slices of slices. -/
structure KB (B : Nat) (F : Nat → Prop) (A C : World) : Prop where
  size : A.heap.size ≤ C.heap.size
  keep : ∀ k, F k → k < A.heap.size → C.heap[k]? = A.heap[k]?
  rest : ∀ k t cs, B ≤ k → t ≠ 31 → Blk A k t cs → Blk C k t cs
theorem KB.refl (B : Nat) (F : Nat → Prop) (A : World) : KB B F A A := ⟨Nat.le_refl _, fun _ _ _ => rfl, fun _ _ _ _ _ h => h⟩
theorem KB.trans {B : Nat} {F : Nat → Prop} {A C D : World} (h : KB B F A C) (k : KB B F C D) : KB B F A D :=
  ⟨Nat.le_trans h.size k.size, fun i hi hl => (k.keep i hi (Nat.lt_of_lt_of_le hl h.size)).trans (h.keep i hi hl), fun i t cs h1 h2 h3 => k.rest i t cs h1 h2 (h.rest i t cs h1 h2 h3)⟩
theorem KB.below {B : Nat} {F : Nat → Prop} {A C : World} (h : Below A.heap.size A C) : KB B F A C := ⟨h.size, fun k _ hk => h.block k hk, fun k t cs _ _ hb => hb.on h⟩
theorem KB.but {B g : Nat} {F : Nat → Prop} {A C : World} (h : But g A C) (hg : g < B) (hF : ∀ k, F k → k ≠ g) : KB B F A C := ⟨Nat.le_of_eq h.size.symm, fun k hk _ => h.block k (hF k hk), fun k t cs h1 _ hb => hb.but h (by omega)⟩
theorem KB.book {B B' : Nat} {F : Nat → Prop} (hF : ∀ k, F k → k < B') (W : World) (l : Nat) (o o' : Obj) (hl : B' ≤ l) (h : W.heap[l]? = some o) (hc : o.isCells = false) : KB B F W (W.putObj l o') :=
  ⟨(grownBy_putObj' W l o').size, fun k hk _ => World.putObj_heap_other (by have := hF k hk; omega), fun k t cs _ _ hb => by
    have hne : k ≠ l := fun e => by
      subst e
      rw [hb] at h
      injection h with h
      subst h
      cases hc
    unfold Blk
    rw [World.putObj_heap_other hne]
    exact hb⟩
theorem KB.less {B B' : Nat} {F : Nat → Prop} {A C : World} (h : KB B F A C) (hB : B ≤ B') : KB B' F A C := ⟨h.size, h.keep, fun k t cs h1 h2 h3 => h.rest k t cs (by omega) h2 h3⟩
/-- What stands when a file is walked over. -/
structure WAt (w : World) (d s : Nat) (rs : List Rw) (D : Dm) (gd gh gn H : Nat) (nm : ByteArray) (B : Nat) : Prop where
  dk : DkAt w d s rs D
  pt : PT w
  bd : Blk w gd 26 [.pointer (some ⟨d, 0, none⟩)]
  bh : Blk w gh 3 [.int .i64 (H : Int)]
  bn : Blk w gn 9 [.string nm]
  le : B ≤ gd ∧ B ≤ gh ∧ B ≤ gn
section
variable {w w' : World} {d s : Nat} {rs : List Rw} {D : Dm} {gd gh gn H : Nat} {nm : ByteArray} {B : Nat}
theorem fd_lt (h1 : DkAt w d s rs D) (h2 : PT w) {k : Nat} (hk : FD d D k) : k < w.heap.size := by
  rcases hk with hk | hk | rfl
  · exact h1.lt (.inl hk)
  · exact h1.lt (.inr hk)
  · exact h2.lt
theorem dk_fd (h1 : DkAt w d s rs D) (hk : ∀ k, FD d D k → w'.heap[k]? = w.heap[k]?) : DkAt w' d s rs D := h1.same (fun k hq => hk k (by rcases hq with hq | hq; exact .inl hq; exact .inr (.inl hq)))
theorem pt_fd (h1 : PT w) (hk : ∀ k, FD d D k → w'.heap[k]? = w.heap[k]?) : PT w' := h1.sameS (hk _ (.inr (.inr rfl)))
theorem WAt.below (h : WAt w d s rs D gd gh gn H nm B) (hb : Below w.heap.size w w') : WAt w' d s rs D gd gh gn H nm B :=
  ⟨h.dk.below hb, h.pt.below hb, h.bd.on hb, h.bh.on hb, h.bn.on hb, h.le⟩
theorem WAt.kb (h : WAt w d s rs D gd gh gn H nm B) (hb : KB B (FD d D) w w') : WAt w' d s rs D gd gh gn H nm B :=
  ⟨dk_fd h.dk (fun k hk => hb.keep k hk (fd_lt h.dk h.pt hk)), pt_fd h.pt (fun k hk => hb.keep k hk (fd_lt h.dk h.pt hk)), hb.rest _ _ _ h.le.1 (by decide) h.bd, hb.rest _ _ _ h.le.2.1 (by decide) h.bh, hb.rest _ _ _ h.le.2.2 (by decide) h.bn, h.le⟩
end
/-- What is handed out: a number and a place. -/
def encW (x : Nat × Plc) : Array Value := #[.int .i64 (x.1 : Int), .agg (plV x.2).toArray]
def RW (nm : ByteArray) (ls : List (List Int)) (pre : List (Nat × Plc)) (x : Nat × Plc) (W0 W : World) : Prop := pre.length < ls.length ∧ pre = wls nm ls pre.length ∧ x = (pre.length, plK nm ls pre.length)
theorem rw_own (nm : ByteArray) (ls : List (List Int)) (B0 : Nat) (pre : List (Nat × Plc)) (x : Nat × Plc) (W0 : World) : OwnFrom B0 (fun (_ : Unit) W => RW nm ls pre x W0 W) := fun _ W W' row h hg hr => h

end Go.Proofs.YtpocadbhajacaaaGreatDoor

/-
  The way through a file's whole leaves: the contract of what whole hands back.
-/
namespace Go.Proofs.YtpocadbhajacaaaGreatDoor
open Go.RowKit Go.Shelf
set_option linter.unusedVariables false
set_option linter.unusedSimpArgs false
set_option maxRecDepth 100000

theorem fE_fl {w : World} {d s : Nat} {rs : List Rw} {D : Dm} (h : DkAt w d s rs D) {n : ByteArray} (hf : fE rs n ≠ 0) : fl (play rs) n = [] := by
  have hnone : play rs n = none := by
    by_cases hn : nmB n = true
    · cases hp : play rs n with
      | none => rfl
      | some xs => simp [fE, hn, hp] at hf
    · exact Nmd.play h.valS n (by simpa using hn)
  simp [fl, hnone]
/-- What is read of a file, from a place in it. -/
theorem rq_in {w : World} {d s : Nat} {rs : List Rw} {D : Dm} (h : DkAt w d s rs D) (n : ByteArray) (p q : Nat) (hp : p ≤ (fl (play rs) n).length) : rqE rs n (p : Int) (q : Int) = fE rs n ∧ rqB rs n (p : Int) (q : Int) = ((fl (play rs) n).drop p).take q := by
  have e1 : rqE rs n (p : Int) (q : Int) = fE rs n := by
    unfold rqE
    by_cases hf : fE rs n = 0
    · rw [if_pos hf, if_neg (by omega), hf]
    · rw [if_neg hf]
  refine ⟨e1, ?_⟩
  unfold rqB
  rw [e1]
  by_cases hf : fE rs n = 0
  · rw [if_pos hf]
    simp only [Int.toNat_natCast]
    rcases Nat.le_total q ((fl (play rs) n).length - p) with h1 | h1
    · rw [Nat.min_eq_left h1]
    · rw [Nat.min_eq_right h1, List.take_of_length_le (by rw [List.length_drop]; omega), List.take_of_length_le (by rw [List.length_drop]; omega)]
  · rw [if_neg hf, fE_fl h hf]
    simp
theorem wrap_powB {H P : Nat} (hh : hB H) (hP : 2 ^ H = P) : wrap64 (2 ^ H) = (P : Int) := by
  have e : ((2 : Int) ^ H) = (P : Int) := by rw [← hP]; simp [Int.natCast_pow]
  have := hh.pow
  rw [e]
  unfold wrap64
  omega
/-- Two bytes. -/
theorem rd_two (a c : Int) : rdV [a, c] 0 2 = a * 256 + c ∧ rdE 2 0 2 = 0 := by
  refine ⟨?_, by decide⟩
  simp [rdV, beVal]
theorem rd_few {ys : List Int} (h : ys.length < 2) : rdE ys.length 0 2 = 10 := by
  unfold rdE
  rw [if_neg (by omega), if_pos (by omega)]
set_option maxHeartbeats 4000000 in
theorem whole_seq (d s : Nat) (rs : List Rw) (D : Dm) (gd gh gn H : Nat) (nm : ByteArray) (B : Nat) (w : World) (h : WAt w d s rs D gd gh gn H nm B) (hh : hB H) (hwt : wt rs ≤ 1099511000000) :
    SeqQ Fence.wide 3 Tryz.prog 77 #[.pointer (some ⟨gd, 0, none⟩), .pointer (some ⟨gn, 0, none⟩), .pointer (some ⟨gh, 0, none⟩)] encW (RW nm (wl (2 ^ H) (fl (play rs) nm))) (fun _ => KB B (FD d D)) (fun ys => ys = wls nm (wl (2 ^ H) (fl (play rs) nm)) (wl (2 ^ H) (fl (play rs) nm)).length) (fun ys => ∃ k, k ≤ (wl (2 ^ H) (fl (play rs) nm)).length ∧ ys = wls nm (wl (2 ^ H) (fl (play rs) nm)) k) w := by
  intro l0 J Jx W hW hJ hJx hY h0
  have H0 := hide (h.below hW)
  have HJ0 := hide h0
  obtain ⟨b, HB⟩ : ∃ b, Hid (fl (play rs) nm = b) := ⟨_, hide rfl⟩
  have hbb := h.dk.byB nm
  have hbl : b.length ≤ 1099511000000 := by rw [← HB.out]; exact Nat.le_trans (play_wt _ _) hwt
  have hsz0 : W.cell? ⟨gn, 0, none⟩ = some (.string nm) := by rw [H0.out.bn.cell]; rfl
  have hsd0 : W.cell? ⟨gd, 0, none⟩ = some (.pointer (some ⟨d, 0, none⟩)) := by rw [H0.out.bd.cell]; rfl
  have hsh0 : W.cell? ⟨gh, 0, none⟩ = some (.int .i64 (H : Int)) := by rw [H0.out.bh.cell]; rfl
  have hsz := size_any d s rs D W H0.out.dk nm
  rw [size_is H0.out.dk, HB.out] at hsz
  have HSZ := hide hsz
  have HRD0 : Hid (∀ (W : World), DkAt W d s rs D → ∀ p : Nat, p ≤ b.length → Calls Tryz.prog 50 #[.pointer (some ⟨d, 0, none⟩), .string nm, .int .i64 (p : Int), .int .i64 2] W fun e w' => ∃ v, e = .returned (.tuple #[v, .int .i64 (fE rs nm)]) ∧ Own w' W.heap.size v ((b.drop p).take 2) ∧ Below W.heap.size W w') := hide (fun W hW p hp => by
    have := read_any d s rs D W hW nm (p : Int) (2 : Nat) hwt
    obtain ⟨e1, e2⟩ := rq_in hW nm p 2 (by rw [HB.out]; exact hp)
    rw [e1, e2, HB.out] at this
    exact this)
  rw [HB.out] at hbb hY ⊢
  obtain ⟨P, HP⟩ : ∃ P, Hid (2 ^ H = P) := ⟨_, hide rfl⟩
  have HWP := hide (wrap_powB hh HP.out)
  have hP := hh.pow
  rw [HP.out] at hP hY ⊢
  have HBB := hide hbb
  obtain ⟨ls, HLS⟩ : ∃ ls, Hid (wl P b = ls) := ⟨_, hide rfl⟩
  have hLP : ls.length ≤ P := by rw [← HLS.out]; exact wl_le _ _
  rw [HLS.out] at hY ⊢
  obtain ⟨hPlo, hPhi⟩ := hP
  have hH8 := hh.2
  have hHi : (H : Int) ≤ 8 := by omega
  have HAT : Hid (∀ k, k < ls.length → ∃ t, b.drop (offL ls k) = lfB (ls.getD k []) ++ t) := hide (fun k hk => by
    rw [← HLS.out] at hk ⊢
    exact wl_at HBB.out hk)
  have HNX : Hid (∀ k, k < ls.length → offL ls k + 2 + (ls.getD k []).length ≤ b.length ∧ (ls.getD k []).length ≤ 65535) := hide (fun k hk => by
    rw [← HLS.out] at hk ⊢
    exact ⟨offL_next HBB.out hk, (wl_ok _ _ HBB.out _ (getD_mem hk)).1⟩)
  have HEN : Hid (ls.length < P → wl 1 (b.drop (offL ls ls.length)) = []) := hide (fun hk => by
    rw [← HLS.out] at hk ⊢
    rw [offL_all _ _ (Nat.le_refl _)]
    exact wl_end HBB.out hk)
  have HOL : Hid (∀ k, offL ls k ≤ b.length) := hide (fun k => by
    rw [← HLS.out]
    exact offL_le HBB.out k)
  clear h hW h0 hh hwt hsz hbb HB HLS
  refine callsIn_of_wp Tryz.func77 rfl trivial ?_ rfl
  simp only [Tryz.ntmps77, List.size_toArray, List.length_cons, List.length_nil, Nat.reduceAdd, Nat.reduceSub, Array.replicate_succ, Array.replicate_zero, List.push_toArray, List.append_toArray, List.nil_append, List.cons_append]
  refine wpIn_wide.2 ?_
  go_wp2_with fail
  refine HSZ.out.mono ?_
  rintro r w' ⟨rfl, rfl⟩
  go_wp2_with (rw [HWP.out])
  try simp only [Act.put]
  refine (wpIn_wide (n := 3)).1 ?_
  gi_loopw [23, 7] (fun i p wr => ∃ (k : Nat) (pre : List (Nat × Plc)), k ≤ ls.length ∧ i = .int .i64 (k : Int) ∧ p = .int .i64 ((offL ls k : Nat) : Int) ∧ Hid (pre = wls nm ls k) ∧ Hid (J pre wr) ∧ Hid (WAt wr d s rs D gd gh gn H nm B)) (fun i _ _ => P - (intOf i).toNat)
  case atStart => exact ⟨0, [], Nat.zero_le _, rfl, by rw [offL_zero]; rfl, hide rfl, HJ0, H0⟩
  case round =>
    clear H0 HJ0 hsz0 hsd0 hsh0 HSZ
    obtain ⟨k, pre, hk, rfl, rfl, HPR, HJ, HA⟩ := hrel
    by_cases hkP : k < P
    · have hkPi : (k : Int) < (P : Int) := by omega
      have hat := HOL.out k
      have hc1 : wr.cell? ⟨gd, 0, none⟩ = some (.pointer (some ⟨d, 0, none⟩)) := by rw [HA.out.bd.cell]; rfl
      have hc2 : wr.cell? ⟨gn, 0, none⟩ = some (.string nm) := by rw [HA.out.bn.cell]; rfl
      have HRDk := hide (fun (W : World) (hW : DkAt W d s rs D) => HRD0.out W hW (offL ls k) hat)
      by_cases hkl : k < ls.length
      · obtain ⟨t, ht⟩ := HAT.out k hkl
        have hnx := HNX.out k hkl
        have hof := offL_succ hkl
        have HRA : Hid (∀ V : World, RW nm ls pre (k, plK nm ls k) wr V) := hide (fun V => by
          have hpl : pre.length = k := by rw [HPR.out, wls_len]
          exact ⟨by rw [hpl]; exact hkl, by rw [hpl]; exact HPR.out, by rw [hpl]⟩)
        have HM : Hid (pre ++ [(k, plK nm ls k)] = wls nm ls (k + 1)) := hide (by rw [wls_succ, HPR.out])
        have HPK : Hid (plK nm ls k = (nm, offL ls k + 2, (ls.getD k []).length)) := hide rfl
        obtain ⟨ys, HYS⟩ : ∃ ys, Hid ((b.drop (offL ls k)).take 2 = ys) := ⟨_, hide rfl⟩
        have hys : ys = [(((ls.getD k []).length / 256 : Nat) : Int), (((ls.getD k []).length % 256 : Nat) : Int)] := by rw [← HYS.out, ht]; rfl
        have HRD := HRDk
        rw [HYS.out] at HRD
        have HYB : Hid (isB ys) := hide (by rw [← HYS.out]; exact (HBB.out.dropS _).takeS _)
        have HYL : Hid (ys.length = 2) := hide (by rw [hys]; rfl)
        have hyl2 : (2 : Nat) ≤ 2 := by omega
        have HYV : Hid (rdV ys 0 2 = (((ls.getD k []).length : Nat) : Int)) := hide (by rw [hys, (rd_two _ _).1]; omega)
        have HYE : Hid (rdE 2 0 2 = 0) := hide (rd_two 0 0).2
        have HON := hide hof
        clear ht hys HYS HRDk hof
        generalize hvv : (ls.getD k []).length = vv at *
        obtain ⟨on, HOO⟩ : ∃ on, Hid (offL ls (k + 1) = on) := ⟨_, hide rfl⟩
        rw [HOO.out] at HON
        generalize hat' : offL ls k = at' at *
        clear hvv hat'
        obtain ⟨hn1, hn2⟩ := hnx
        have hge : ¬ (b.length : Int) < ((at' + 2 + vv : Nat) : Int) := by omega
        have hge2 : decide ((b.length : Int) < (at' : Int) + 2 + (vv : Int)) = false := decide_eq_false (by omega)
        gi_wp2_with fail
        refine ⟨trivial, (callsIn_wide.2 (HRD.out _ HA.out.dk)).mono ?_⟩
        rintro e w1 ⟨v, rfl, ho1, hb1⟩
        obtain ⟨va, vc, rfl, hs1⟩ := ho1.sl' HYB.out (by rw [HYL.out]; omega)
        rw [HYL.out] at hs1 ⊢
        have HS1 := hide hs1
        have HA1 := hide (HA.out.below hb1)
        have HJ1 := hide (hJ _ wr w1 none HJ.out ⟨hb1.os, hb1.tape, hb1.output, hb1.size, fun i hi _ => hb1.block i hi⟩ (fun r e => by cases e))
        have HB1 := hide hb1
        clear hs1 ho1 hb1 hc1 hc2
        gi_wp2_with fail
        refine ⟨trivial, (callsIn_wide.2 (uint16_any _ _ _ _ _ _ HS1.out)).mono ?_⟩
        rintro e w2 ⟨rfl, rfl⟩
        rw [HYV.out, HYE.out]
        have hc3 : w1.cell? ⟨gn, 0, none⟩ = some (.string nm) := by rw [HA1.out.bn.cell]; rfl
        gi_wp2_with (first | (refine istep_buildPl WideF.wide rfl rfl rfl rfl ?_) | (refine istep_alloc WideF.wide zPl rfl ?_))
        intro w3 g3 hg3 hle3 hb3
        have HG3 := hide hg3
        have HL3 := hide hle3
        have HB3 := hide (on_below HB1.out hb3)
        have HA3 := hide (HA1.out.below hb3)
        have HJ3 := hide (hJ _ w1 w3 none HJ1.out ⟨hb3.os, hb3.tape, hb3.output, hb3.size, fun i hi _ => hb3.block i hi⟩ (fun r e => by cases e))
        clear hg3 hle3 hb3 hc3
        gi_wp2_with (refine istep_storeA WideF.wide wPl rfl rfl rfl HG3.out rfl (One.pl (nm, at' + 2, vv)) rfl ?_)
        intro w4 hg4 hbut
        have hgw : wr.heap.size ≤ g3 := Nat.le_trans HB1.out.size HL3.out
        have HG4 := hide hg4
        have HB4 := hide (HB3.out.trans (hbut.below hgw))
        have HA4 := hide (HA.out.below HB4.out)
        have HJ4 := hide (hJ _ wr w4 none HJ.out ⟨HB4.out.os, HB4.out.tape, HB4.out.output, HB4.out.size, fun i hi _ => HB4.out.block i hi⟩ (fun r e => by cases e))
        clear hg4 hbut HG3 HL3 HB3 HA3 HJ3 HB1 HA1 HJ1 HS1
        gi_wp2_with (first | (refine istep_loadA WideF.wide wPl rfl rfl HG4.out rfl ?_))
        refine ⟨trivial, (callsIn_wide.2 (end_any (nm, at' + 2, vv) _ (by simp only; omega))).mono ?_⟩
        rintro e w5 ⟨rfl, hb5⟩
        have HG5 := hide (HG4.out.on hb5)
        have HB5 := hide (on_below HB4.out hb5)
        have HJ5 := hide (hJ _ wr w5 none HJ.out ⟨HB5.out.os, HB5.out.tape, HB5.out.output, HB5.out.size, fun i hi _ => HB5.out.block i hi⟩ (fun r e => by cases e))
        have HA5 := hide (HA.out.below HB5.out)
        have HBG : Hid (B ≤ g3) := hide (by have h1 := HA.out.le.1; have h2 := HA.out.bd.lt; omega)
        clear hb5 HG4 HB4 HA4 HJ4
        try simp only at hge
        obtain ⟨fn, tmps, assign, body, hy, hR⟩ := hY pre (k, plK nm ls k) wr w5 HJ.out HB5.out HJ5.out (HRA.out w5)
        simp only [encW] at hy
        rw [HPK.out] at hy
        gi_wp2_with (first | (refine istep_loadA WideF.wide wPl rfl rfl HG5.out rfl ?_))
        refine hR.mono ?_
        rintro r W7 (⟨rfl, hJ7, hk7⟩ | ⟨rfl, hJx7⟩)
        · have HJ7 := hide hJ7
          have HA7 := hide (HA5.out.kb hk7)
          have HG7 := hide (hk7.rest _ _ _ HBG.out (by decide) HG5.out)
          clear hJ7 hk7 hy hR HJ HA HJ5 HA5 HG5 HPR HB5 HRD HRA
          gi_wp2_with (first | (refine istep_loadA WideF.wide wPl rfl rfl HG7.out rfl ?_))
          refine ⟨trivial, (callsIn_wide.2 (end_any (nm, at' + 2, vv) _ (by simp only; omega))).mono ?_⟩
          rintro e w8 ⟨rfl, hb8⟩
          have HA8 := hide (HA7.out.below hb8)
          have HJ8 := hide (hJ _ W7 w8 none HJ7.out ⟨hb8.os, hb8.tape, hb8.output, hb8.size, fun i hi _ => hb8.block i hi⟩ (fun r e => by cases e))
          clear hb8 HA7 HJ7 HG7
          gi_wp2
          go_roundw
          case rel => exact ⟨k + 1, _, by omega, by go_num, by rw [HOO.out, HON.out]; rfl, HM.out.symm ▸ hide rfl, HJ8, HA8⟩
          case measure => simp only [intOf]; omega
        · have HJx7 := hide hJx7
          clear hJx7 hy hR HJ HA HJ5 HA5 HG5 HPR HB5 HRD HRA
          gi_wp2
          refine bodyPost_ret (results_none rfl _ _ _) rfl ?_
          exact ⟨⟨_, rfl⟩, .inr ⟨_, ⟨k + 1, by omega, HM.out⟩, HJx7.out⟩⟩
      · have hke : k = ls.length := by omega
        have hen := HEN.out (by omega)
        rw [← hke] at hen
        have HFIN : Hid (pre = wls nm ls ls.length) := hide (by rw [← hke]; exact HPR.out)
        by_cases h2 : (b.drop (offL ls k)).length < 2
        · obtain ⟨ys, HYS⟩ : ∃ ys, Hid ((b.drop (offL ls k)).take 2 = ys) := ⟨_, hide rfl⟩
          have HRD := HRDk
          rw [HYS.out] at HRD
          have HYB : Hid (isB ys) := hide (by rw [← HYS.out]; exact (HBB.out.dropS _).takeS _)
          have hyl : ys.length < 2 := by rw [← HYS.out, List.length_take]; omega
          have HYE0 := rd_few hyl
          obtain ⟨yl, HYL⟩ : ∃ yl, Hid (ys.length = yl) := ⟨_, hide rfl⟩
          rw [HYL.out] at HYE0 hyl
          have hyl2 : yl ≤ 2 := by omega
          have HYE := hide HYE0
          obtain ⟨vv, hvv⟩ : ∃ vv : Nat, rdV ys 0 2 = (vv : Int) := ⟨(rdV ys 0 2).toNat, by have := (rdV_bd ys HYB.out 0 2).1; omega⟩
          have HYV := hide hvv
          have hvb : vv ≤ 65535 := by have := (rdV_bd ys HYB.out 0 2).2; rw [hvv] at this; omega
          clear HYE0 hvv hen h2 HYS hke
          generalize hat' : offL ls k = at' at *
          clear hat'
          gi_wp2_with fail
          refine ⟨trivial, (callsIn_wide.2 (HRD.out _ HA.out.dk)).mono ?_⟩
          rintro e w1 ⟨v, rfl, ho1, hb1⟩
          obtain ⟨va, vc, rfl, hs1⟩ := ho1.sl' HYB.out (by rw [HYL.out]; omega)
          rw [HYL.out] at hs1 ⊢
          have HS1 := hide hs1
          have HA1 := hide (HA.out.below hb1)
          have HJ1 := hide (hJ _ wr w1 none HJ.out ⟨hb1.os, hb1.tape, hb1.output, hb1.size, fun i hi _ => hb1.block i hi⟩ (fun r e => by cases e))
          have HB1 := hide hb1
          clear hs1 ho1 hb1 hc1 hc2
          gi_wp2_with fail
          refine ⟨trivial, (callsIn_wide.2 (uint16_any _ _ _ _ _ _ HS1.out)).mono ?_⟩
          rintro e w2 ⟨rfl, rfl⟩
          rw [HYV.out, HYE.out]
          have hc3 : w1.cell? ⟨gn, 0, none⟩ = some (.string nm) := by rw [HA1.out.bn.cell]; rfl
          gi_wp2_with (first | (refine istep_buildPl WideF.wide rfl rfl rfl rfl ?_) | (refine istep_alloc WideF.wide zPl rfl ?_))
          intro w3 g3 hg3 hle3 hb3
          have HG3 := hide hg3
          have HL3 := hide hle3
          have HB3 := hide (on_below HB1.out hb3)
          have HA3 := hide (HA1.out.below hb3)
          have HJ3 := hide (hJ _ w1 w3 none HJ1.out ⟨hb3.os, hb3.tape, hb3.output, hb3.size, fun i hi _ => hb3.block i hi⟩ (fun r e => by cases e))
          clear hg3 hle3 hb3 hc3
          gi_wp2_with (refine istep_storeA WideF.wide wPl rfl rfl rfl HG3.out rfl (One.pl (nm, at' + 2, vv)) rfl ?_)
          intro w4 hg4 hbut
          have hgw : wr.heap.size ≤ g3 := Nat.le_trans HB1.out.size HL3.out
          have HG4 := hide hg4
          have HB4 := hide (HB3.out.trans (hbut.below hgw))
          have HA4 := hide (HA.out.below HB4.out)
          have HJ4 := hide (hJ _ wr w4 none HJ.out ⟨HB4.out.os, HB4.out.tape, HB4.out.output, HB4.out.size, fun i hi _ => HB4.out.block i hi⟩ (fun r e => by cases e))
          clear hg4 hbut HG3 HL3 HB3 HA3 HJ3 HB1 HA1 HJ1 HS1
          gi_wp2
          refine ⟨trivial, ?_⟩
          gi_wp2
          refine ⟨(fun f h => by cases h), ?_⟩
          gi_wp2
          refine bodyPost_ret (results_none rfl _ _ _) rfl ?_
          exact ⟨⟨_, rfl⟩, .inl ⟨_, HFIN.out, HJ4.out⟩⟩
        · obtain ⟨x, c, t, ht⟩ : ∃ x c t, b.drop (offL ls k) = x :: c :: t := by
            match hm : b.drop (offL ls k) with
            | [] => simp [hm] at h2
            | [_] => simp [hm] at h2
            | x :: c :: t => exact ⟨x, c, t, rfl⟩
          rw [ht] at hen
          have hlo := wl1_cons hen
          have hbt : b.length = offL ls k + 2 + t.length := by
            have := congrArg List.length ht
            rw [List.length_drop] at this
            simp at this
            omega
          have hxb : isB (x :: c :: t) := by rw [← ht]; exact HBB.out.dropS _
          have hx0 := hxb x (by simp)
          have hc0 := hxb c (by simp)
          obtain ⟨ys, HYS⟩ : ∃ ys, Hid ((b.drop (offL ls k)).take 2 = ys) := ⟨_, hide rfl⟩
          have HRD := HRDk
          rw [HYS.out] at HRD
          have hys : ys = [x, c] := by rw [← HYS.out, ht]; rfl
          have HYB : Hid (isB ys) := hide (by rw [← HYS.out]; exact (HBB.out.dropS _).takeS _)
          have HYL : Hid (ys.length = 2) := hide (by rw [hys]; rfl)
          have hyl2 : (2 : Nat) ≤ 2 := by omega
          obtain ⟨vv, hvv⟩ : ∃ vv : Nat, (x * 256 + c) = (vv : Int) := ⟨(x * 256 + c).toNat, by omega⟩
          have HYV : Hid (rdV ys 0 2 = (vv : Int)) := hide (by rw [hys, (rd_two _ _).1, hvv])
          have HYE : Hid (rdE 2 0 2 = 0) := hide (rd_two 0 0).2
          rw [hvv] at hlo
          have hgt : (b.length : Int) < ((offL ls k + 2 + vv : Nat) : Int) := by omega
          have hvb : vv ≤ 70000 := by omega
          have hgt2 : decide ((b.length : Int) < (offL ls k : Int) + 2 + (vv : Int)) = true := decide_eq_true (by omega)
          clear ht hys HYS hen h2 hx0 hc0 hxb hvv hlo hbt hke
          generalize hat' : offL ls k = at' at *
          clear hat'
          gi_wp2_with fail
          refine ⟨trivial, (callsIn_wide.2 (HRD.out _ HA.out.dk)).mono ?_⟩
          rintro e w1 ⟨v, rfl, ho1, hb1⟩
          obtain ⟨va, vc, rfl, hs1⟩ := ho1.sl' HYB.out (by rw [HYL.out]; omega)
          rw [HYL.out] at hs1 ⊢
          have HS1 := hide hs1
          have HA1 := hide (HA.out.below hb1)
          have HJ1 := hide (hJ _ wr w1 none HJ.out ⟨hb1.os, hb1.tape, hb1.output, hb1.size, fun i hi _ => hb1.block i hi⟩ (fun r e => by cases e))
          have HB1 := hide hb1
          clear hs1 ho1 hb1 hc1 hc2
          gi_wp2_with fail
          refine ⟨trivial, (callsIn_wide.2 (uint16_any _ _ _ _ _ _ HS1.out)).mono ?_⟩
          rintro e w2 ⟨rfl, rfl⟩
          rw [HYV.out, HYE.out]
          have hc3 : w1.cell? ⟨gn, 0, none⟩ = some (.string nm) := by rw [HA1.out.bn.cell]; rfl
          gi_wp2_with (first | (refine istep_buildPl WideF.wide rfl rfl rfl rfl ?_) | (refine istep_alloc WideF.wide zPl rfl ?_))
          intro w3 g3 hg3 hle3 hb3
          have HG3 := hide hg3
          have HL3 := hide hle3
          have HB3 := hide (on_below HB1.out hb3)
          have HA3 := hide (HA1.out.below hb3)
          have HJ3 := hide (hJ _ w1 w3 none HJ1.out ⟨hb3.os, hb3.tape, hb3.output, hb3.size, fun i hi _ => hb3.block i hi⟩ (fun r e => by cases e))
          clear hg3 hle3 hb3 hc3
          gi_wp2_with (refine istep_storeA WideF.wide wPl rfl rfl rfl HG3.out rfl (One.pl (nm, at' + 2, vv)) rfl ?_)
          intro w4 hg4 hbut
          have hgw : wr.heap.size ≤ g3 := Nat.le_trans HB1.out.size HL3.out
          have HG4 := hide hg4
          have HB4 := hide (HB3.out.trans (hbut.below hgw))
          have HA4 := hide (HA.out.below HB4.out)
          have HJ4 := hide (hJ _ wr w4 none HJ.out ⟨HB4.out.os, HB4.out.tape, HB4.out.output, HB4.out.size, fun i hi _ => HB4.out.block i hi⟩ (fun r e => by cases e))
          clear hg4 hbut HG3 HL3 HB3 HA3 HJ3 HB1 HA1 HJ1 HS1
          gi_wp2_with (first | (refine istep_loadA WideF.wide wPl rfl rfl HG4.out rfl ?_))
          refine ⟨trivial, (callsIn_wide.2 (end_any (nm, at' + 2, vv) _ (by simp only; omega))).mono ?_⟩
          rintro e w5 ⟨rfl, hb5⟩
          have HJ5 := hide (hJ _ w4 w5 none HJ4.out ⟨hb5.os, hb5.tape, hb5.output, hb5.size, fun i hi _ => hb5.block i hi⟩ (fun r e => by cases e))
          clear hb5 HG4 HB4 HA4 HJ4
          try simp only at hgt
          gi_wp2
          refine ⟨(fun f h => by cases h), ?_⟩
          gi_wp2
          refine bodyPost_ret (results_none rfl _ _ _) rfl ?_
          exact ⟨⟨_, rfl⟩, .inl ⟨_, HFIN.out, HJ5.out⟩⟩
    · have hkPi : ¬ (k : Int) < (P : Int) := by omega
      have HFIN : Hid (pre = wls nm ls ls.length) := hide (by rw [HPR.out, show k = ls.length by omega])
      gi_wp2
      go_end0
      exact ⟨⟨_, rfl⟩, .inl (HFIN.out ▸ HJ.out)⟩

end Go.Proofs.YtpocadbhajacaaaGreatDoor

/-
  A range over a function whose round begins with a variable of its own: what stands ahead of the body is handed to it.
-/
namespace Go.Proofs.YtpocadbhajacaaaGreatDoor
open Go.RowKit Go.Shelf
set_option linter.unusedVariables false

section
variable {F : Fence} {n : Nat} {P : Program}
theorem round_A {m : Nat} {fn : FuncId} {tmps : Array Value} {ps : Array Tmp} {assign body : Code} {D : Nat} (hfn : F.fn fn) {args : Array Value} (hps : args.size = ps.size) {W : World} (hB : Bk (lrec fn tmps ps assign body D .ready none) D W) {Post : Ending → World → Prop}
    (hrun : assign.wpIn (F.inRound (D + 1)) m P (Exit.then (fun a' V => Bk (lrec fn tmps ps assign body D .ready none) D V ∧ body.wpIn (F.inRound (D + 1)) m P (fun e _ W' => match e with
      | .normal => Bk (lrec fn tmps ps assign body D .busy none) D W' ∧ Post (.returned (.bool true)) (W'.putObj (D + 1) (.loop (lrec fn tmps ps assign body D .ready none)))
      | .ret => Bk (lrec fn tmps ps assign body D .busy none) D W' ∧ Post (.returned (.bool false)) (W'.putObj (D + 1) (.loop (lrec fn tmps ps assign body D .done (some .ret))))
      | .exit id => Bk (lrec fn tmps ps assign body D .busy none) D W' ∧ Post (.returned (.bool false)) (W'.putObj (D + 1) (.loop (lrec fn tmps ps assign body D .done (some (.exit id)))))
      | .goto u => Bk (lrec fn tmps ps assign body D .busy none) D W' ∧ Post (.returned (.bool false)) (W'.putObj (D + 1) (.loop (lrec fn tmps ps assign body D .done (some (.goto u)))))
      | _ => False) a' (V.putObj (D + 1) (.loop (lrec fn tmps ps assign body D .busy none)))) (fun _ _ _ => False)) { tmps := (ps.zip args).foldl (fun t (p, v) => t.setIfInBounds p v) tmps, defers := [] } W) :
    YieldAt F m P (D + 1) args W Post := by
  refine ⟨fn, _, assign, body, run_yield (P := P) (args := args) hB.loop hps, roundIn_of_wpIn hfn (wpIn_mono hrun ?_)⟩
  intro e0 a0 V hp0
  cases e0 with
  | normal =>
    obtain ⟨hBV, hbody⟩ := hp0
    refine ⟨_, run_beginRound hBV.loop rfl, wpIn_mono hbody ?_⟩
    intro e a3 W3 hp
    cases e with
    | normal => exact ⟨_, _, run_endRound none hp.1.loop, hp.2⟩
    | ret => exact ⟨_, _, run_endRound (some .ret) hp.1.loop, hp.2⟩
    | exit id => exact ⟨_, _, run_endRound (some (.exit id)) hp.1.loop, hp.2⟩
    | goto u => exact ⟨_, _, run_endRound (some (.goto u)) hp.1.loop, hp.2⟩
    | panic ch => exact hp.elim
    | outgrown => exact hp.elim
  | ret => exact hp0.elim
  | exit id => exact hp0.elim
  | goto u => exact hp0.elim
  | panic ch => exact hp0.elim
  | outgrown => exact hp0.elim
theorem rangeB {α : Type} {g : Operand} {ps : Array Tmp} {assign body : Code} {Q : Exit → Act → World → Prop} {a : Act} {w : World}
    (hro : F.round = none) (h1 : 1 ≤ n) {gf : Nat} {lb : Array Value} (hg : a.eval g = .func (.func gf) #[] lb) (hFg : F.fn gf) (eg : ∀ args w, (callFunc gf args).run P w = .ok (.enter gf args) w)
    {encs : α → Array Value} {R : List α → α → World → World → Prop} {Kp : α → World → World → Prop} {S Sp : List α → Prop} (hseq : SeqL F (n - 1) P gf lb encs R Kp S Sp w)
    (hKt : ∀ {x : α} {A B C : World}, Kp x A B → Kp x B C → Kp x A C) (hKb : ∀ (x : α) (W : World) (l : Nat) (o o' : Obj), w.heap.size ≤ l → W.heap[l]? = some o → o.isCells = false → Kp x W (W.putObj l o')) (hKw : ∀ (x : α) (A C : World), Below A.heap.size A C → Kp x A C) (hps : ∀ x, (encs x).size = ps.size)
    (hR : ∀ pre x W0, OwnFrom w.heap.size (fun (_ : Unit) W => R pre x W0 W))
    (I : List α → World → Prop) (Ix : Code → List α → World → Prop) (hI : OwnFrom w.heap.size I) (hIx : ∀ c, OwnFrom w.heap.size (Ix c)) (h0 : I [] w) (a₁ : α → Nat → Act) (Ab : α → Nat → World → Prop) (hAb : ∀ x g (V : World) (l : Nat) (r : Loop) (o' : Obj), V.heap[l]? = some (.loop r) → Ab x g V → Ab x g (V.putObj l o'))
    (hassign : ∀ (l : Nat) (x : α) (W : World) (K : Act → World → Prop), (∃ pre W0, R pre x W0 W) → (∀ (g : Nat) (V : World), Below W.heap.size W V → W.heap.size ≤ g → Ab x g V → K (a₁ x g) V) →
      assign.wpIn (F.inRound l) (n - 1 - 1) P (Exit.then K (fun _ _ _ => False)) { tmps := (ps.zip (encs x)).foldl (fun t (p, v) => t.setIfInBounds p v) a.tmps, defers := [] } W)
    (hbody : ∀ (l : Nat) (pre : List α) (x : α) (g : Nat) (W0 W : World), W0.heap.size ≤ g → Ab x g W → I pre W0 → (∀ (k : Nat) (o : Obj), W0.heap[k]? = some o → o.isCells = true → W.heap[k]? = some o) → W0.heap.size ≤ W.heap.size → I pre W → R pre x W0 W → body.wpIn (F.inRound l) (n - 1 - 1) P (ownPostG w.heap.size (Kp x) I Ix (pre ++ [x]) W) (a₁ x g) W)
    (hdone : ∀ (D : Nat) (xs : List α) (W : World), w.heap.size ≤ D → S xs → I xs W → W.heap[D]? = some (.deferred (some [])) → Q .normal { a with defers := { target := .collected D, args := #[] } :: a.defers } W)
    (hstop : ∀ (D : Nat) (c : Code) (pre : List α) (W : World), w.heap.size ≤ D → Sp pre → Ix c pre W → W.heap[D]? = some (.deferred (some [])) → c.wpIn F n P Q { a with defers := { target := .collected D, args := #[] } :: a.defers } W) :
    (Code.rangeFunc g ps assign body).wpIn F n P Q a w := by
  refine wpIn_rangeFunc fun fn hfn => ?_
  rw [hro]
  obtain ⟨W1, hW1⟩ : ∃ W1, (w.alloc (.deferred (some []))).alloc (.loop (lrec fn a.tmps ps assign body w.heap.size .ready none)) = W1 := ⟨_, rfl⟩
  have B1 : Bk (lrec fn a.tmps ps assign body w.heap.size .ready none) w.heap.size W1 := by rw [← hW1]; exact Bk.new w _
  have b1 : Below w.heap.size w W1 := by rw [← hW1]; exact ((Below.refl _ w).alloc (Nat.le_refl _) _).alloc (by simp) _
  have s1 : w.heap.size ≤ W1.heap.size := b1.size
  have far : ∀ {A : World} {row : Option Nat}, (∀ r, row = some r → W1.heap.size ≤ r ∧ ∃ o : Obj, A.heap[r]? = some o ∧ o.isCells = false) → ∀ r, row = some r → w.heap.size ≤ r ∧ ∃ o : Obj, A.heap[r]? = some o ∧ o.isCells = false :=
    fun hr r e => by obtain ⟨hb, o, ho, hw⟩ := hr r e; exact ⟨by omega, o, ho, hw⟩
  have z1 : W1.heap.size = w.heap.size + 2 := by rw [← hW1, World.size_alloc, World.size_alloc]
  refine ⟨w.heap.size + 1, [{ target := .collected w.heap.size, args := #[] }], W1, { target := .fn (.func gf) lb, args := #[.func (.yield (w.heap.size + 1)) #[] #[]] }, W1, gf,
    #[.func (.yield (w.heap.size + 1)) #[] #[]] ++ lb, W1, by rw [← hW1]; exact run_enterLoop_outer _ _ _ _ _, by simp only [resolve, hg]; simp [go_sem], fun f' hf' => by simp [Target.leads] at hf'; subst hf'; exact hFg, by simp [invoke, go_sem, eg], fun _ => h1, ?_⟩
  refine (hseq (w.heap.size + 1) (fun pre W => I pre W ∧ Bk (lrec fn a.tmps ps assign body w.heap.size .ready none) w.heap.size W) (fun pre W => ∃ c, Ix c pre W ∧ Bk (lrec fn a.tmps ps assign body w.heap.size .done (some c)) w.heap.size W) W1 b1
    (fun s A B row hs hg' hr => ⟨hI s A B row hs.1 hg' (far hr), hs.2.own hg' (fun q e => by have := (hr q e).1; omega)⟩)
    (fun s A B row hs hg' hr => by obtain ⟨c, hc, hb⟩ := hs; exact ⟨c, hIx c s A B row hc hg' (far hr), hb.own hg' (fun q e => by have := (hr q e).1; omega)⟩) ?_
    ⟨by rw [← hW1]; exact hI.alloc _ (hI.alloc _ h0), B1⟩).mono ?_
  · rintro pre x W0 W ⟨hi0, hB0⟩ hb0 ⟨hi, hB⟩ hr
    refine round_A hfn (hps x) hB (hassign _ x W _ ⟨pre, W0, hr⟩ (fun g V hbV hgW hab => ?_))
    have hgV : W.grownBy V none := ⟨hbV.os, hbV.tape, hbV.output, hbV.size, fun i hi _ => hbV.block i hi⟩
    have hBV := hB.own hgV (fun q e => by cases e)
    have hiV := hI _ W V none hi hgV (fun q e => by cases e)
    have hrV := hR pre x W0 () W V none hr hgV (fun q e => by cases e)
    have hsV : W.heap.size ≤ V.heap.size := hbV.size
    refine ⟨hBV, ?_⟩
    have hB2 := hBV.put (lrec fn a.tmps ps assign body w.heap.size .busy none)
    have hK2 : Kp x W (V.putObj (w.heap.size + 1) (.loop (lrec fn a.tmps ps assign body w.heap.size .busy none))) := hKt (hKw x W V hbV) (hKb x _ _ _ _ (by omega) hBV.loop rfl)
    refine wpIn_mono (hbody _ pre x g W0 _ (Nat.le_trans hb0.size hgW) (hAb x g V _ _ _ hBV.loop hab) hi0 (fun k o ho hc => ?_) (Nat.le_trans hb0.size (Nat.le_trans hsV (grownBy_putObj' V _ _).size)) (hI.putObj _ hiV (by omega) hBV.loop rfl) ((hR pre x W0).putObj (s := ()) _ hrV (by omega) hBV.loop rfl)) ?_
    · have hk0 : W.heap[k]? = some o := (hb0.block k (Array.getElem?_eq_some_iff.1 ho).1).trans ho
      have hk : V.heap[k]? = some o := (hbV.block k (Array.getElem?_eq_some_iff.1 hk0).1).trans hk0
      rw [World.putObj_heap_other (fun e => by
        subst e
        rw [hBV.loop] at hk
        injection hk with hk
        subst hk
        cases hc)]
      exact hk
    have hmk : ∀ {W3 : World} {r2 : Loop} {o' : Obj}, KeepsFrom w.heap.size (V.putObj (w.heap.size + 1) (.loop (lrec fn a.tmps ps assign body w.heap.size .busy none))) W3 → W3.heap[w.heap.size + 1]? = some (.loop r2) → MarksFrom w.heap.size W (W3.putObj (w.heap.size + 1) o') := fun h1 h2 k hB hq => marks_round hBV.loop h1 h2 k hB ((hbV.block k (Array.getElem?_eq_some_iff.1 hq).1).trans hq)
    intro e a3 W3 hp
    cases e with
    | normal =>
      have hB3 := hB2.keep hp.1
      exact ⟨hB3, .inl ⟨rfl, ⟨hI.putObj _ hp.2.2 (by omega) hB3.loop rfl, hB3.put _⟩, hKt hK2 (hKt hp.2.1 (hKb x _ _ _ _ (by omega) hB3.loop rfl)), hmk hp.1 hB3.loop⟩⟩
    | ret =>
      have hB3 := hB2.keep hp.1
      exact ⟨hB3, .inr ⟨rfl, ⟨.ret, (hIx _).putObj _ hp.2 (by omega) hB3.loop rfl, hB3.put _⟩, hmk hp.1 hB3.loop⟩⟩
    | exit id =>
      have hB3 := hB2.keep hp.1
      exact ⟨hB3, .inr ⟨rfl, ⟨.exit id, (hIx _).putObj _ hp.2 (by omega) hB3.loop rfl, hB3.put _⟩, hmk hp.1 hB3.loop⟩⟩
    | goto u =>
      have hB3 := hB2.keep hp.1
      exact ⟨hB3, .inr ⟨rfl, ⟨.goto u, (hIx _).putObj _ hp.2 (by omega) hB3.loop rfl, hB3.put _⟩, hmk hp.1 hB3.loop⟩⟩
    | panic ch => exact hp.elim
    | outgrown => exact hp.elim
  · rintro e W2 ⟨⟨v, rfl⟩, (⟨xs, hS, hi, hB⟩ | ⟨pre, hSp, c, hi, hB⟩)⟩
    · exact ⟨none, _, run_endLoop (P := P) hB.loop (by simp [lrec]), hdone _ xs _ (Nat.le_refl _) hS (hI.putObj _ hi (by omega) hB.loop rfl) ((World.putObj_heap_other (by omega)).trans hB.mark)⟩
    · exact ⟨some c, _, run_endLoop (P := P) hB.loop (by simp [lrec]), hstop _ c pre _ (Nat.le_refl _) hSp ((hIx c).putObj _ hi (by omega) hB.loop rfl) ((World.putObj_heap_other (by omega)).trans hB.mark)⟩
end

end Go.Proofs.YtpocadbhajacaaaGreatDoor

/-
  How many bytes the first leaves of a file have: sizeOf; a file made ready.
-/
namespace Go.Proofs.YtpocadbhajacaaaGreatDoor
open Go.RowKit Go.Shelf
set_option linter.unusedVariables false
set_option linter.unusedSimpArgs false
set_option maxRecDepth 100000

theorem YieldAt.imp {F : Fence} {m : Nat} {P : Program} {l : Nat} {args : Array Value} {W : World} {R R' : Ending → World → Prop} (h : YieldAt F m P l args W R) (hr : ∀ e w', R e w' → R' e w') : YieldAt F m P l args W R' := by
  obtain ⟨fn, tmps, assign, body, h1, h2⟩ := h
  exact ⟨fn, tmps, assign, body, h1, h2.mono hr⟩
theorem OwnFrom.abides {β : Type} {B : Nat} {J : β → World → Prop} (h : OwnFrom B J) : AbidesFrom B J := fun s W W' row hs hg hr => h s W W' row hs hg (fun r e => by obtain ⟨h1, o, h2, h3⟩ := hr r e; exact ⟨h1, o, h2, Obj.not_cells_of_walk h3⟩)
theorem SeqQ.toL {α : Type} {F : Fence} {n : Nat} {P : Program} {g : Nat} {lb : Array Value} {encs : α → Array Value} {R : List α → α → World → World → Prop} {Kp : α → World → World → Prop} {S Sp : List α → Prop} {w : World} (h : SeqQ F n P g lb encs R Kp S Sp w) : SeqL F n P g lb encs R Kp S Sp w := by
  intro l J Jx W hW hJ hJx hY h0
  exact h l J Jx W hW (OwnFrom.abides hJ) (OwnFrom.abides hJx) (fun pre x W0 W1 a b c d => YieldAt.imp (hY pre x W0 W1 a b c d) (fun e w' hp => by
    rcases hp with ⟨h1, h2, h3, _⟩ | ⟨h1, h2, _⟩
    · exact .inl ⟨h1, h2, h3⟩
    · exact .inr ⟨h1, h2⟩)) h0
theorem blk_loop {g : Nat} {t : TypeId} {cs : List Value} (V : World) (l : Nat) (r : Loop) (o' : Obj) (hl : V.heap[l]? = some (.loop r)) (hx : Blk V g t cs) : Blk (V.putObj l o') g t cs := by
  unfold Blk
  rw [World.putObj_heap_other (fun e => by
    rw [e] at hx
    unfold Blk at hx
    rw [hl] at hx
    cases hx)]
  exact hx
/-- What stands while leaves are passed. -/
structure ZS (w W : World) (b7 b9 k n : Nat) : Prop where
  c7 : Blk W b7 3 [.int .i64 (k : Int)]
  c9 : Blk W b9 3 [.int .i64 (n : Int)]
  ne : b7 ≠ b9
  n9 : w.heap.size ≤ b9
  bel : Below w.heap.size w W
theorem ZS.ck {w W W' : World} {b7 b9 k n : Nat} (h : ZS w W b7 b9 k n) (hk : CK W W') (hb : Below w.heap.size w W') : ZS w W' b7 b9 k n := ⟨h.c7.ck hk, h.c9.ck hk, h.ne, h.n9, hb⟩
theorem ZS.on {w W W' : World} {b7 b9 k n : Nat} (h : ZS w W b7 b9 k n) (hb : Below W.heap.size W W') : ZS w W' b7 b9 k n := ⟨h.c7.on hb, h.c9.on hb, h.ne, h.n9, on_below h.bel hb⟩
section
variable (d s : Nat) (rs : List Rw) (D : Dm) (w : World) (hd : DkAt w d s rs D)
include hd
set_option maxHeartbeats 4000000 in
theorem sizeOf_any (H : Nat) (nm : ByteArray) (k : Nat) (hh : hB H) (hk : k ≤ 281474976710656) (ht : PT w) (hwt : wt rs ≤ 1099511000000) :
    Calls Tryz.prog 43 #[.pointer (some ⟨d, 0, none⟩), .int .i64 (H : Int), .string nm, .int .i64 (k : Int)] w fun r w' => r = .returned (.int .i64 ((offL (wl (2 ^ H) (fl (play rs) nm)) k : Nat) : Int)) ∧ Below w.heap.size w w' := by
  have HSQ0 : Hid (∀ (V : World) (gd gh gn B : Nat), WAt V d s rs D gd gh gn H nm B → SeqL Fence.wide 3 Tryz.prog 77 #[.pointer (some ⟨gd, 0, none⟩), .pointer (some ⟨gn, 0, none⟩), .pointer (some ⟨gh, 0, none⟩)] encW (RW nm (wl (2 ^ H) (fl (play rs) nm))) (fun _ => KB B (FD d D)) (fun ys => ys = wls nm (wl (2 ^ H) (fl (play rs) nm)) (wl (2 ^ H) (fl (play rs) nm)).length) (fun ys => ∃ k, k ≤ (wl (2 ^ H) (fl (play rs) nm)).length ∧ ys = wls nm (wl (2 ^ H) (fl (play rs) nm)) k) V) := hide (fun V gd gh gn B hA => (whole_seq d s rs D gd gh gn H nm B V hA hh hwt).toL)
  have hbl : ∀ j, offL (wl (2 ^ H) (fl (play rs) nm)) j ≤ 1099511000000 := fun j => Nat.le_trans (offL_le (hd.byB nm) j) (Nat.le_trans (play_wt _ _) hwt)
  obtain ⟨ls, HLS⟩ : ∃ ls, Hid (wl (2 ^ H) (fl (play rs) nm) = ls) := ⟨_, hide rfl⟩
  have HOS : Hid (∀ j, j < ls.length → offL ls (j + 1) = offL ls j + 2 + (ls.getD j []).length) := hide (fun j hj => offL_succ hj)
  rw [HLS.out] at HSQ0 hbl ⊢
  have HBL := hide hbl
  have hln : ls.length ≤ 256 := by rw [← HLS.out]; exact Nat.le_trans (wl_le _ _) hh.pow.2
  have HD := hide hd
  have HT := hide ht
  clear hd ht hwt hbl HLS
  refine (callsIn_wide (n := 4)).1 ?_
  refine callsIn_of_wp_marks Tryz.func43 rfl trivial ?_ rfl
  refine wpIn_wide.2 ?_
  simp only [Tryz.ntmps43, List.size_toArray, List.length_cons, List.length_nil, Nat.reduceAdd, Nat.reduceSub, Array.replicate_succ, Array.replicate_zero, List.push_toArray, List.append_toArray, List.nil_append, List.cons_append]
  go_wp2_with fail
  have heq : ∃ W b7 b9, W = (w.alloc (.cells #[.int .i64 (k : Int)] 3)).alloc (.cells #[.int .i64 0] 3) ∧ b7 = w.heap.size ∧ b9 = w.heap.size + 1 ∧ ZS w W b7 b9 k 0 := by
    refine ⟨_, _, _, rfl, rfl, rfl, ?_⟩
    have b1 : Below w.heap.size w (w.alloc (.cells #[.int .i64 (k : Int)] 3)) := (Below.refl _ _).alloc (Nat.le_refl _) _
    have B1 : Blk (w.alloc (.cells #[.int .i64 (k : Int)] 3)) w.heap.size 3 [.int .i64 (k : Int)] := Blk.made _ _ _
    have z1 : (w.alloc (.cells #[.int .i64 (k : Int)] 3)).heap.size = w.heap.size + 1 := World.size_alloc _ _
    generalize w.alloc (.cells #[.int .i64 (k : Int)] 3) = W1 at *
    have b2 : Below W1.heap.size W1 (W1.alloc (.cells #[.int .i64 0] 3)) := (Below.refl _ _).alloc (Nat.le_refl _) _
    have B2 : Blk (W1.alloc (.cells #[.int .i64 0] 3)) W1.heap.size 3 [.int .i64 0] := Blk.made _ _ _
    rw [z1] at B2
    exact ⟨B1.on b2, B2, by omega, by omega, on_below b1 b2⟩
  obtain ⟨W0, b7, b9, hW0, hb7, hb9, hz0⟩ := heq
  rw [← hW0, ← hb9, ← hb7]
  have hlt7 : b7 < W0.heap.size := hz0.c7.lt
  have hlt9 : b9 < W0.heap.size := hz0.c9.lt
  have HFL : Hid (∀ q, FD d D q → q < w.heap.size) := hide (fun q hq => fd_lt HD.out HT.out hq)
  have hw9 : w.heap.size ≤ b9 := hz0.n9
  have D0 := hide (fun (V : World) (hV : Below w.heap.size w V) => HD.out.below hV)
  clear hW0 hb7 hb9
  refine (whole_mk _ _ _ _).mono ?_
  rintro r w3 ⟨gd, gh, gn, rfl, BD, BH, BN, hgd, hgh, hgn, hb3⟩
  have HZ3 := hide (hz0.on hb3)
  have HSQ := hide (HSQ0.out w3 gd gh gn W0.heap.size ⟨D0.out _ HZ3.out.bel, HT.out.below HZ3.out.bel, BD, BH, BN, hgd, hgh, hgn⟩)
  have hs3 : W0.heap.size ≤ w3.heap.size := hb3.size
  clear hb3 BD BH BN hgd hgh hgn hz0
  go_wp2_with fail
  refine (wpIn_wide (n := 4)).1 ?_
  refine rangeB rfl (by decide) (gf := 77) (lb := #[.pointer (some ⟨gd, 0, none⟩), .pointer (some ⟨gn, 0, none⟩), .pointer (some ⟨gh, 0, none⟩)]) rfl trivial (enters_of Tryz.func77 (by kernel_rfl) rfl)
    HSQ.out KB.trans (fun x V l o o' hl h hc => KB.book (B' := w3.heap.size) (fun q hq => by have := HFL.out q hq; have := HZ3.out.bel.size; omega) V l o o' hl h hc) (fun x A C h => KB.below h) (fun _ => rfl) (fun pre x V0 => rw_own _ _ _ pre x V0)
    (fun pre V => pre.length ≤ k ∧ ZS w V b7 b9 k (offL ls pre.length)) (fun c pre V => c = .exit 0 ∧ ZS w V b7 b9 k (offL ls k))
    (fun _ A C row h hg hr => ⟨h.1, h.2.ck (CK.of_grown hg (fun r e => (hr r e).2)) (h.2.bel.grown hg h.2.bel.size (fun r e => by have := (hr r e).1; have := HZ3.out.bel.size; omega))⟩)
    (fun c _ A C row h hg hr => ⟨h.1, h.2.ck (CK.of_grown hg (fun r e => (hr r e).2)) (h.2.bel.grown hg h.2.bel.size (fun r e => by have := (hr r e).1; have := HZ3.out.bel.size; omega))⟩) ⟨Nat.zero_le _, by rw [List.length_nil, offL_zero]; exact HZ3.out⟩ ?act (fun x g V => Blk V g 102 (plV x.2)) (fun x g V l r o' hl hx => blk_loop V l r o' hl hx) ?assign ?body ?done ?stop
  case assign =>
    rintro l x V K ⟨pre, V0, h1, h2, h3⟩ hK
    have hsem := Oper.semAt_some
    simp only [encW]
    clear h1 h2 h3
    gi_wp2_with (refine istep_alloc (.round l) zPl rfl ?_)
    intro V1 g9 hg9 hle9 hb9
    gi_wp2_with (refine istep_storeA (.round l) wPl rfl rfl rfl hg9 rfl (One.pl x.2) rfl ?_)
    intro V2 hg92 hbut9
    have hb92 : Below V.heap.size V V2 := hb9.trans (hbut9.below hle9)
    have hK2 := hK g9 V2 hb92 hle9 hg92
    clear hK
    gi_wp2
    exact hK2
  case stop =>
    rintro D0 c pre V hD hSp ⟨rfl, hz⟩ hK
    have d9 : V.cell? ⟨b9, 0, none⟩ = some (.int .i64 (offL ls k : Int)) := by rw [hz.c9.cell]; rfl
    have HDK := hide hK
    have HBL2 := hide hz.bel
    clear hK hz
    refine wpIn_wide.2 ?_
    go_wp2
    refine ⟨by simp, .inl ⟨_, _, rfl, run_takeDeferred HDK.out, ?_⟩⟩
    refine ⟨.int .i64 (offL ls k : Int), by simp [results, Tryz.f43, go_sem], ?_⟩
    exact ⟨rfl, HBL2.out.trans (belowK_b (w := w) (Nat.le_refl _) _ D0 _ (.deferred none) (by have := HZ3.out.bel.size; omega) HDK.out rfl rfl)⟩
  case done =>
    rintro Dk ys V hD hS ⟨hyk, hz⟩ hK2
    obtain rfl : ys = wls nm ls ls.length := hS
    rw [wls_len] at hyk hz
    have e1 : offL ls ls.length = offL ls k := by unfold offL; rw [List.take_of_length_le (Nat.le_refl _), List.take_of_length_le hyk]
    rw [e1] at hz
    have d9 : V.cell? ⟨b9, 0, none⟩ = some (.int .i64 (offL ls k : Int)) := by rw [hz.c9.cell]; rfl
    have HDK := hide hK2
    have HBL2 := hide hz.bel
    clear hK2 hz e1
    go_wp2
    refine ⟨by simp, .inl ⟨_, _, rfl, run_takeDeferred HDK.out, ?_⟩⟩
    refine ⟨.int .i64 (offL ls k : Int), by simp [results, Tryz.f43, go_sem], ?_⟩
    exact ⟨rfl, HBL2.out.trans (belowK_b (w := w) (Nat.le_refl _) _ Dk _ (.deferred none) (by have := HZ3.out.bel.size; omega) HDK.out rfl rfl)⟩
  case body =>
    rintro l pre ⟨xi, xp⟩ gx V0 V hgx hbx _ hck hsz ⟨hpk, hz⟩ ⟨h1, h2, h3⟩
    have hsem := Oper.semAt_some
    obtain ⟨j, HJ⟩ : ∃ j, Hid (pre.length = j) := ⟨_, hide rfl⟩
    rw [HJ.out] at h1 h3 hz hpk
    obtain ⟨e1, e2⟩ := Prod.mk.inj h3
    subst e1
    have hoff := HOS.out xi h1
    have hob := HBL.out (xi + 1)
    have HP1 : Hid ((pre ++ [(xi, xp)]).length = xi + 1) := hide (by rw [List.length_append, HJ.out]; rfl)
    have hbx2 : Blk V gx 102 (plV xp) := hbx
    rw [e2] at hbx2
    have HBX := hide hbx2
    have hxi : xi ≤ 256 := by omega
    obtain ⟨vv, HVV⟩ : ∃ vv, Hid ((ls.getD xi []).length = vv) := ⟨_, hide rfl⟩
    obtain ⟨oj, HOJ⟩ : ∃ oj, Hid (offL ls xi = oj) := ⟨_, hide rfl⟩
    have HOFF := hide hoff
    rw [HVV.out, HOJ.out] at hoff HOFF
    have HPK : Hid (plK nm ls xi = (nm, oj + 2, vv)) := hide (by unfold plK; rw [HVV.out, HOJ.out])
    rw [HPK.out] at HBX
    rw [HOJ.out] at hz
    have c7 : V.cell? ⟨b7, 0, none⟩ = some (.int .i64 (k : Int)) := by rw [hz.c7.cell]; rfl
    have HZV := hide hz
    clear hz hck hsz h2 h3 e2 hbx hbx2 hgx HPK
    by_cases hjk : xi = k
    · subst hjk
      gi_wp2
      refine ⟨KeepsFrom.refl _ _, rfl, ?_⟩
      rw [HOJ.out]
      exact HZV.out
    · have hjki : ¬ (xi : Int) = (k : Int) := by omega
      gi_wp2_with (refine istep_loadA (.round l) wPl rfl rfl HBX.out rfl ?_)
      refine ⟨trivial, (calls_round (WideF.round l) (end_any (nm, oj + 2, vv) _ (by simp only; omega))).mono ?_⟩
      rintro e V5 ⟨rfl, hb5⟩
      have HZ5 := hide (HZV.out.on hb5)
      have c9 : V5.cell? ⟨b9, 0, none⟩ = some (.int .i64 (oj : Int)) := by rw [HZ5.out.c9.cell]; rfl
      have f9 := HZ5.out.c9.free 0
      have HB5 := hide hb5
      clear hb5 c7
      gi_wp2
      have hbut := But.setCell V5 b9 0 (.int .i64 ((oj + 2 + vv : Nat) : Int))
      refine ⟨((keepsO_below HB5.out).trans (keepsO_but hbut HZ5.out.c9)).from _, (KB.below HB5.out).trans (KB.but hbut hlt9 (fun q hq => by have := HFL.out q hq; omega)), ?_⟩
      show (pre ++ [(xi, xp)]).length ≤ k ∧ ZS w _ b7 b9 k (offL ls (pre ++ [(xi, xp)]).length)
      rw [HP1.out, HOFF.out]
      exact ⟨by omega, HZ5.out.c7.but hbut HZ5.out.ne, HZ5.out.c9.set 0 _, HZ5.out.ne, HZ5.out.n9, HZ5.out.bel.trans (hbut.below HZ5.out.n9)⟩
/-- What ready answers. -/
def reEb (rs : List Rw) (H : Nat) (n : ByteArray) : Int := if wlE (2 ^ H) (fl (play rs) n) < (fl (play rs) n).length then 130 else 0
def reSb (rs : List Rw) (H : Nat) (n : ByteArray) : List Rw := if wlE (2 ^ H) (fl (play rs) n) < (fl (play rs) n).length then rs else crS rs n
set_option maxHeartbeats 1000000 in
theorem readyB_any (H : Nat) (n : ByteArray) (hh : hB H) (hn : nmB n = true) (ht : PT w) (hwt : wt rs + 1 ≤ 1099511000000) :
    Calls Tryz.prog 33 #[.pointer (some ⟨d, 0, none⟩), .int .i64 (H : Int), .string n] w fun r w' => r = .returned (.int .i64 (reEb rs H n)) ∧ OpR w w' d s D (reSb rs H n) := by
  have HH := hide hd
  have HSZ := hide (size_any d s rs D w hd n)
  cases hf : play rs n with
  | none =>
    have hfe : fE rs n = 121 := by simp [fE, hn, hf]
    have hcr : crE rs n = 0 := by simp [crE, hn, hf]
    have hfl : fl (play rs) n = [] := by simp [fl, hf]
    have e1 : reEb rs H n = 0 := by simp [reEb, hfl]
    have e2 : reSb rs H n = crS rs n := by simp [reSb, hfl]
    have hc := create_any d s rs D w hd n hwt
    rw [hcr] at hc
    have HC := hide hc
    rw [e1, e2]
    rw [hfe] at HSZ
    clear hd hc hfe hcr hfl e1 e2 hf hwt hn ht hh
    go_enter Tryz.func33, Tryz.ntmps33
    go_wp2_with (go_at_call 65; refine HSZ.out.mono ?_; rintro r w' ⟨rfl, rfl⟩; simp only [show ¬ ((121 : Int) = 0) by decide, if_false])
    refine HC.out.mono ?_
    rintro r w1 ⟨rfl, ho⟩
    go_wp2
    go_ret
    exact ⟨rfl, ho⟩
  | some xs =>
    have hfe : fE rs n = 0 := by simp [fE, hn, hf]
    have hfl : fl (play rs) n = xs := by simp [fl, hf]
    rw [hfe, hfl] at HSZ
    have hxl : xs.length ≤ 1099511000000 := by
      have := play_wt rs n
      rw [hfl] at this
      omega
    have hso := sizeOf_any d s rs D w hd H n (2 ^ H) hh (by have := hh.pow; omega) ht (by omega)
    rw [offL_all _ _ (wl_le _ _), hfl] at hso
    obtain ⟨P, HP⟩ : ∃ P, Hid (2 ^ H = P) := ⟨_, hide rfl⟩
    have HWP := hide (wrap_powB hh HP.out)
    have hP := hh.pow
    have hH8 := hh.2
    have hHi : (H : Int) ≤ 8 := by omega
    have hcs := crS_some hn hf
    unfold reEb reSb
    rw [hfl, hcs, HP.out]
    rw [HP.out] at hso hP
    obtain ⟨hP1, hP2⟩ := hP
    have hle : wlE P xs ≤ xs.length := by
      have := wlE_le P xs (by rw [← hfl]; exact hd.byB n)
      exact this
    obtain ⟨E, HE⟩ : ∃ E, Hid (wlE P xs = E) := ⟨_, hide rfl⟩
    rw [HE.out] at hso hle ⊢
    generalize xs.length = L at *
    have HSO := hide hso
    clear hd hfe hfl hf hwt hn hcs hso hh ht HE
    by_cases h0 : E < L
    · have h0' : (E : Int) < (L : Int) := by omega
      rw [if_pos h0, if_pos h0]
      go_enter Tryz.func33, Tryz.ntmps33
      go_wp2_with (go_at_call 65; refine HSZ.out.mono ?_; rintro r w' ⟨rfl, rfl⟩; simp only [if_true])
      rw [HWP.out]
      refine HSO.out.mono ?_
      rintro r w1 ⟨rfl, hb1⟩
      go_wp2
      go_ret
      exact ⟨rfl, OpR.below HH.out hb1⟩
    · have h0' : ¬ (E : Int) < (L : Int) := by omega
      rw [if_neg h0, if_neg h0]
      go_enter Tryz.func33, Tryz.ntmps33
      go_wp2_with (go_at_call 65; refine HSZ.out.mono ?_; rintro r w' ⟨rfl, rfl⟩; simp only [if_true])
      rw [HWP.out]
      refine HSO.out.mono ?_
      rintro r w1 ⟨rfl, hb1⟩
      go_wp2
      go_ret
      exact ⟨rfl, OpR.below HH.out hb1⟩
end

end Go.Proofs.YtpocadbhajacaaaGreatDoor

/-
  A range over a function that itself ranges over one while it hands out: what is kept of the books; many marks at a function's end.
-/
namespace Go.Proofs.YtpocadbhajacaaaGreatDoor
open Go.RowKit Go.Shelf
set_option linter.unusedVariables false

/-- All that is no cell is left, but for one book. -/
structure NotesFrom (B q : Nat) (A C : World) : Prop where
  size : A.heap.size ≤ C.heap.size
  same : ∀ (k : Nat) (o : Obj), B ≤ k → k ≠ q → A.heap[k]? = some o → o.isCells = false → C.heap[k]? = some o
theorem NotesFrom.keeps {B B' q : Nat} {A C : World} (h : NotesFrom B q A C) (hq : q < B') (hB : B ≤ B') : KeepsFrom B' A C := ⟨h.size, fun k o h1 h2 h3 => h.same k o (by omega) (by omega) h2 h3⟩
theorem NotesFrom.marks {B q : Nat} {A C : World} (h : NotesFrom B q A C) {r : Loop} (hr : A.heap[q]? = some (.loop r)) : MarksFrom B A C := fun k hB hk => h.same k _ hB (fun e => by
  subst e
  rw [hr] at hk
  cases hk) hk rfl
theorem NotesFrom.pre {B q : Nat} {A V C : World} (hb : Below A.heap.size A V) (h : NotesFrom B q V C) : NotesFrom B q A C := ⟨Nat.le_trans hb.size h.size, fun k o h1 h2 h3 h4 => h.same k o h1 h2 ((hb.block k (Array.getElem?_eq_some_iff.1 h3).1).trans h3) h4⟩
theorem notes_round {B q : Nat} {W W3 : World} {o o' : Obj} (hk : KeepsFrom B (W.putObj q o) W3) : NotesFrom B q W (W3.putObj q o') :=
  ⟨Nat.le_trans (grownBy_putObj' W q o).size (Nat.le_trans hk.size (grownBy_putObj' W3 q o').size), fun k p h1 h2 h3 h4 => by
    rw [World.putObj_heap_other h2]
    exact hk.same k p h1 ((World.putObj_heap_other h2).trans h3) h4⟩
section
variable {F : Fence} {n : Nat} {P : Program}
/-- As SeqL; of a round it knows that all books but the loop's own are left. -/
def SeqM {α : Type} (F : Fence) (n : Nat) (P : Program) (g : Nat) (lb : Array Value) (encs : α → Array Value) (R : List α → α → World → World → Prop) (Kp : α → World → World → Prop) (S Sp : List α → Prop) (w : World) : Prop :=
  ∀ (l : Nat) (J Jx : List α → World → Prop) (W : World), Below w.heap.size w W → l < W.heap.size → OwnFrom W.heap.size J → OwnFrom W.heap.size Jx →
    (∀ pre x W0 W1, J pre W0 → Below W0.heap.size W0 W1 → J pre W1 → R pre x W0 W1 → YieldAt F (n - 1) P l (encs x) W1 fun e W' => (e = .returned (.bool true) ∧ J (pre ++ [x]) W' ∧ Kp x W1 W' ∧ NotesFrom w.heap.size l W1 W') ∨ (e = .returned (.bool false) ∧ Jx (pre ++ [x]) W' ∧ NotesFrom w.heap.size l W1 W')) →
    J [] W → CallsIn F n P g (#[.func (.yield l) #[] #[]] ++ lb) W fun e W' => (∃ v, e = .returned v) ∧ ((∃ xs, S xs ∧ J xs W') ∨ (∃ pre, Sp pre ∧ Jx pre W'))
theorem SeqQ.toM {α : Type} {g : Nat} {lb : Array Value} {encs : α → Array Value} {R : List α → α → World → World → Prop} {Kp : α → World → World → Prop} {S Sp : List α → Prop} {w : World} (h : SeqQ F n P g lb encs R Kp S Sp w) : SeqM F n P g lb encs R Kp S Sp w := by
  intro l J Jx W hW _ hJ hJx hY h0
  exact h l J Jx W hW (OwnFrom.abides hJ) (OwnFrom.abides hJx) (fun pre x W0 W1 a b c d => YieldAt.imp (hY pre x W0 W1 a b c d) (fun e w' hp => by
    rcases hp with ⟨h1, h2, h3, _⟩ | ⟨h1, h2, _⟩
    · exact .inl ⟨h1, h2, h3⟩
    · exact .inr ⟨h1, h2⟩)) h0
theorem rangeM {α : Type} {g : Operand} {ps : Array Tmp} {assign body : Code} {Q : Exit → Act → World → Prop} {a : Act} {w : World}
    (hro : F.round = none) (h1 : 1 ≤ n) {gf : Nat} {lb : Array Value} (hg : a.eval g = .func (.func gf) #[] lb) (hFg : F.fn gf) (eg : ∀ args w, (callFunc gf args).run P w = .ok (.enter gf args) w)
    {encs : α → Array Value} {R : List α → α → World → World → Prop} {Kp : α → World → World → Prop} {S Sp : List α → Prop} (hseq : SeqM F (n - 1) P gf lb encs R Kp S Sp w)
    (hKt : ∀ {x : α} {A B C : World}, Kp x A B → Kp x B C → Kp x A C) (hKb : ∀ (x : α) (W : World) (l : Nat) (o o' : Obj), w.heap.size ≤ l → W.heap[l]? = some o → o.isCells = false → Kp x W (W.putObj l o')) (hKw : ∀ (x : α) (A C : World), Below A.heap.size A C → Kp x A C) (hps : ∀ x, (encs x).size = ps.size)
    (hR : ∀ pre x W0, OwnFrom w.heap.size (fun (_ : Unit) W => R pre x W0 W))
    (I : List α → World → Prop) (Ix : Code → List α → World → Prop) (hI : OwnFrom w.heap.size I) (hIx : ∀ c, OwnFrom w.heap.size (Ix c)) (h0 : I [] w) (a₁ : α → Nat → Act) (Ab : α → Nat → World → Prop) (hAb : ∀ x g (V : World) (l : Nat) (r : Loop) (o' : Obj), V.heap[l]? = some (.loop r) → Ab x g V → Ab x g (V.putObj l o'))
    (hassign : ∀ (l : Nat) (x : α) (W : World) (K : Act → World → Prop), (∃ pre W0, R pre x W0 W) → (∀ (g : Nat) (V : World), Below W.heap.size W V → W.heap.size ≤ g → Ab x g V → K (a₁ x g) V) →
      assign.wpIn (F.inRound l) (n - 1 - 1) P (Exit.then K (fun _ _ _ => False)) { tmps := (ps.zip (encs x)).foldl (fun t (p, v) => t.setIfInBounds p v) a.tmps, defers := [] } W)
    (hbody : ∀ (l : Nat) (pre : List α) (x : α) (g : Nat) (W0 W : World), W0.heap.size ≤ g → Ab x g W → I pre W0 → (∀ (k : Nat) (o : Obj), W0.heap[k]? = some o → o.isCells = true → W.heap[k]? = some o) → W0.heap.size ≤ W.heap.size → I pre W → R pre x W0 W → body.wpIn (F.inRound l) (n - 1 - 1) P (ownPostG w.heap.size (Kp x) I Ix (pre ++ [x]) W) (a₁ x g) W)
    (hdone : ∀ (D : Nat) (xs : List α) (W : World), w.heap.size ≤ D → S xs → I xs W → W.heap[D]? = some (.deferred (some [])) → Q .normal { a with defers := { target := .collected D, args := #[] } :: a.defers } W)
    (hstop : ∀ (D : Nat) (c : Code) (pre : List α) (W : World), w.heap.size ≤ D → Sp pre → Ix c pre W → W.heap[D]? = some (.deferred (some [])) → c.wpIn F n P Q { a with defers := { target := .collected D, args := #[] } :: a.defers } W) :
    (Code.rangeFunc g ps assign body).wpIn F n P Q a w := by
  refine wpIn_rangeFunc fun fn hfn => ?_
  rw [hro]
  obtain ⟨W1, hW1⟩ : ∃ W1, (w.alloc (.deferred (some []))).alloc (.loop (lrec fn a.tmps ps assign body w.heap.size .ready none)) = W1 := ⟨_, rfl⟩
  have B1 : Bk (lrec fn a.tmps ps assign body w.heap.size .ready none) w.heap.size W1 := by rw [← hW1]; exact Bk.new w _
  have b1 : Below w.heap.size w W1 := by rw [← hW1]; exact ((Below.refl _ w).alloc (Nat.le_refl _) _).alloc (by simp) _
  have s1 : w.heap.size ≤ W1.heap.size := b1.size
  have far : ∀ {A : World} {row : Option Nat}, (∀ r, row = some r → W1.heap.size ≤ r ∧ ∃ o : Obj, A.heap[r]? = some o ∧ o.isCells = false) → ∀ r, row = some r → w.heap.size ≤ r ∧ ∃ o : Obj, A.heap[r]? = some o ∧ o.isCells = false :=
    fun hr r e => by obtain ⟨hb, o, ho, hw⟩ := hr r e; exact ⟨by omega, o, ho, hw⟩
  have z1 : W1.heap.size = w.heap.size + 2 := by rw [← hW1, World.size_alloc, World.size_alloc]
  refine ⟨w.heap.size + 1, [{ target := .collected w.heap.size, args := #[] }], W1, { target := .fn (.func gf) lb, args := #[.func (.yield (w.heap.size + 1)) #[] #[]] }, W1, gf,
    #[.func (.yield (w.heap.size + 1)) #[] #[]] ++ lb, W1, by rw [← hW1]; exact run_enterLoop_outer _ _ _ _ _, by simp only [resolve, hg]; simp [go_sem], fun f' hf' => by simp [Target.leads] at hf'; subst hf'; exact hFg, by simp [invoke, go_sem, eg], fun _ => h1, ?_⟩
  refine (hseq (w.heap.size + 1) (fun pre W => I pre W ∧ Bk (lrec fn a.tmps ps assign body w.heap.size .ready none) w.heap.size W) (fun pre W => ∃ c, Ix c pre W ∧ Bk (lrec fn a.tmps ps assign body w.heap.size .done (some c)) w.heap.size W) W1 b1 (by omega)
    (fun s A B row hs hg' hr => ⟨hI s A B row hs.1 hg' (far hr), hs.2.own hg' (fun q e => by have := (hr q e).1; omega)⟩)
    (fun s A B row hs hg' hr => by obtain ⟨c, hc, hb⟩ := hs; exact ⟨c, hIx c s A B row hc hg' (far hr), hb.own hg' (fun q e => by have := (hr q e).1; omega)⟩) ?_
    ⟨by rw [← hW1]; exact hI.alloc _ (hI.alloc _ h0), B1⟩).mono ?_
  · rintro pre x W0 W ⟨hi0, hB0⟩ hb0 ⟨hi, hB⟩ hr
    refine round_A hfn (hps x) hB (hassign _ x W _ ⟨pre, W0, hr⟩ (fun g V hbV hgW hab => ?_))
    have hgV : W.grownBy V none := ⟨hbV.os, hbV.tape, hbV.output, hbV.size, fun i hi _ => hbV.block i hi⟩
    have hBV := hB.own hgV (fun q e => by cases e)
    have hiV := hI _ W V none hi hgV (fun q e => by cases e)
    have hrV := hR pre x W0 () W V none hr hgV (fun q e => by cases e)
    have hsV : W.heap.size ≤ V.heap.size := hbV.size
    refine ⟨hBV, ?_⟩
    have hB2 := hBV.put (lrec fn a.tmps ps assign body w.heap.size .busy none)
    have hK2 : Kp x W (V.putObj (w.heap.size + 1) (.loop (lrec fn a.tmps ps assign body w.heap.size .busy none))) := hKt (hKw x W V hbV) (hKb x _ _ _ _ (by omega) hBV.loop rfl)
    refine wpIn_mono (hbody _ pre x g W0 _ (Nat.le_trans hb0.size hgW) (hAb x g V _ _ _ hBV.loop hab) hi0 (fun k o ho hc => ?_) (Nat.le_trans hb0.size (Nat.le_trans hsV (grownBy_putObj' V _ _).size)) (hI.putObj _ hiV (by omega) hBV.loop rfl) ((hR pre x W0).putObj (s := ()) _ hrV (by omega) hBV.loop rfl)) ?_
    · have hk0 : W.heap[k]? = some o := (hb0.block k (Array.getElem?_eq_some_iff.1 ho).1).trans ho
      have hk : V.heap[k]? = some o := (hbV.block k (Array.getElem?_eq_some_iff.1 hk0).1).trans hk0
      rw [World.putObj_heap_other (fun e => by
        subst e
        rw [hBV.loop] at hk
        injection hk with hk
        subst hk
        cases hc)]
      exact hk
    have hmk : ∀ {W3 : World} {r2 : Loop} {o' : Obj}, KeepsFrom w.heap.size (V.putObj (w.heap.size + 1) (.loop (lrec fn a.tmps ps assign body w.heap.size .busy none))) W3 → W3.heap[w.heap.size + 1]? = some (.loop r2) → NotesFrom w.heap.size (w.heap.size + 1) W (W3.putObj (w.heap.size + 1) o') := fun h1 _ => (notes_round h1).pre hbV
    intro e a3 W3 hp
    cases e with
    | normal =>
      have hB3 := hB2.keep hp.1
      exact ⟨hB3, .inl ⟨rfl, ⟨hI.putObj _ hp.2.2 (by omega) hB3.loop rfl, hB3.put _⟩, hKt hK2 (hKt hp.2.1 (hKb x _ _ _ _ (by omega) hB3.loop rfl)), hmk hp.1 hB3.loop⟩⟩
    | ret =>
      have hB3 := hB2.keep hp.1
      exact ⟨hB3, .inr ⟨rfl, ⟨.ret, (hIx _).putObj _ hp.2 (by omega) hB3.loop rfl, hB3.put _⟩, hmk hp.1 hB3.loop⟩⟩
    | exit id =>
      have hB3 := hB2.keep hp.1
      exact ⟨hB3, .inr ⟨rfl, ⟨.exit id, (hIx _).putObj _ hp.2 (by omega) hB3.loop rfl, hB3.put _⟩, hmk hp.1 hB3.loop⟩⟩
    | goto u =>
      have hB3 := hB2.keep hp.1
      exact ⟨hB3, .inr ⟨rfl, ⟨.goto u, (hIx _).putObj _ hp.2 (by omega) hB3.loop rfl, hB3.put _⟩, hmk hp.1 hB3.loop⟩⟩
    | panic ch => exact hp.elim
    | outgrown => exact hp.elim
  · rintro e W2 ⟨⟨v, rfl⟩, (⟨xs, hS, hi, hB⟩ | ⟨pre, hSp, c, hi, hB⟩)⟩
    · exact ⟨none, _, run_endLoop (P := P) hB.loop (by simp [lrec]), hdone _ xs _ (Nat.le_refl _) hS (hI.putObj _ hi (by omega) hB.loop rfl) ((World.putObj_heap_other (by omega)).trans hB.mark)⟩
    · exact ⟨some c, _, run_endLoop (P := P) hB.loop (by simp [lrec]), hstop _ c pre _ (Nat.le_refl _) hSp ((hIx c).putObj _ hi (by omega) hB.loop rfl) ((World.putObj_heap_other (by omega)).trans hB.mark)⟩

/-- A mark among what is deferred. -/
def dmk (D : Nat) : Deferred := { target := .collected D, args := #[] }
/-- What marks stand. -/
def MK (Ds : List Nat) (V : World) : Prop := ∀ D, D ∈ Ds → V.heap[D]? = some (.deferred (some []))
/-- A function leaves with many marks. -/
theorem leaves_marks {fn : Func} {tmps : Array Value} {R : Ending → World → Prop} {B : Nat} {J : World → Prop} (hJ : ∀ V D, J V → B ≤ D → V.heap[D]? = some (.deferred (some [])) → J (V.putObj D (.deferred none))) (fin : ∀ V, J V → LeavesIn F n P fn tmps R [] .returning V) :
    ∀ (Ds : List Nat) (V : World), Ds.Nodup → (∀ D ∈ Ds, B ≤ D) → MK Ds V → J V → LeavesInM F n P fn tmps R (Ds.map dmk) .returning V
  | [], V, _, _, _, h => fin V h
  | D :: Ds, V, hn, hB, hm, h => by
    obtain ⟨h1, h2⟩ := List.nodup_cons.1 hn
    have hD := hm D (by simp)
    exact ⟨by simp, .inl ⟨D, _, rfl, run_takeDeferred hD, leaves_marks hJ fin Ds _ h2 (fun E hE => hB E (by simp [hE])) (fun E hE => (World.putObj_heap_other (fun e => h1 (by rw [← e]; exact hE))).trans (hm E (by simp [hE]))) (hJ V D h (hB D (by simp)) hD)⟩⟩
theorem round_wide {n m : Nat} {l l' : Nat} {f : FuncId} {tmps : Array Value} {assign body : Code} {w : World} {R : Ending → World → Prop} (h : RoundIn Fence.wide n P l f tmps assign body w R) : RoundIn (Fence.wide.inRound l') m P l f tmps assign body w R := ⟨trivial, fun c cs _ => h.2 c cs (room_wide _)⟩
end

end Go.Proofs.YtpocadbhajacaaaGreatDoor

/-
  The way through a height's places: places and what it hands out.
-/
namespace Go.Proofs.YtpocadbhajacaaaGreatDoor
open Go.RowKit Go.Shelf
set_option linter.unusedVariables false
set_option linter.unusedSimpArgs false
set_option maxRecDepth 100000

theorem placesB_mk (d : Nat) (h : Int) (w : World) : Calls Tryz.prog 52 #[.pointer (some ⟨d, 0, none⟩), .int .i64 h] w fun r w' => ∃ gd gh, r = .returned (.func (.func 82) #[] #[.pointer (some ⟨gh, 0, none⟩), .pointer (some ⟨gd, 0, none⟩)]) ∧
    Blk w' gd 26 [.pointer (some ⟨d, 0, none⟩)] ∧ Blk w' gh 3 [.int .i64 h] ∧ w.heap.size ≤ gd ∧ w.heap.size ≤ gh ∧ Below w.heap.size w w' := by
  go_enter Tryz.func52, Tryz.ntmps52
  go_wp2
  go_ret
  have b1 : Below w.heap.size w (w.alloc (.cells #[.pointer (some ⟨d, 0, none⟩)] 26)) := (Below.refl _ _).alloc (Nat.le_refl _) _
  have B1 : Blk (w.alloc (.cells #[.pointer (some ⟨d, 0, none⟩)] 26)) w.heap.size 26 [.pointer (some ⟨d, 0, none⟩)] := Blk.made _ _ _
  generalize hW1 : w.alloc (.cells #[.pointer (some ⟨d, 0, none⟩)] 26) = W1 at *
  have s1 := b1.size
  have b2 : Below W1.heap.size W1 (W1.alloc (.cells #[.int .i64 h] 3)) := (Below.refl _ _).alloc (Nat.le_refl _) _
  have B2 : Blk (W1.alloc (.cells #[.int .i64 h] 3)) W1.heap.size 3 [.int .i64 h] := Blk.made _ _ _
  generalize hW2 : W1.alloc (.cells #[.int .i64 h] 3) = W2 at *
  have z1 : W1.heap.size = w.heap.size + 1 := by rw [← hW1]; exact World.size_alloc _ _
  exact ⟨w.heap.size, w.heap.size + 1, rfl, B1.on b2, by rw [← z1]; exact B2, Nat.le_refl _, by omega, on_below b1 b2⟩
/-- What stands when a height is walked over. -/
structure QAt (w : World) (d s : Nat) (rs : List Rw) (D : Dm) (gd gh H : Nat) (B : Nat) : Prop where
  dk : DkAt w d s rs D
  pt : PT w
  bd : Blk w gd 26 [.pointer (some ⟨d, 0, none⟩)]
  bh : Blk w gh 3 [.int .i64 (H : Int)]
  le : B ≤ gd ∧ B ≤ gh
section
variable {w w' : World} {d s : Nat} {rs : List Rw} {D : Dm} {gd gh H : Nat} {B : Nat}
theorem QAt.below (h : QAt w d s rs D gd gh H B) (hb : Below w.heap.size w w') : QAt w' d s rs D gd gh H B := ⟨h.dk.below hb, h.pt.below hb, h.bd.on hb, h.bh.on hb, h.le⟩
theorem QAt.kb (h : QAt w d s rs D gd gh H B) (hb : KB B (FD d D) w w') : QAt w' d s rs D gd gh H B :=
  ⟨dk_fd h.dk (fun k hk => hb.keep k hk (fd_lt h.dk h.pt hk)), pt_fd h.pt (fun k hk => hb.keep k hk (fd_lt h.dk h.pt hk)), hb.rest _ _ _ h.le.1 (by decide) h.bd, hb.rest _ _ _ h.le.2 (by decide) h.bh, h.le⟩
theorem QAt.grown {row : Option Nat} {E : Nat} (h : QAt w d s rs D gd gh H B) (hE : ∀ k, FD d D k → k < E) (hg : w.grownBy w' row) (hr : ∀ r, row = some r → E ≤ r ∧ ∃ o : Obj, w.heap[r]? = some o ∧ o.isCells = false) : QAt w' d s rs D gd gh H B := by
  have hk : ∀ k, FD d D k → w'.heap[k]? = w.heap[k]? := fun k hq => hg.block k (fd_lt h.dk h.pt hq) (fun e => by have := (hr k e.symm).1; have := hE k hq; omega)
  have hck := CK.of_grown hg (fun r e => (hr r e).2)
  exact ⟨dk_fd h.dk hk, pt_fd h.pt hk, h.bd.ck hck, h.bh.ck hck, h.le⟩
end
theorem mk_cons {Ds : List Nat} {D : Nat} {V : World} (h : V.heap[D]? = some (.deferred (some []))) (k : MK Ds V) : MK (D :: Ds) V := fun E hE => by
  rcases List.mem_cons.1 hE with rfl | hE
  · exact h
  · exact k E hE
theorem nd_cons {Ds : List Nat} {D E : Nat} (h : D ∉ Ds) (hE : E ≤ D) (k : Ds.Nodup ∧ ∀ D ∈ Ds, E ≤ D) : (D :: Ds).Nodup ∧ ∀ C ∈ D :: Ds, E ≤ C :=
  ⟨List.nodup_cons.2 ⟨h, k.1⟩, fun C hC => by
    rcases List.mem_cons.1 hC with rfl | hC
    · exact hE
    · exact k.2 C hC⟩
/-- What is handed out: a place. -/
def encPl (x : Plc) : Array Value := #[.agg (plV x).toArray]
def RPl (F : ByteArray → Option (List Int)) (H n : Nat) (pre : List Plc) (x : Plc) (W0 W : World) : Prop := pre.length < n ∧ pre = plsL F H pre.length ∧ x = plL F H pre.length
theorem rpl_own (F : ByteArray → Option (List Int)) (H n B0 : Nat) (pre : List Plc) (x : Plc) (W0 : World) : OwnFrom B0 (fun (_ : Unit) W => RPl F H n pre x W0 W) := fun _ W W' row h hg hr => h
set_option maxHeartbeats 4000000 in
theorem placesB_seq (d s : Nat) (rs : List Rw) (D : Dm) (gd gh H n B : Nat) (w : World) (h : QAt w d s rs D gd gh H B) (hh : hB H) (hn : CnL (play rs) H n) (hwt : wt rs ≤ 1099511000000) (hBw : B ≤ w.heap.size) (hFD : ∀ k, FD d D k → k < B) :
    SeqM Fence.wide 4 Tryz.prog 82 #[.pointer (some ⟨gh, 0, none⟩), .pointer (some ⟨gd, 0, none⟩)] encPl (RPl (play rs) H n) (fun _ => KB B (FD d D)) (fun ys => ys = plsL (play rs) H n) (fun ys => ∃ k, k ≤ n ∧ ys = plsL (play rs) H k) w := by
  intro l0 J Jx W hW hl0 hJ hJx hY h0
  have H0 := hide (h.below hW)
  have HJ0 := hide h0
  have HN := hide hn
  have HH := hide hh
  have hnb : n ≤ 1048576 := hn.le
  have HSQ0 : Hid (∀ (nm : ByteArray) (V : World) (ed eh en : Nat), WAt V d s rs D ed eh en H nm B → SeqM Fence.wide 3 Tryz.prog 77 #[.pointer (some ⟨ed, 0, none⟩), .pointer (some ⟨en, 0, none⟩), .pointer (some ⟨eh, 0, none⟩)] encW (RW nm (wl (2 ^ H) (fl (play rs) nm))) (fun _ => KB B (FD d D)) (fun ys => ys = wls nm (wl (2 ^ H) (fl (play rs) nm)) (wl (2 ^ H) (fl (play rs) nm)).length) (fun ys => ∃ k, k ≤ (wl (2 ^ H) (fl (play rs) nm)).length ∧ ys = wls nm (wl (2 ^ H) (fl (play rs) nm)) k) V) := hide (fun nm V ed eh en hA => (whole_seq d s rs D ed eh en H nm B V hA hh hwt).toM)
  obtain ⟨P, HP⟩ : ∃ P, Hid (2 ^ H = P) := ⟨_, hide rfl⟩
  have HWP := hide (wrap_powB hh HP.out)
  have hP := hh.pow
  rw [HP.out] at hP HSQ0
  obtain ⟨hPlo, hPhi⟩ := hP
  have hH8 := hh.2
  have hHi : (H : Int) ≤ 8 := by omega
  have HBw := hide hBw
  have HFD := hide hFD
  have hWw : w.heap.size ≤ W.heap.size := hW.size
  clear h hn hW h0 hh hwt hBw hFD
  refine callsIn_of_wp_marks Tryz.func82 rfl trivial ?_ rfl
  simp only [Tryz.ntmps82, List.size_toArray, List.length_cons, List.length_nil, Nat.reduceAdd, Nat.reduceSub, Array.replicate_succ, Array.replicate_zero, List.push_toArray, List.append_toArray, List.nil_append, List.cons_append]
  refine wpIn_wide.2 ?_
  go_wp2_with fail
  go_step3
  go_wp2_with fail
  go_step3
  go_wp2_with fail
  have CY : Blk (W.alloc (.cells #[.func (.yield l0) #[] #[]] 144)) W.heap.size 144 [.func (.yield l0) #[] #[]] := Blk.made W _ [.func (.yield l0) #[] #[]]
  have hb1 : Below W.heap.size W (W.alloc (.cells #[.func (.yield l0) #[] #[]] 144)) := (Below.refl _ _).alloc (Nat.le_refl _) _
  have H1 := hide (H0.out.below hb1)
  have HJ1 := hide (hJ _ W _ none HJ0.out ⟨hb1.os, hb1.tape, hb1.output, hb1.size, fun i hi _ => hb1.block i hi⟩ (fun r e => by cases e))
  have HC1 := hide CY
  have hs1 : W.heap.size ≤ (W.alloc (.cells #[.func (.yield l0) #[] #[]] 144)).heap.size := hb1.size
  clear hb1 CY H0 HJ0
  generalize W.alloc (.cells #[.func (.yield l0) #[] #[]] 144) = W1 at *
  obtain ⟨E, hE⟩ : ∃ E, W.heap.size = E := ⟨_, rfl⟩
  rw [hE] at hJ hJx hl0 hWw hs1 HC1 ⊢
  obtain ⟨yb, hyb⟩ : ∃ yb, E = yb := ⟨_, rfl⟩
  have hEy : E ≤ yb := by omega
  rw [hyb] at HC1
  simp only [hyb]
  try rw [hyb]
  have HYB : Hid (E ≤ yb) := hide hEy
  clear hE hyb hEy
  refine (wpIn_wide (n := 4)).1 ?_
  refine wpIn_loop (fun a wr => ∃ (i : Nat) (Ds : List Nat) (u5 u6 u7 u8 u9 u10 u11 u12 u13 u14 u15 u16 u17 u18 u19 u20 u21 u22 u23 u24 u25 u26 u27 u28 u29 u30 u31 u32 u33 u34 u35 : Value), a = ⟨[.func (.yield l0) #[] #[], .pointer (some ⟨gh, 0, none⟩), .pointer (some ⟨gd, 0, none⟩), .pointer (some ⟨yb, 0, none⟩), .int .i64 ((i * P : Nat) : Int), u5, u6, u7, u8, u9, u10, u11, u12, u13, u14, u15, u16, u17, u18, u19, u20, u21, u22, u23, u24, u25, u26, u27, u28, u29, u30, u31, u32, u33, u34, u35].toArray, Ds.map dmk⟩ ∧ i * P ≤ n ∧ Hid (J (plsL (play rs) H (i * P)) wr) ∧ Hid (QAt wr d s rs D gd gh H B) ∧ Hid (Blk wr yb 144 [.func (.yield l0) #[] #[]]) ∧ Hid (MK Ds wr) ∧ Hid (Ds.Nodup ∧ (∀ D ∈ Ds, E ≤ D)) ∧ E ≤ wr.heap.size) (fun a _ => n + 1 - (intOf (a.tmps.getD 4 undef)).toNat) ⟨0, [], _, _, _, _, _, _, _, _, _, _, _, _, _, _, _, _, _, _, _, _, _, _, _, _, _, _, _, _, _, _, _, by rw [Nat.zero_mul]; rfl, by omega, by rw [Nat.zero_mul]; exact HJ1, H1, HC1, hide (fun _ h => by cases h), hide ⟨List.nodup_nil, fun _ h => by cases h⟩, hs1⟩ ?_
  clear HJ1 H1 HC1 hs1
  rintro _ wr ⟨i, Ds, u5, u6, u7, u8, u9, u10, u11, u12, u13, u14, u15, u16, u17, u18, u19, u20, u21, u22, u23, u24, u25, u26, u27, u28, u29, u30, u31, u32, u33, u34, u35, rfl, hi, HJ, HQ, HY, HM, HDs, hse⟩
  have hc1 : wr.cell? ⟨gh, 0, none⟩ = some (.int .i64 (H : Int)) := by rw [HQ.out.bh.cell]; rfl
  have hib : i ≤ 1048576 := by
    have := Nat.mul_le_mul_left i (show 1 ≤ P by omega)
    omega
  by_cases hlt : i * P < 1048576
  · have hnm : bnP (H : Int) ((i * P : Nat) : Int) = lfN H i := by
      rw [bnP_nat HH.out hlt, HP.out, Nat.mul_div_cancel _ (by omega)]
    have hne : bnE (H : Int) ((i * P : Nat) : Int) = 0 := bnE_nat HH.out hlt
    have hnam := bname_any (H : Int) ((i * P : Nat) : Int) wr HQ.out.pt
    rw [hnm, hne] at hnam
    have HNM := hide hnam
    obtain ⟨ls, HLS⟩ : ∃ ls, Hid (wlF (play rs) H i = ls) := ⟨_, hide rfl⟩
    have hat := HN.out.at' HH.out (i := i) (by rw [HP.out]; exact hi) (by rw [HP.out]; exact hlt)
    rw [HP.out, HLS.out] at hat
    have HAT := hide hat
    clear hat
    have hlsP : ls.length ≤ P := by rw [← HLS.out, ← HP.out]; exact wlF_le _ _ _
    have HWL : Hid (wl P (fl (play rs) (lfN H i)) = ls) := hide (by rw [← HLS.out, ← HP.out]; rfl)
    have HPL : Hid (∀ k, k < P → plL (play rs) H (i * P + k) = plK (lfN H i) ls k) := hide (fun k hk => by
      rw [← HLS.out, ← HP.out]
      exact plL_at (by rw [HP.out]; exact hk))
    have HSQ1 := hide (HSQ0.out (lfN H i))
    rw [HWL.out] at HSQ1
    obtain ⟨bg, HBG⟩ : ∃ bg, Hid (i * P = bg) := ⟨_, hide rfl⟩
    rw [HBG.out] at HNM HPL HJ HAT hi hlt
    simp only [HBG.out]
    generalize lfN H i = nm at *
    clear hnm hne hnam HLS HWL
    gi_wp2_with fail
    refine ⟨trivial, (callsIn_wide.2 HNM.out).mono ?_⟩
    rintro e w1 ⟨rfl, hb1⟩
    have HQ1 := hide (HQ.out.below hb1)
    have HJ1 := hide (hJ _ wr w1 none HJ.out ⟨hb1.os, hb1.tape, hb1.output, hb1.size, fun i hi _ => hb1.block i hi⟩ (fun r e => by cases e))
    have HY1 := hide (HY.out.on hb1)
    have HM1 : Hid (MK Ds w1) := hide (fun D hD => (hb1.block D (Array.getElem?_eq_some_iff.1 (HM.out D hD)).1).trans (HM.out D hD))
    have hs1 : E ≤ w1.heap.size := Nat.le_trans hse hb1.size
    clear hb1 hc1 HNM HQ HJ HY HM
    have hc2 : w1.cell? ⟨gd, 0, none⟩ = some (.pointer (some ⟨d, 0, none⟩)) := by rw [HQ1.out.bd.cell]; rfl
    have hc3 : w1.cell? ⟨gh, 0, none⟩ = some (.int .i64 (H : Int)) := by rw [HQ1.out.bh.cell]; rfl
    gi_wp2_with fail
    refine ⟨trivial, (callsIn_wide.2 (whole_mk _ _ _ _)).mono ?_⟩
    rintro e w3 ⟨ed, eh, en, rfl, BD, BH, BN, hed, heh, hen, hb3⟩
    have HQ3 := hide (HQ1.out.below hb3)
    have HJ3 := hide (hJ _ w1 w3 none HJ1.out ⟨hb3.os, hb3.tape, hb3.output, hb3.size, fun i hi _ => hb3.block i hi⟩ (fun r e => by cases e))
    have HY3 := hide (HY1.out.on hb3)
    have HM3 : Hid (MK Ds w3) := hide (fun D hD => (hb3.block D (Array.getElem?_eq_some_iff.1 (HM1.out D hD)).1).trans (HM1.out D hD))
    have hs3 : E ≤ w3.heap.size := Nat.le_trans hs1 hb3.size
    have HSQ := hide (HSQ1.out w3 ed eh en ⟨HQ3.out.dk, HQ3.out.pt, BD, BH, BN, by have := HBw.out; omega, by have := HBw.out; omega, by have := HBw.out; omega⟩)
    have HF3 : Hid (∀ q, FD d D q → q < w3.heap.size) := hide (fun q hq => fd_lt HQ3.out.dk HQ3.out.pt hq)
    have HMG : Hid (∀ (A C : World) (row : Option Nat), MK Ds A → A.grownBy C row → (∀ r, row = some r → w3.heap.size ≤ r ∧ ∃ o : Obj, A.heap[r]? = some o ∧ o.isCells = false) → MK Ds C) := hide (fun A C row hm hg hr D hD => (hg.block D (Array.getElem?_eq_some_iff.1 (hm D hD)).1 (fun e => by
      have h1 := (hr D e.symm).1
      have h2 := (Array.getElem?_eq_some_iff.1 (HM3.out D hD)).1
      omega)).trans (hm D hD))
    clear hb3 hc2 hc3 HQ1 HJ1 HY1 HM1 BD BH BN hed heh hen hse
    gi_wp2_with fail
    refine rangeM rfl (by decide) (gf := 77) (lb := #[.pointer (some ⟨ed, 0, none⟩), .pointer (some ⟨en, 0, none⟩), .pointer (some ⟨eh, 0, none⟩)]) rfl trivial (enters_of Tryz.func77 (by kernel_rfl) rfl)
      HSQ.out KB.trans (fun x V l o o' hl h hc => KB.book (B' := w3.heap.size) HF3.out V l o o' hl h hc) (fun x A C h => KB.below h) (fun _ => rfl) (fun pre x V0 => rw_own _ _ _ pre x V0)
      (fun pre V => pre.length < P ∧ J (plsL (play rs) H (bg + pre.length)) V ∧ QAt V d s rs D gd gh H B ∧ Blk V yb 144 [.func (.yield l0) #[] #[]] ∧ MK Ds V)
      (fun c pre V => (c = .ret ∧ (∃ m, m ≤ n ∧ Jx (plsL (play rs) H m) V) ∧ MK Ds V) ∨ (c = .exit 1 ∧ bg + P ≤ n ∧ J (plsL (play rs) H (bg + P)) V ∧ QAt V d s rs D gd gh H B ∧ Blk V yb 144 [.func (.yield l0) #[] #[]] ∧ MK Ds V))
      (fun pre A C row h hg hr => by
        have hr2 : ∀ r, row = some r → E ≤ r ∧ ∃ o : Obj, A.heap[r]? = some o ∧ o.isCells = false := fun r e => ⟨Nat.le_trans hs3 (hr r e).1, (hr r e).2⟩
        exact ⟨h.1, hJ _ A C row h.2.1 hg hr2, h.2.2.1.grown HF3.out hg hr, h.2.2.2.1.ck (CK.of_grown hg (fun r e => (hr r e).2)), HMG.out A C row h.2.2.2.2 hg hr⟩)
      (fun c pre A C row h hg hr => by
        have hr2 : ∀ r, row = some r → E ≤ r ∧ ∃ o : Obj, A.heap[r]? = some o ∧ o.isCells = false := fun r e => ⟨Nat.le_trans hs3 (hr r e).1, (hr r e).2⟩
        rcases h with ⟨e1, ⟨m, h1, h2⟩, h3⟩ | ⟨e1, h1, h2, h3, h4, h5⟩
        · exact .inl ⟨e1, ⟨m, h1, hJx _ A C row h2 hg hr2⟩, HMG.out A C row h3 hg hr⟩
        · exact .inr ⟨e1, h1, hJ _ A C row h2 hg hr2, h3.grown HF3.out hg hr, h4.ck (CK.of_grown hg (fun r e => (hr r e).2)), HMG.out A C row h5 hg hr⟩)
      ⟨by show 0 < P; omega, HJ3.out, HQ3.out, HY3.out, HM3.out⟩ ?act (fun x g V => Blk V g 102 (plV x.2)) (fun x g V l r o' hl hx => blk_loop V l r o' hl hx) ?assign ?body ?done ?stop
    case assign =>
      rintro l x V K ⟨pre, V0, h1, h2, h3⟩ hK
      have hsem := Oper.semAt_some
      simp only [encW]
      clear h1 h2 h3
      gi_wp2_with (refine istep_alloc (.round l) zPl rfl ?_)
      intro V1 g9 hg9 hle9 hb9
      gi_wp2_with (refine istep_storeA (.round l) wPl rfl rfl rfl hg9 rfl (One.pl x.2) rfl ?_)
      intro V2 hg92 hbut9
      have hb92 : Below V.heap.size V V2 := hb9.trans (hbut9.below hle9)
      have hK2 := hK g9 V2 hb92 hle9 hg92
      clear hK
      gi_wp2
      exact hK2
    case stop =>
      rintro Dk c pre V hD hSp hx hK
      have hDn : Dk ∉ Ds := fun hd => by have := (Array.getElem?_eq_some_iff.1 (HM3.out Dk hd)).1; omega
      rcases hx with ⟨rfl, ⟨m, h1, h2⟩, h3⟩ | ⟨rfl, h1, h2, h3, h4, h5⟩
      · have HX := hide h2
        have HM4 : Hid (MK (Dk :: Ds) V) := hide (mk_cons hK h3)
        have HD4 : Hid ((Dk :: Ds).Nodup ∧ ∀ D ∈ Dk :: Ds, E ≤ D) := hide (nd_cons hDn (by omega) HDs.out)
        clear h2 h3 hK
        gi_wp2
        exact (leaves_marks (B := E) (J := fun V => Jx (plsL (play rs) H m) V) (fun V D h hB hD => hJx _ V _ (some D) h (grownBy_putObj' V D _) (fun r e => by cases e; exact ⟨hB, _, hD, rfl⟩)) (fun V h => ⟨_, results_none rfl _ _ _, ⟨_, rfl⟩, .inr ⟨_, ⟨m, h1, rfl⟩, h⟩⟩) (Dk :: Ds) V HD4.out.1 HD4.out.2 HM4.out HX.out)
      · have HJ4 := hide h2
        have HQ4 := hide h3
        have HY4 := hide h4
        have HM4 : Hid (MK (Dk :: Ds) V) := hide (mk_cons hK h5)
        have HD4 : Hid ((Dk :: Ds).Nodup ∧ ∀ D ∈ Dk :: Ds, E ≤ D) := hide (nd_cons hDn (by omega) HDs.out)
        have hc4 : V.cell? ⟨gh, 0, none⟩ = some (.int .i64 (H : Int)) := by rw [HQ4.out.bh.cell]; rfl
        clear h2 h3 h4 h5 hK
        have e5 : (i + 1) * P = bg + P := by rw [Nat.add_mul, Nat.one_mul, HBG.out]
        have E4 : Hid ((bg : Int) + (P : Int) = (((i + 1) * P : Nat) : Int)) := hide (by rw [e5]; rfl)
        have E5 := hide e5
        clear e5
        gi_wp2_with (rw [HWP.out])
        rw [E4.out]
        have e5 := E5.out
        refine ⟨⟨i + 1, Dk :: Ds, _, _, _, _, _, _, _, _, _, _, _, _, _, _, _, _, _, _, _, _, _, _, _, _, _, _, _, _, _, _, _, rfl, by omega, by rw [e5]; exact HJ4, HQ4, HY4, HM4, HD4, by have := (Array.getElem?_eq_some_iff.1 (HM4.out Dk (by simp))).1; omega⟩, ?_⟩
        show n + 1 - ((((i + 1) * P : Nat) : Int)).toNat < n + 1 - ((bg : Nat) : Int).toNat
        omega
    case done =>
      rintro Dk ys V hD hS ⟨hyk, hj, hq, hy, hm⟩ hK
      obtain rfl : ys = wls nm ls ls.length := hS
      rw [wls_len] at hyk hj
      have hDn : Dk ∉ Ds := fun hd => by have := (Array.getElem?_eq_some_iff.1 (HM3.out Dk hd)).1; omega
      rw [← HAT.out.2 hyk] at hj
      have HX := hide hj
      have HM4 : Hid (MK (Dk :: Ds) V) := hide (mk_cons hK hm)
      have HD4 : Hid ((Dk :: Ds).Nodup ∧ ∀ D ∈ Dk :: Ds, E ≤ D) := hide (nd_cons hDn (by omega) HDs.out)
      clear hj hq hy hm hK
      gi_wp2
      exact (leaves_marks (B := E) (J := fun V => J (plsL (play rs) H n) V) (fun V D h hB hD => hJ _ V _ (some D) h (grownBy_putObj' V D _) (fun r e => by cases e; exact ⟨hB, _, hD, rfl⟩)) (fun V h => ⟨_, results_none rfl _ _ _, ⟨_, rfl⟩, .inl ⟨_, rfl, h⟩⟩) (Dk :: Ds) V HD4.out.1 HD4.out.2 HM4.out HX.out)
    case body =>
      rintro l pre ⟨xi, xp⟩ gx V0 V hgx hbx _ hck hsz ⟨hpk, hj, hq, hy, hm⟩ ⟨h1, h2, h3⟩
      have hsem := Oper.semAt_some
      obtain ⟨j, HJJ⟩ : ∃ j, Hid (pre.length = j) := ⟨_, hide rfl⟩
      rw [HJJ.out] at h1 h3 hpk hj
      obtain ⟨e1, e2⟩ := Prod.mk.inj h3
      subst e1
      have HP1 : Hid ((pre ++ [(xi, xp)]).length = xi + 1) := hide (by rw [List.length_append, HJJ.out]; rfl)
      have hbx2 : Blk V gx 102 (plV xp) := hbx
      have HBX := hide hbx2
      have hpl : plL (play rs) H (bg + xi) = xp := by rw [HPL.out xi hpk, e2]
      have hle := HAT.out.1
      have HYY := hY (plsL (play rs) H (bg + xi)) xp V V hj (Below.refl _ _) hj ⟨by rw [plsL_len]; omega, by rw [plsL_len], by rw [plsL_len, hpl]⟩
      rw [← hpl, ← plsL_succ, hpl] at HYY
      obtain ⟨fn, tmps, assign, body, hyy, hR⟩ := HYY
      simp only [encPl] at hyy
      have c3 : V.cell? ⟨yb, 0, none⟩ = some (.func (.yield l0) #[] #[]) := by rw [hy.cell]; rfl
      have HQV := hide hq
      have HYV := hide hy
      have HMV := hide hm
      clear hj hq hy hm hck hsz h2 h3 e2 hbx hbx2 hgx
      gi_wp2_with (refine istep_loadA (.round l) wPl rfl rfl HBX.out rfl ?_)
      refine (round_wide hR).mono ?_
      rintro r W7 (⟨rfl, hJ7, hk7, hn7⟩ | ⟨rfl, hJx7, hn7⟩)
      · have HJ7 := hide hJ7
        have HQ7 := hide (HQV.out.kb hk7)
        have HY7 := hide (hk7.rest _ _ _ (by have := HBw.out; have := HYB.out; omega) (by decide) HYV.out)
        have HM7 : Hid (MK Ds W7) := hide (fun D hD => hn7.same D _ (by have := HDs.out.2 D hD; omega) (by have := HDs.out.2 D hD; omega) (HMV.out D hD) rfl)
        have HK7 := hide hk7
        have HN7 := hide (hn7.keeps (B' := w3.heap.size) (by omega) (by omega))
        have c1 : W7.cell? ⟨gh, 0, none⟩ = some (.int .i64 (H : Int)) := by rw [HQ7.out.bh.cell]; rfl
        clear hJ7 hk7 hn7 hyy hR
        by_cases hjP : xi = P - 1
        · have hjPi : (xi : Int) = (P : Int) - 1 := by omega
          subst hjP
          gi_wp2_with (rw [HWP.out])
          refine ⟨HN7.out, .inr ⟨rfl, by omega, ?_, HQ7.out, HY7.out, HM7.out⟩⟩
          have := HJ7.out
          rw [show bg + (P - 1) + 1 = bg + P by omega] at this
          exact this
        · have hjPi : ¬ (xi : Int) = (P : Int) - 1 := by omega
          gi_wp2_with (rw [HWP.out])
          refine ⟨HN7.out, HK7.out, ?_⟩
          show (pre ++ [(xi, xp)]).length < P ∧ J (plsL (play rs) H (bg + (pre ++ [(xi, xp)]).length)) W7 ∧ _
          rw [HP1.out]
          exact ⟨by omega, HJ7.out, HQ7.out, HY7.out, HM7.out⟩
      · have HJx7 := hide hJx7
        have HM7 : Hid (MK Ds W7) := hide (fun D hD => hn7.same D _ (by have := HDs.out.2 D hD; omega) (by have := HDs.out.2 D hD; omega) (HMV.out D hD) rfl)
        have HN7 := hide (hn7.keeps (B' := w3.heap.size) (by omega) (by omega))
        clear hJx7 hn7 hyy hR
        gi_wp2
        exact ⟨HN7.out, .inl ⟨rfl, ⟨bg + xi + 1, by omega, HJx7.out⟩, HM7.out⟩⟩
  · have hne : bnE (H : Int) ((i * P : Nat) : Int) = 2 := by
      unfold bnE
      rw [if_neg (fun h => by have := (nmO'_is.1 h); omega)]
    have hnam := bname_any (H : Int) ((i * P : Nat) : Int) wr HQ.out.pt
    rw [hne] at hnam
    have HNM := hide hnam
    have hin : i * P = n := by omega
    have HJn := HJ
    rw [hin] at HJn
    generalize bnP (H : Int) ((i * P : Nat) : Int) = nm at *
    clear hnam hne hin hi hlt
    gi_wp2_with fail
    refine ⟨trivial, (callsIn_wide.2 HNM.out).mono ?_⟩
    rintro e w1 ⟨rfl, hb1⟩
    have HX := hide (hJ _ wr w1 none HJn.out ⟨hb1.os, hb1.tape, hb1.output, hb1.size, fun i hi _ => hb1.block i hi⟩ (fun r e => by cases e))
    have HM1 : Hid (MK Ds w1) := hide (fun D hD => (hb1.block D (Array.getElem?_eq_some_iff.1 (HM.out D hD)).1).trans (HM.out D hD))
    clear hb1
    gi_wp2
    exact (leaves_marks (B := E) (J := fun V => J (plsL (play rs) H n) V) (fun V D h hB hD => hJ _ V _ (some D) h (grownBy_putObj' V D _) (fun r e => by cases e; exact ⟨hB, _, hD, rfl⟩)) (fun V h => ⟨_, results_none rfl _ _ _, ⟨_, rfl⟩, .inl ⟨_, rfl, h⟩⟩) Ds w1 HDs.out.1 HDs.out.2 HM1.out HX.out)

end Go.Proofs.YtpocadbhajacaaaGreatDoor

/-
  How many leaves a height has: Count.
-/
namespace Go.Proofs.YtpocadbhajacaaaGreatDoor
open Go.RowKit Go.Shelf
set_option linter.unusedVariables false
set_option linter.unusedSimpArgs false
set_option maxRecDepth 100000

/-- What stands while leaves are counted. -/
structure ZN (w W : World) (b9 k : Nat) : Prop where
  c9 : Blk W b9 3 [.int .i64 (k : Int)]
  n9 : w.heap.size ≤ b9
  bel : Below w.heap.size w W
theorem ZN.ck {w W W' : World} {b9 k : Nat} (h : ZN w W b9 k) (hk : CK W W') (hb : Below w.heap.size w W') : ZN w W' b9 k := ⟨h.c9.ck hk, h.n9, hb⟩
theorem ZN.on {w W W' : World} {b9 k : Nat} (h : ZN w W b9 k) (hb : Below W.heap.size W W') : ZN w W' b9 k := ⟨h.c9.on hb, h.n9, on_below h.bel hb⟩
section
variable (d s : Nat) (rs : List Rw) (D : Dm) (w : World) (hd : DkAt w d s rs D)
include hd
theorem madeB_any : Calls Tryz.prog 31 #[.pointer (some ⟨d, 0, none⟩)] w fun r w' => r = .returned (.bool true) ∧ w' = w := by
  have HH := hide hd
  have h1 : (0 : Int) < (s : Int) := by have := hd.s1; omega
  clear hd
  go_enter Tryz.func31, Tryz.ntmps31
  go_wp2_with (go_at_call 64; refine (sector_any d s rs D _ HH.out).mono ?_; rintro e w ⟨rfl, rfl⟩)
  go_ret
  exact ⟨by simp; omega, rfl⟩
theorem countB_bad (h : Int) (ht : PT w) (he : bnE h 0 ≠ 0) : Calls Tryz.prog 18 #[.pointer (some ⟨d, 0, none⟩), .int .i64 h] w fun r w' => r = .returned (.tuple #[.int .i64 0, .int .i64 2]) ∧ Below w.heap.size w w' := by
  have e2 : bnE h 0 = 2 := by rcases bnE_bin h 0 with k | k; exact absurd k he; exact k
  have HM := hide (madeB_any d s rs D w hd)
  have HN := hide (bname_any h 0 w ht)
  rw [e2] at HN
  generalize bnP h 0 = nm at *
  clear hd ht he e2
  refine (callsIn_wide (n := 5)).1 ?_
  refine callsIn_of_wp_marks Tryz.func18 rfl trivial ?_ rfl
  refine wpIn_wide.2 ?_
  simp only [Tryz.ntmps18, List.size_toArray, List.length_cons, List.length_nil, Nat.reduceAdd, Nat.reduceSub, Array.replicate_succ, Array.replicate_zero, List.push_toArray, List.append_toArray, List.nil_append, List.cons_append]
  go_wp2_with (go_at_call 31; refine HM.out.mono ?_; rintro r w' ⟨rfl, hw'⟩; subst w')
  refine HN.out.mono ?_
  rintro r w1 ⟨rfl, hb1⟩
  go_wp2
  exact ⟨.tuple #[.int .i64 0, .int .i64 2], by simp [results, Tryz.f18, go_sem], rfl, hb1⟩
set_option maxHeartbeats 2000000 in
theorem countB_ok (H n : Nat) (hh : hB H) (hn : CnL (play rs) H n) (ht : PT w) (hwt : wt rs ≤ 1099511000000) : Calls Tryz.prog 18 #[.pointer (some ⟨d, 0, none⟩), .int .i64 (H : Int)] w fun r w' => r = .returned (.tuple #[.int .i64 (n : Int), .int .i64 0]) ∧ Below w.heap.size w w' := by
  have e0 : bnE (H : Int) 0 = 0 := bnE_nat (I := 0) hh (by decide)
  have HMD := hide (madeB_any d s rs D w hd)
  have HNM := hide (bname_any (H : Int) 0 w ht)
  rw [e0] at HNM
  generalize bnP (H : Int) 0 = nm at *
  have hnb : n ≤ 1048576 := hn.le
  have HD := hide hd
  have HT := hide ht
  have HL := hide hh
  have HN := hide hn
  have HW := hide hwt
  have HFD : Hid (∀ k, FD d D k → k < w.heap.size) := hide (fun k hk => fd_lt hd ht hk)
  clear hd ht hh hn hwt e0
  refine (callsIn_wide (n := 5)).1 ?_
  refine callsIn_of_wp_marks Tryz.func18 rfl trivial ?_ rfl
  refine wpIn_wide.2 ?_
  simp only [Tryz.ntmps18, List.size_toArray, List.length_cons, List.length_nil, Nat.reduceAdd, Nat.reduceSub, Array.replicate_succ, Array.replicate_zero, List.push_toArray, List.append_toArray, List.nil_append, List.cons_append]
  go_wp2_with (go_at_call 31; refine HMD.out.mono ?_; rintro r w' ⟨rfl, hw'⟩; subst w')
  refine HNM.out.mono ?_
  rintro r w1 ⟨rfl, hb1⟩
  have HB1 := hide hb1
  clear hb1 HMD HNM
  go_wp2_with fail
  have C9 : Blk (w1.alloc (.cells #[.int .i64 0] 3)) w1.heap.size 3 [.int .i64 0] := Blk.made w1 3 [.int .i64 0]
  have hb9 : Below w1.heap.size w1 (w1.alloc (.cells #[.int .i64 0] 3)) := (Below.refl _ _).alloc (Nat.le_refl _) _
  have HZ2 : Hid (ZN w (w1.alloc (.cells #[.int .i64 0] 3)) w1.heap.size 0) := hide ⟨C9, HB1.out.size, on_below HB1.out hb9⟩
  clear hb9 C9
  revert HZ2
  generalize w1.alloc (.cells #[.int .i64 0] 3) = w2
  have hs1 : w.heap.size ≤ w1.heap.size := HB1.out.size
  generalize w1.heap.size = b9 at *
  intro HZ2
  clear HB1
  go_wp2_with fail
  refine (placesB_mk _ _ _).mono ?_
  rintro r w3 ⟨gd, gh, rfl, BD, BH, hgd, hgh, hb3⟩
  have HZ3 := hide (HZ2.out.on hb3)
  have hb92 : b9 < w2.heap.size := HZ2.out.c9.lt
  have HSQ := hide (placesB_seq d s rs D gd gh H n w2.heap.size w3 ⟨HD.out.below HZ3.out.bel, HT.out.below HZ3.out.bel, BD, BH, hgd, hgh⟩ HL.out HN.out HW.out hb3.size (fun k hk => by have := HFD.out k hk; omega))
  have hs3 : w.heap.size ≤ w3.heap.size := HZ3.out.bel.size
  clear hb3 BD BH HZ2 hgd hgh
  go_wp2_with fail
  refine (wpIn_wide (n := 5)).1 ?_
  refine rangeM rfl (by decide) (gf := 82) (lb := #[.pointer (some ⟨gh, 0, none⟩), .pointer (some ⟨gd, 0, none⟩)]) rfl trivial (enters_of Tryz.func82 (by kernel_rfl) rfl)
    HSQ.out KB.trans (fun x V l o o' hl h hc => KB.book (B' := w3.heap.size) (fun k hk => by have := HFD.out k hk; omega) V l o o' hl h hc) (fun x A C h => KB.below h) (fun _ => rfl) (fun pre x V0 => rpl_own _ _ _ _ pre x V0)
    (fun pre V => ZN w V b9 pre.length) (fun _ _ _ => False)
    (fun _ A C row h hg hr => h.ck (CK.of_grown hg (fun r e => (hr r e).2)) (h.bel.grown hg h.bel.size (fun r e => by have := (hr r e).1; omega)))
    (fun c _ A C row h hg hr => h) HZ3.out ?act (fun _ _ _ => True) (fun _ _ _ _ _ _ _ _ => trivial) ?assign ?body ?done ?stop
  case assign =>
    rintro l x V K _ hK
    have hsem := Oper.semAt_some
    obtain ⟨g, hg⟩ : ∃ g, g = V.heap.size := ⟨_, rfl⟩
    have hK2 := hK g V (Below.refl _ _) (by omega) trivial
    clear hK
    simp only [encPl]
    gi_wp2
    simp only [List.zip_toArray, List.zip_cons_cons, List.zip_nil_left, List.foldl_toArray, List.foldl_cons, List.foldl_nil, List.setIfInBounds_toArray, List.set_cons_succ, List.set_cons_zero]
    exact hK2
  case stop =>
    rintro D0 c pre V hD hSp h hK
    exact h.elim
  case body =>
    rintro l pre x gx V0 V _ _ _ hck hsz hz ⟨h1, h2, h3⟩
    have hsem := Oper.semAt_some
    have d9 : V.cell? ⟨b9, 0, none⟩ = some (.int .i64 (pre.length : Int)) := by rw [hz.c9.cell]; rfl
    have f9 := hz.c9.free 0
    have HZV := hide hz
    have hpn : pre.length < n := h1
    obtain ⟨i, HI⟩ : ∃ i, Hid (pre.length = i) := ⟨_, hide rfl⟩
    rw [HI.out] at d9 HZV hpn
    have HP1 : Hid ((pre ++ [x]).length = i + 1) := hide (by rw [List.length_append, HI.out]; rfl)
    clear hz hck hsz h1 h2 h3
    gi_wp2
    have hbut := But.setCell V b9 0 (.int .i64 ((i + 1 : Nat) : Int))
    refine ⟨(keepsO_but hbut HZV.out.c9).from _, KB.but hbut hb92 (fun k hk => by have := HFD.out k hk; omega), ?_⟩
    show ZN w _ b9 (pre ++ [x]).length
    rw [HP1.out]
    exact ⟨HZV.out.c9.set 0 _, HZV.out.n9, HZV.out.bel.trans (hbut.below HZV.out.n9)⟩
  case done =>
    rintro Dk ys V hD hS hz hK2
    obtain rfl : ys = plsL (play rs) H n := hS
    rw [plsL_len] at hz
    have d9 : V.cell? ⟨b9, 0, none⟩ = some (.int .i64 (n : Int)) := by rw [hz.c9.cell]; rfl
    have HDK := hide hK2
    have HBL := hide hz.bel
    clear hK2 hz
    go_wp2
    refine ⟨by simp, .inl ⟨_, _, rfl, run_takeDeferred HDK.out, ?_⟩⟩
    refine ⟨.tuple #[.int .i64 (n : Int), .int .i64 0], by simp [results, Tryz.f18, go_sem], ?_⟩
    exact ⟨rfl, HBL.out.trans (belowK_b (w := w) (Nat.le_refl _) _ Dk _ (.deferred none) (by omega) HDK.out rfl rfl)⟩
/-- Count, whatever the height. -/
theorem countB_any (h : Int) (n : Nat) (ht : PT w) (hn : bnE h 0 = 0 → CnL (play rs) h.toNat n) (hwt : wt rs ≤ 1099511000000) : Calls Tryz.prog 18 #[.pointer (some ⟨d, 0, none⟩), .int .i64 h] w fun r w' =>
    r = .returned (.tuple #[.int .i64 (if bnE h 0 = 0 then (n : Int) else 0), .int .i64 (bnE h 0)]) ∧ Below w.heap.size w w' := by
  by_cases he : bnE h 0 = 0
  · obtain ⟨H, I, rfl, e0, hh, _⟩ := nmO'_nats (bnE_zero he)
    rw [if_pos he, he]
    exact countB_ok d s rs D w hd H n hh (hn he) ht hwt
  · have e2 : bnE h 0 = 2 := by rcases bnE_bin h 0 with k | k; exact absurd k he; exact k
    rw [if_neg he, e2]
    exact countB_bad d s rs D w hd h ht he
end

end Go.Proofs.YtpocadbhajacaaaGreatDoor
