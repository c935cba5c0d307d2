/-
  Laws on slices of bytes for the seats of frame; octet's and the document's numbers, put and read; spoil and names of the law.
-/
import Derived.Test.YtbkhlbaamjccjaaDoorNw
import Derived.Test.YtbkhlbaamjccjaaDoorMe
import Derived.Deep.RegionLaw
namespace Go.Proofs.YtbkhlbaamjccjaaDoor
open Go.RowKit
set_option linter.unusedVariables false

theorem sizeB (w : World) : (sizeOf 5).run Tryd.prog w = .ok 1 w := by kernel_rfl
theorem und22 : Tryd.prog.underlying 23 = some (.slice (Tryd.prog.elem 23)) := by kernel_rfl
theorem elem22 : Tryd.prog.elem 23 = 5 := by kernel_rfl
/-- b[k:] -/
theorem slice_from {w : World} {a : Option Addr} {len cap : Nat} {xs : List Int} (h : Sl w a len cap xs) (k : Nat) (K : Int) (hK : K = (k : Int)) (hk : k ≤ len) :
    ∃ a', (∀ v : World, (Instr.slice 23 (.slice a len cap) (some (.int .i64 K)) none none).run Tryd.prog v = .ok (.slice a' (len - k) (cap - k)) v) ∧ Sl w a' (len - k) (cap - k) (xs.drop k) ∧ (∀ g, (0 < len → Apart g a) → 0 < len - k → Apart g a') := by
  subst hK
  have hrun : ∀ v : World, (Instr.slice 23 (.slice a len cap) (some (.int .i64 k)) none none).run Tryd.prog v = .ok (sliced a k len cap 1) v := fun v => by
    rw [run_slice_l v _ _ _ _ und22 .i64 k (by omega) (by omega), elem22, sizeB]
    simp
  obtain ⟨h1, h2, h3, h4, h5, h6, h7⟩ := h
  by_cases hc : k < cap
  · cases a with
    | none => have := h6 rfl; omega
    | some ad =>
      have es : sliced (some ad) k len cap 1 = .slice (some (ad.add k)) (len - k) (cap - k) := by
        simp only [sliced, Nat.mul_one]
        have : ¬ (cap = k) := by omega
        simp [this]
      refine ⟨some (ad.add k), fun v => by rw [hrun v, es], ?_, ?_⟩
      · refine ⟨by simp [h1], by omega, by omega, by omega, h5.drop k, (fun e => by cases e), fun h0 => ?_⟩
        obtain ⟨b, o, e, hce⟩ := h7 (by omega)
        cases e
        refine ⟨b, o + k, by rw [Addr.add_lit], fun i hi => ?_⟩
        rw [show o + k + i = o + (k + i) by omega, hce (k + i) (by omega)]
        simp [List.getD, List.getElem?_drop]
      · intro g ha h0 x hx
        cases hx
        have := ha (by omega) ad rfl
        unfold Addr.add
        split <;> exact this
  · obtain rfl : k = cap := by omega
    obtain rfl : len = k := by omega
    have es : sliced a len len len 1 = .slice a (len - len) (len - len) := by
      cases a <;> simp [sliced]
    refine ⟨a, fun v => by rw [hrun v, es], ?_, ?_⟩
    · rw [Nat.sub_self]
      exact ⟨by simp [h1], Nat.le_refl _, by omega, by omega, h5.drop _, fun _ => ⟨rfl, rfl⟩, fun h => absurd h (by omega)⟩
    · intro g _ h0
      omega
/-- Another world: of what was there only block g has turned. -/
structure Chg (g : Nat) (w w' : World) : Prop where
  os : w'.os = w.os
  tape : w'.tape = w.tape
  output : w'.output = w.output
  size : w.heap.size ≤ w'.heap.size
  block : ∀ k, k < w.heap.size → k ≠ g → w'.heap[k]? = w.heap[k]?
theorem Chg.refl (g : Nat) (w : World) : Chg g w w := ⟨rfl, rfl, rfl, Nat.le_refl _, fun _ _ _ => rfl⟩
theorem Chg.trans {g : Nat} {a b c : World} (h : Chg g a b) (k : Chg g b c) : Chg g a c :=
  ⟨k.os.trans h.os, k.tape.trans h.tape, k.output.trans h.output, Nat.le_trans h.size k.size, fun i hi hg => (k.block i (Nat.lt_of_lt_of_le hi h.size) hg).trans (h.block i hi hg)⟩
theorem Chg.of_but {g : Nat} {w w' : World} (h : But g w w') : Chg g w w' := ⟨h.os, h.tape, h.output, Nat.le_of_eq h.size.symm, fun k _ hk => h.block k hk⟩
theorem Chg.of_below {g : Nat} {w w' : World} (h : Below w.heap.size w w') : Chg g w w' := ⟨h.os, h.tape, h.output, h.size, fun k hk _ => h.block k hk⟩
theorem Chg.below {g B : Nat} {w w' : World} (h : Chg g w w') (hg : B ≤ g) (hB : B ≤ w.heap.size) : Below B w w' := ⟨h.os, h.tape, h.output, h.size, fun k hk => h.block k (by omega) (by omega)⟩
theorem Blk.chg {g k : Nat} {w w' : World} {t : TypeId} {cs : List Value} (h : Blk w k t cs) (hc : Chg g w w') (hk : k ≠ g) : Blk w' k t cs := by
  unfold Blk; rw [hc.block k h.lt hk]; exact h
theorem Sl.chg {g : Nat} {w w' : World} {a : Option Addr} {len cap : Nat} {xs : List Int} (h : Sl w a len cap xs) (hc : Chg g w w') (hk : 0 < len → Apart g a) : Sl w' a len cap xs := by
  obtain ⟨h1, h2, h3, h4, h5, h6, h7⟩ := h
  refine ⟨h1, h2, h3, h4, h5, h6, fun h => ?_⟩
  obtain ⟨b, off, e, hce⟩ := h7 h
  refine ⟨b, off, e, fun i hi => ?_⟩
  rw [World.cell?_of_block (w := w) (hc.block b (World.block_lt_of_cell? w _ (hce i hi)) (hk h ⟨b, off, none⟩ e))]
  exact hce i hi
/-- How long a slice is. -/
def lenOf : Value → Nat
  | .slice _ n _ => n
  | _ => 0
theorem chg_drew (g : Nat) (w : World) : Chg g w w.drew := ⟨rfl, rfl, rfl, Nat.le_refl _, fun _ _ _ => rfl⟩
theorem sl_from (g n cap k : Nat) (K : Int) (hK : K = (k : Int)) (hk : k ≤ n) (hc : n ≤ cap) : ∃ a', (∀ v : World, (Instr.slice 23 (.slice (some ⟨g, 0, none⟩) n cap) (some (.int .i64 K)) none none).run Tryd.prog v = .ok (.slice a' (n - k) (cap - k)) v) ∧
    (∀ (w' : World) (z : List Int), Sl w' (some ⟨g, 0, none⟩) n cap z → Sl w' a' (n - k) (cap - k) (z.drop k)) ∧ ∀ x, a' = some x → x.block = g := by
  subst hK
  by_cases h : k < cap
  · refine ⟨some ⟨g, 0 + k, none⟩, fun v => ?_, fun w' z hs => hs.drop k hk, fun x hx => by cases hx; rfl⟩
    rw [run_slice_l v _ _ _ _ und22 .i64 k (by omega) (by omega), elem22, sizeB]
    have : ¬ cap = k := by omega
    simp [sliced, this, Addr.add_lit]
  · obtain rfl : k = cap := by omega
    obtain rfl : n = k := by omega
    refine ⟨some ⟨g, 0, none⟩, fun v => ?_, fun w' z hs => ⟨by rw [List.length_drop, hs.hlen], by omega, by omega, by omega, hs.hbyte.drop _, (fun e => by cases e), fun h0 => by omega⟩, fun x hx => by cases hx; rfl⟩
    rw [run_slice_l v _ _ _ _ und22 .i64 n (by omega) (by omega), elem22, sizeB]
    simp [sliced]
theorem sl_to (g n cap k : Nat) (K : Int) (hK : K = (k : Int)) (hk : k ≤ cap) (v : World) :
    (Instr.slice 23 (.slice (some ⟨g, 0, none⟩) n cap) none (some (.int .i64 K)) none).run Tryd.prog v = .ok (.slice (some ⟨g, 0, none⟩) k cap) v := by
  subst hK
  rw [run_slice_h v _ _ _ _ und22 .i64 k (by omega) (by omega), elem22, sizeB]
  simp [sliced, Addr.add_lit]
section
variable {dst : Option Tmp} {ty : TypeId} {pos : String} {aft : Array Edge} {gd : Option (Nat × Bool)} {ops : Array Oper} {rest : List Oper} {a : Act} {w : World} {K : Act → World → Prop} {Q : Exit → Act → World → Prop}
set_option maxRecDepth 100000 in
theorem wp_boxG {T : TypeId} {x : Operand} {cs : List Value} (hx : a.eval x = .agg cs.toArray) (h : ∀ w1 g, Blk w1 g T cs → w.heap.size ≤ g → Below w.heap.size w w1 → K (a.put dst (.pointer (some ⟨g, 0, none⟩))) w1) :
    Oper.wp Tryd.prog ⟨dst, .box T x, ty, pos, aft, gd⟩ a w K Q :=
  wp_runV (.pointer (some ⟨w.heap.size, 0, none⟩)) (w.alloc (.cells cs.toArray T)) (by simp [execOp, hx, Instr.box, newVar, newRow, Result.andThen, Value.cells])
    (h _ _ (Blk.made _ _ _) (Nat.le_refl _) ((Below.refl _ _).alloc (Nat.le_refl _) _))
end
theorem spl_snoc (cs vs : List Value) (v : Value) (o : Nat) (h : o + vs.length < cs.length) : (spl cs vs o).set (o + vs.length) v = spl cs (vs ++ [v]) o := by
  unfold spl
  rw [List.set_append_right _ _ (by simp; omega)]
  have e : o + vs.length - (cs.take o ++ vs).length = 0 := by simp; omega
  rw [e, List.drop_eq_getElem_cons h]
  simp [Nat.add_assoc]
theorem spl_length (cs vs : List Value) (o : Nat) (h : o + vs.length ≤ cs.length) : (spl cs vs o).length = cs.length := by
  simp [spl]; omega
theorem u8s_take_succ (B : List Int) (k : Nat) (h : k < B.length) : u8s (B.take (k + 1)) = u8s (B.take k) ++ [.int .u8 (B.getD k 0)] := by
  rw [List.take_succ_eq_append_getElem h, u8s_app]
  congr 1
  simp [u8s, List.getD, h]
theorem Blk.sl0 {w : World} {g : Nat} {t : TypeId} {xs : List Int} (h : Blk w g t (u8s xs)) (hb : isB xs) (hl : xs.length ≤ 140737488355328) : Sl w (some ⟨g, 0, none⟩) xs.length xs.length xs :=
  h.sl 0 xs.length xs (by rw [List.drop_zero, List.take_of_length_le (by rw [u8s_length]; exact Nat.le_refl _)]) hb hl (Nat.le_refl _) (by omega)
theorem Own.of_blk {w : World} {g B : Nat} {xs : List Int} (h : Blk w g 5 (u8s xs)) (hB : B ≤ g) (hl : xs.length ≤ 9223372036854775807) : Own w B (.slice (some ⟨g, 0, none⟩) xs.length xs.length) xs :=
  ⟨by simp [u8s_length], .inr ⟨g, xs.length, (u8s xs).toArray, rfl, hB, h, Nat.le_refl _, by unfold maxLen; omega, by simp [u8s_length], by rw [Nat.mul_one]; exact List.take_of_length_le (by simp [u8s_length])⟩⟩
theorem spl_all (B : List Int) (n : Nat) (h : B.length = n) : spl (u8s (zer n)) (u8s B) 0 = u8s B := by
  unfold spl
  rw [List.drop_of_length_le (by rw [u8s_length, u8s_length, zer_length, h]; omega)]
  simp
theorem spl_next (B : List Int) (n k : Nat) (h : B.length = n) (hk : k < n) : (spl (u8s (zer n)) (u8s (B.take k)) 0).set k (.int .u8 (B.getD k 0)) = spl (u8s (zer n)) (u8s (B.take (k + 1))) 0 := by
  have hl : (B.take k).length = k := by rw [List.length_take]; omega
  have e2 := spl_snoc (u8s (zer n)) (u8s (B.take k)) (.int .u8 (B.getD k 0)) 0 (by rw [u8s_length, u8s_length, hl, zer_length]; omega)
  rwa [u8s_length, hl, Nat.zero_add, ← u8s_take_succ _ _ (by omega)] at e2
theorem spl_there (B : List Int) (n k : Nat) (h : B.length = n) (hk : k < n) : ∃ old, (spl (u8s (zer n)) (u8s (B.take k)) 0)[k]? = some old := by
  have hl : (B.take k).length = k := by rw [List.length_take]; omega
  have : k < (spl (u8s (zer n)) (u8s (B.take k)) 0).length := by rw [spl_length _ _ _ (by rw [u8s_length, u8s_length, hl, zer_length]; omega), u8s_length, zer_length]; exact hk
  exact ⟨_, List.getElem?_eq_getElem this⟩
theorem mul_step (v x : Int) (h0 : 0 ≤ v) (h1 : v < 72057594037927936) (h2 : 0 ≤ x) (h3 : x ≤ 255) :
    IntKind.u64.wrap (IntKind.u64.wrap (v * 256) + IntKind.u64.wrap x) = v * 256 + x := by
  rw [IntKind.wrap_u64, IntKind.wrap_u64, IntKind.wrap_u64, Int.emod_eq_of_lt (by omega) (by omega), Int.emod_eq_of_lt (by omega) (by omega)]
  omega
set_option maxHeartbeats 400000 in
theorem read_any (a : Option Addr) (len cap : Nat) (xs : List Int) (p : Int) (n : Nat) (w : World) (hs : Sl w a len cap xs) (hn : n ≤ 8) (hn0 : 0 < n) :
    Calls Tryd.prog 29 #[.slice a len cap, .int .i64 p, .int .i64 n] w fun e w' => e = .returned (.tuple #[.int .u64 (rdV xs p n), .int .i64 (rdN len p n), .int .i64 (rdE len p n)]) ∧ w = w' := by
  obtain ⟨hx, _, _, hl, hb, _, hc⟩ := hs
  by_cases h : p < 0 ∨ (len : Int) < p ∨ (len : Int) - p < n
  · have e1 : rdV xs p n = 0 := by simp [rdV, hx]; omega
    have e2 : rdN len p n = 0 := by simp [rdN]; omega
    rw [e1, e2]
    clear e1 e2 hc
    by_cases h1 : p < 0
    · have e3 : rdE len p n = 2 := by simp [rdE, h1]
      rw [e3]
      clear e3
      go_enter Tryd.func29, Tryd.ntmps29
      go_wp2
      go_ret3
      exact ⟨rfl, rfl⟩
    by_cases h2 : (len : Int) < p
    · have e3 : rdE len p n = 2 := by simp [rdE, h2]
      rw [e3]
      clear e3
      go_enter Tryd.func29, Tryd.ntmps29
      go_wp2
      go_ret3
      exact ⟨rfl, rfl⟩
    · have h3 : (len : Int) - p < n := by omega
      have e3 : rdE len p n = 10 := by simp [rdE, h1, h2, h3]
      rw [e3]
      clear e3 h
      go_enter Tryd.func29, Tryd.ntmps29
      go_wp2
      go_ret3
      exact ⟨rfl, rfl⟩
  · obtain ⟨p, rfl⟩ := Int.eq_ofNat_of_zero_le (show 0 ≤ p by omega)
    obtain ⟨b, off, rfl, hce⟩ := hc (by omega)
    clear hc
    have e1 : rdV xs p n = beVal ((xs.drop p).take n) := by simp only [rdV, hx]; rw [if_pos (by omega)]; simp
    have e2 : rdN len p n = p + n := by simp [rdN]; omega
    have e3 : rdE len p n = 0 := by simp [rdE]; omega
    rw [e1, e2, e3]
    clear e1 e2 e3
    have h1 : ¬ ((p : Int) < 0) := by omega
    have h2 : ¬ ((len : Int) < p) := by omega
    have h3 : ¬ ((len : Int) - p < n) := by omega
    clear h
    go_enter Tryd.func29, Tryd.ntmps29
    go_wp2
    go_loop [9, 10] (fun v i => ∃ k : Nat, k ≤ n ∧ i = .int .i64 k ∧ v = .int .u64 (beVal ((xs.drop p).take k))) (fun _ i => n - (intOf i).toNat)
    case atStart => exact ⟨0, Nat.zero_le _, rfl, by simp [beVal]⟩
    case round =>
      obtain ⟨k, hk, rfl, rfl⟩ := hrel
      by_cases hlt : k < n
      · have hck := hce (p + k) (by omega)
        have HS : Hid _ := beVal_step xs p k (by omega)
        have H2 : Hid _ := hb.get (p + k)
        have H3 : Hid _ := beVal_take_bd xs hb p k (by omega) (by omega)
        go_wp2
        go_round
        case rel =>
          refine ⟨k + 1, by omega, by go_num, ?_⟩
          rw [HS.out, ← mul_step _ _ H3.out.1 H3.out.2 H2.out.1 H2.out.2]
          rfl
        case measure => simp [intOf]; omega
      · have hkn : k = n := by omega
        subst hkn
        clear hce
        go_wp2
        go_ret3
        exact ⟨rfl, rfl⟩
set_option maxHeartbeats 400000 in
theorem room_any (a : Option Addr) (len cap : Nat) (p : Int) (n : Nat) (w : World) (hl : len ≤ 140737488355328) (hn : n ≤ 32) :
    Calls Tryd.prog 34 #[.slice a len cap, .int .i64 p, .int .i64 n] w fun e w' => e = .returned (.int .i64 (rdE len p n)) ∧ w = w' := by
  by_cases h : p < 0
  · have e : rdE len p n = 2 := by simp [rdE, h]
    rw [e]
    go_enter Tryd.func34, Tryd.ntmps34
    go_wp2
    go_ret
    exact ⟨rfl, rfl⟩
  by_cases h' : (len : Int) < p
  · have e : rdE len p n = 2 := by simp [rdE, h']
    rw [e]
    clear e
    go_enter Tryd.func34, Tryd.ntmps34
    go_wp2
    go_ret
    exact ⟨rfl, rfl⟩
  by_cases h2 : (len : Int) - p < n
  · have e : rdE len p n = 10 := by simp [rdE, h, h', h2]
    rw [e]
    clear e
    go_enter Tryd.func34, Tryd.ntmps34
    go_wp2
    go_ret
    exact ⟨rfl, rfl⟩
  · have e : rdE len p n = 0 := by simp [rdE, h, h', h2]
    rw [e]
    clear e
    go_enter Tryd.func34, Tryd.ntmps34
    go_wp2
    go_ret
    exact ⟨rfl, rfl⟩
set_option maxHeartbeats 400000 in
theorem number_any (a : Option Addr) (len cap : Nat) (xs : List Int) (p : Int) (n : Nat) (w : World) (hs : Sl w a len cap xs) (hn : n ≤ 8) (hn0 : 0 < n) :
    Calls Tryd.prog 32 #[.slice a len cap, .int .i64 p, .int .i64 n] w fun e w' => e = .returned (.tuple #[.int .u64 (rdV xs p n), .int .i64 (rdN len p n), .int .i64 (rdE len p n)]) ∧ w = w' := by
  obtain ⟨hx, _, _, hl, hb, _, hc⟩ := hs
  by_cases h : p < 0 ∨ (len : Int) < p ∨ (len : Int) - p < n
  · have e1 : rdV xs p n = 0 := by simp [rdV, hx]; omega
    have e2 : rdN len p n = 0 := by simp [rdN]; omega
    have e3 : rdE len p n = 2 ∨ rdE len p n = 10 := by
      by_cases h1 : p < 0 ∨ (len : Int) < p
      · left; simp [rdE, h1]
      · right; have h2 : (len : Int) - p < n := by omega
        simp [rdE, h1, h2]
    rw [e1, e2]
    have hne : (rdE len p n != 0) = true := by simp; omega
    clear e1 e2 hc e3
    go_enter Tryd.func32, Tryd.ntmps32
    go_wp2_with (go_at_call 34; refine (room_any _ _ _ _ _ _ hl (by omega)).mono ?_; rintro e w' ⟨rfl, rfl⟩)
    go_ret3
    exact ⟨rfl, rfl⟩
  · obtain ⟨p, rfl⟩ := Int.eq_ofNat_of_zero_le (show 0 ≤ p by omega)
    obtain ⟨b, off, rfl, hce⟩ := hc (by omega)
    clear hc
    have e1 : rdV xs p n = beVal ((xs.drop p).take n) := by simp only [rdV, hx]; rw [if_pos (by omega)]; simp
    have e2 : rdN len p n = p + n := by simp [rdN]; omega
    have e3 : rdE len p n = 0 := by simp [rdE]; omega
    rw [e1, e2, e3]
    have E3 : Hid (rdE len p n = 0) := e3
    clear e1 e2 e3
    go_enter Tryd.func32, Tryd.ntmps32
    go_wp2_with (go_at_call 34; refine (room_any _ _ _ _ _ _ hl (by omega)).mono ?_; rintro e w' ⟨rfl, rfl⟩; rw [E3.out])
    go_loop [6, 19] (fun v i => ∃ k : Nat, k ≤ n ∧ i = .int .i64 k ∧ v = .int .u64 (beVal ((xs.drop p).take k))) (fun _ i => n - (intOf i).toNat)
    case atStart => exact ⟨0, Nat.zero_le _, rfl, by simp [beVal]⟩
    case round =>
      obtain ⟨k, hk, rfl, rfl⟩ := hrel
      by_cases hlt : k < n
      · have hck := hce (p + k) (by omega)
        have HS : Hid _ := beVal_step xs p k (by omega)
        have H2 : Hid _ := hb.get (p + k)
        have H3 : Hid _ := beVal_take_bd xs hb p k (by omega) (by omega)
        go_wp2
        go_round
        case rel =>
          refine ⟨k + 1, by omega, by go_num, ?_⟩
          rw [HS.out, ← or_step _ _ H3.out.1 H3.out.2 H2.out.1 H2.out.2]
          rfl
        case measure => simp [intOf]; omega
      · have hkn : k = n := by omega
        subst hkn
        clear hce
        go_wp2
        go_ret3
        exact ⟨rfl, rfl⟩
theorem spl_full {cs vs : List Value} (h : vs.length = cs.length) : spl cs vs 0 = vs := by
  unfold spl
  rw [List.drop_of_length_le (by omega)]
  simp
theorem elemBy : Tryd.prog.elem 23 = 5 := by kernel_rfl
set_option maxRecDepth 100000 in
theorem b_at (b o n cap i : Nat) (hi : i < n) (v : World) : (Instr.indexAt 23 (.slice (some ⟨b, o, none⟩) n cap) (.int .i64 (i : Int))).run Tryd.prog v = .ok (.pointer (some ⟨b, o + i, none⟩)) v := by
  rw [run_indexAt_slice v _ _ _ _ .i64 i undBs, if_pos ⟨by omega, by omega⟩, elemBy, sizeB]
  simp only [Result.andThen_ok, Int.toNat_natCast]
  rw [Addr.add_lit, Nat.mul_one]
/-- The bytes of a number, the highest first. -/
def be (v : Int) (n : Nat) : List Int := (List.range n).map fun i => v / 256 ^ (n - 1 - i) % 256
theorem be_length (v : Int) (n : Nat) : (be v n).length = n := by simp [be]
theorem be_isB (v : Int) (n : Nat) : isB (be v n) := by
  intro x hx
  simp only [be, List.mem_map, List.mem_range] at hx
  obtain ⟨i, _, rfl⟩ := hx
  omega
theorem be_get (v : Int) (n k : Nat) (h : k < n) : (be v n).getD k 0 = v / 256 ^ (n - 1 - k) % 256 := by simp [be, List.getD, h]

theorem pow2_8 (m : Nat) : (2 : Int) ^ (8 * m) = 256 ^ m := by rw [Int.pow_mul]; rfl
theorem spl_zer (ys : List Int) (n m : Nat) (h : ys.length = m) : spl (u8s (zer (m + n))) (u8s (ys.take m)) 0 = u8s (ys ++ zer n) := by
  rw [spl_u8, ← h, List.take_length]
  congr 1
  simp [splB, zer]
set_option maxHeartbeats 400000 in
theorem widened_any (a : Option Addr) (len cap : Nat) (xs : List Int) (n : Nat) (w : World) (hs : Sl w a len cap xs) (hn : n ≤ 64) :
    Calls Tryd.prog 33 #[.slice a len cap, .int .i64 n] w fun e w' => ∃ g, e = .returned (.slice (some ⟨g, 0, none⟩) (len + n) (len + n)) ∧ w.heap.size ≤ g ∧ Blk w' g 5 (u8s (xs ++ zer n)) ∧ Below w.heap.size w w' := by
  have hr := hs.hreach
  have HS := hide hs
  clear hs
  go_enter Tryd.func33, Tryd.ntmps33
  go_wp2_with (refine step_make (len + n) rfl rfl rfl (by omega) (by omega) (by omega) ?_)
  intro w1 g hrow hg hb
  go_wp2_with (refine step_copy rfl rfl rfl (HS.out.below hb) g 0 len (by omega) hrow (fun _ => rfl) (by rw [u8s_length, zer_length]; omega) ?_)
  intro w2 hrow2 hbut
  rw [spl_zer xs n len HS.out.hlen] at hrow2
  go_wp2
  go_ret
  exact ⟨g, rfl, hg, hrow2, hb.trans (hbut.below hg)⟩
/-- One byte more of B laid over noughts. -/
theorem fill_step (xs B : List Int) (len n k : Nat) (hx : xs.length = len) (hB : B.length = n) (hk : k < n) :
    (xs ++ (B.take k ++ zer (n - k))).set (len + k) (B.getD k 0) = xs ++ (B.take (k + 1) ++ zer (n - (k + 1))) := by
  subst hx
  rw [List.set_append_right _ _ (by omega), Nat.add_sub_cancel_left]
  congr 1
  have hz : zer (n - k) = 0 :: zer (n - (k + 1)) := by
    have : n - k = (n - (k + 1)) + 1 := by omega
    rw [this]; simp [zer, List.replicate_succ]
  rw [List.set_append_right _ _ (by simp; omega), hz]
  have e : k - (B.take k).length = 0 := by simp; omega
  have e2 : B.getD k 0 = B[k] := by simp [List.getD, hB, hk]
  rw [e, e2, List.take_succ_eq_append_getElem (by omega), List.append_assoc]
  rfl
set_option maxHeartbeats 400000 in
theorem putNumber_any (a : Option Addr) (len cap : Nat) (xs : List Int) (v : Int) (n : Nat) (w : World) (hs : Sl w a len cap xs) (hn : n ≤ 8) (hv : 0 ≤ v) (hv2 : v < 18446744073709551616) :
    Calls Tryd.prog 31 #[.slice a len cap, .int .u64 v, .int .i64 n] w fun e w' => ∃ g, e = .returned (.slice (some ⟨g, 0, none⟩) (len + n) (len + n)) ∧ w.heap.size ≤ g ∧ Blk w' g 5 (u8s (xs ++ be v n)) ∧ Below w.heap.size w w' := by
  have hr := hs.hreach
  have HS := hide hs
  clear hs
  go_enter Tryd.func31, Tryd.ntmps31
  go_wp2_with (go_at_call 33; refine (widened_any _ _ _ xs n _ HS.out (by omega)).mono ?_; rintro e w1 ⟨g, rfl, hg, hrow, hb⟩)
  go_loopw [13] (fun i wr => ∃ k : Nat, k ≤ n ∧ i = .int .i64 k ∧ Blk wr g 5 (u8s (xs ++ ((be v n).take k ++ zer (n - k)))) ∧ Below w.heap.size w wr) (fun i _ => n - (intOf i).toNat)
  case atStart => exact ⟨0, by omega, rfl, by simpa using hrow, hb⟩
  case round =>
    obtain ⟨k, hk, rfl, hr1, hb1⟩ := hrel
    by_cases hlt : k < n
    · have hl1 : (xs ++ ((be v n).take k ++ zer (n - k))).length = len + n := by simp [be_length, zer_length, HS.out.hlen]; omega
      have hcell : wr.cell? ⟨g, len + k, none⟩ = some (.int .u8 ((xs ++ ((be v n).take k ++ zer (n - k))).getD (len + k) 0)) := by rw [hr1.cell, u8s_get _ _ (by omega)]
      have hfree := hr1.free (len + k)
      clear hl1
      have HE := hide (fill_step xs (be v n) len n k HS.out.hlen (be_length v n) hlt)
      have HR := hide hr1
      clear hr1
      go_wp2
      go_roundw
      case rel =>
        have e := HR.out.set (len + k) (.int .u8 ((be v n).getD k 0))
        rw [u8s_set, HE.out, be_get v n k hlt, ← pow2_8] at e
        exact ⟨k + 1, by omega, by go_num, e, hb1.setCell hg _⟩
      case measure => simp [intOf]; omega
    · have hkn : k = n := by omega
      subst hkn
      go_wp2
      go_ret
      refine ⟨g, rfl, hg, ?_, hb1⟩
      have e : xs ++ (List.take k (be v k) ++ zer (k - k)) = xs ++ be v k := by
        rw [List.take_of_length_le (by rw [be_length]; exact Nat.le_refl _)]; simp [zer]
      rw [e] at hr1
      exact hr1
/-- One byte more of B, from its end. -/
theorem back_step (B : List Int) (n k : Nat) (hB : B.length = n) (hk : k < n) : (zer (k + 1) ++ B.drop (k + 1)).set k (B.getD k 0) = zer k ++ B.drop k := by
  have hz : zer (k + 1) = zer k ++ [0] := by simp [zer, List.replicate_succ']
  rw [hz, List.append_assoc, List.set_append_right _ _ (by simp [zer]), List.drop_eq_getElem_cons (i := k) (by omega)]
  have e : k - (zer k).length = 0 := by simp [zer]
  rw [e]
  simp [List.getD, hB, hk]

theorem div_pow (v : Int) (m : Nat) : v / 256 ^ m / 256 = v / 256 ^ (m + 1) := by
  rw [Int.pow_succ, Int.ediv_ediv_of_nonneg (Int.le_of_lt (Int.pow_pos (by decide)))]

theorem quo256 (v : Int) (m : Nat) (hv : 0 ≤ v) (hv2 : v < 18446744073709551616) : IntKind.u64.wrap ((v / 256 ^ m).tdiv 256) = v / 256 ^ (m + 1) := by
  have h0 : 0 ≤ v / 256 ^ m := Int.ediv_nonneg hv (Int.le_of_lt (Int.pow_pos (by decide)))
  have h1 : v / 256 ^ m ≤ v := Int.ediv_le_self _ hv
  rw [Int.tdiv_eq_ediv_of_nonneg h0, div_pow, IntKind.wrap_u64]
  have h2 : 0 ≤ v / 256 ^ (m + 1) := Int.ediv_nonneg hv (Int.le_of_lt (Int.pow_pos (by decide)))
  have h3 : v / 256 ^ (m + 1) ≤ v := Int.ediv_le_self _ hv
  exact Int.emod_eq_of_lt h2 (by omega)

set_option maxHeartbeats 400000 in
theorem number_ref (v : Int) (n : Nat) (w : World) (hn : n ≤ 8) (hv : 0 ≤ v) (hv2 : v < 18446744073709551616) :
    Calls Tryd.prog 26 #[.int .u64 v, .int .i64 n] w fun e w' => ∃ g, e = .returned (.slice (some ⟨g, 0, none⟩) n n) ∧ w.heap.size ≤ g ∧ Blk w' g 5 (u8s (be v n)) ∧ Below w.heap.size w w' := by
  go_enter Tryd.func26, Tryd.ntmps26
  go_wp2_with (refine step_make n rfl rfl rfl rfl rfl (by omega) ?_)
  intro w1 g hrow hg hb
  go_wp2
  go_loopw [0, 6] (fun vv i wr => ∃ j : Nat, j ≤ n ∧ i = .int .i64 ((j : Int) - 1) ∧ vv = .int .u64 (v / 256 ^ (n - j)) ∧ Blk wr g 5 (u8s (zer j ++ (be v n).drop j)) ∧ Below w.heap.size w wr) (fun _ i _ => (intOf i + 1).toNat)
  case atStart => exact ⟨n, by omega, rfl, by simp, by rw [List.drop_eq_nil_of_le (by rw [be_length]; exact Nat.le_refl _), List.append_nil]; exact hrow, hb⟩
  case round =>
    obtain ⟨j, hj, rfl, rfl, hr1, hb1⟩ := hrel
    by_cases h0 : j = 0
    · subst h0
      go_wp2
      go_ret
      refine ⟨g, rfl, hg, ?_, hb1⟩
      simpa [zer] using hr1
    · obtain ⟨k, rfl⟩ : ∃ k, j = k + 1 := ⟨j - 1, by omega⟩
      have hl1 : (zer (k + 1) ++ (be v n).drop (k + 1)).length = n := by simp [be_length, zer_length]; omega
      have hcell : wr.cell? ⟨g, k, none⟩ = some (.int .u8 ((zer (k + 1) ++ (be v n).drop (k + 1)).getD k 0)) := by rw [hr1.cell]; exact u8s_get _ _ (by omega)
      have hfree := hr1.free k
      have HE := hide (back_step (be v n) n k (be_length v n) (by omega))
      have HG := hide (be_get v n k (by omega))
      have ek : (((k + 1 : Nat) : Int) - 1) = (k : Int) := by omega
      rw [ek]
      clear hl1
      go_wp2
      go_roundw
      case rel =>
        have e := hr1.set k (.int .u8 ((be v n).getD k 0))
        have en : n - 1 - k = n - (k + 1) := by omega
        rw [u8s_set, HE.out, HG.out, en] at e
        have eq := quo256 v (n - (k + 1)) hv hv2
        have en2 : n - (k + 1) + 1 = n - k := by omega
        rw [en2] at eq
        exact ⟨k, by omega, by go_num, by rw [eq], e, hb1.setCell hg _⟩
      case measure => simp [intOf]

set_option maxHeartbeats 400000 in
theorem spoilL_own (g n cap : Nat) (xs : List Int) (B : Nat) (w : World) (ho : Own w B (.slice (some ⟨g, 0, none⟩) n cap) xs) (hx : xs.length = n) (hn : n ≤ 281474976710656) :
    Calls Tryd.prog 17 #[.slice (some ⟨g, 0, none⟩) n cap] w fun e w' => e = .returned (.tuple #[]) ∧ But g w w' := by
  obtain ⟨t, cs, hg, hcs⟩ : ∃ t cs, Blk w g t cs ∧ cs.take n = u8s xs := by
    rcases ho.2 with ⟨e, _⟩ | ⟨g', c', cur, e, _, hh, h3, h4, h5, h6⟩
    · cases e
    · cases e
      refine ⟨5, cur.toList, ?_, ?_⟩
      · unfold Blk; simpa using hh
      · simpa [hx] using h6
  clear ho
  go_enter Tryd.func17, Tryd.ntmps17
  go_wp2
  go_loopw [2] (fun i wr => ∃ k : Nat, k ≤ n ∧ i = .int .i64 k ∧ (∃ ys cs', Blk wr g t cs' ∧ cs'.take n = u8s ys ∧ ys.length = n) ∧ But g w wr) (fun i _ => n - (intOf i).toNat)
  case atStart => exact ⟨0, by omega, rfl, ⟨xs, cs, hg, hcs, hx⟩, But.refl _ _⟩
  case round =>
    obtain ⟨k, hk, rfl, ⟨ys, cs', hr1, hc1, hy⟩, hb1⟩ := hrel
    have HY := hide hy
    have HR := hide hr1
    have HC := hide hc1
    clear hy hr1 hc1 hg hx hcs
    by_cases hlt : k < n
    · have hcell : wr.cell? ⟨g, k, none⟩ = some (.int .u8 (ys.getD k 0)) := by
        have e : (cs'.take n)[k]? = some (.int .u8 (ys.getD k 0)) := by rw [HC.out]; exact u8s_get _ _ (by rw [HY.out]; exact hlt)
        rw [HR.out.cell]
        rw [List.getElem?_take, if_pos hlt] at e
        exact e
      have hfree : wr.frozen? ⟨g, k, none⟩ = false := HR.out.free k
      go_wp2
      go_roundw
      case rel =>
        have h := HR.out.set k (.int .u8 ((ys.getD k 0 + 1) % 256))
        refine ⟨k + 1, by omega, by go_num, ⟨ys.set k ((ys.getD k 0 + 1) % 256), _, h, ?_, by rw [List.length_set]; exact HY.out⟩, hb1.trans (But.setCell _ _ _ _)⟩
        rw [List.take_set, HC.out, u8s_set]
      case measure => simp [intOf]; omega
    · go_wp2
      go_end0
      exact ⟨rfl, hb1⟩
theorem spoilL_nil (c : Nat) (a : Option Addr) (w : World) : Calls Tryd.prog 17 #[.slice a 0 c] w fun e w' => e = .returned (.tuple #[]) ∧ w' = w := by
  go_enter Tryd.func17, Tryd.ntmps17
  go_wp2
  go_loopw [2] (fun i wr => i = .int .i64 0 ∧ wr = w) (fun _ _ => 0)
  case atStart => exact ⟨rfl, rfl⟩
  case round =>
    obtain ⟨rfl, rfl⟩ := hrel
    go_wp2
    go_end0
    exact ⟨rfl, rfl⟩
theorem namesL (w : World) : Calls Tryd.prog 15 #[] w fun r w' => r = .returned (.bool true) ∧ w' = w := by
  go_enter Tryd.func15, Tryd.ntmps15
  go_wp2
  go_ret
  exact ⟨rfl, rfl⟩

set_option maxHeartbeats 400000 in
theorem putUint32_any (a : Option Addr) (len cap : Nat) (xs : List Int) (v : Int) (w : World) (hs : Sl w a len cap xs) (hv : 0 ≤ v) (hv2 : v < 4294967296) :
    Calls Tryd.prog 25 #[.slice a len cap, .int .u32 v] w fun e w' => ∃ g, e = .returned (.slice (some ⟨g, 0, none⟩) (len + 4) (len + 4)) ∧ w.heap.size ≤ g ∧ Blk w' g 5 (u8s (xs ++ be v 4)) ∧ Below w.heap.size w w' := by
  have HS := hide hs
  have hw : IntKind.u64.wrap v = v := by rw [IntKind.wrap_u64]; exact Int.emod_eq_of_lt hv (by omega)
  clear hs
  go_enter Tryd.func25, Tryd.ntmps25
  go_wp2_with (go_at_call 31; refine (putNumber_any _ _ _ xs v 4 _ HS.out (by omega) hv (by omega)).mono ?_; rintro e w1 ⟨g, rfl, hg, hrow, hb⟩)
  go_ret
  exact ⟨g, rfl, hg, hrow, hb⟩
set_option maxHeartbeats 400000 in
theorem uint32_any (a : Option Addr) (len cap : Nat) (xs : List Int) (p : Int) (w : World) (hs : Sl w a len cap xs) :
    Calls Tryd.prog 27 #[.slice a len cap, .int .i64 p] w fun e w' => e = .returned (.tuple #[.int .u32 (rdV xs p 4), .int .i64 (rdN len p 4), .int .i64 (rdE len p 4)]) ∧ w = w' := by
  have hb := rdV_bd xs hs.hbyte p 4
  have hb1 : 0 ≤ rdV xs p 4 := hb.1
  have hb2 : rdV xs p 4 < 4294967296 := hb.2
  have hw : IntKind.u32.wrap (rdV xs p 4) = rdV xs p 4 := by rw [IntKind.wrap_u32]; exact Int.emod_eq_of_lt hb1 hb2
  clear hb
  have HS := hide hs
  clear hs
  go_enter Tryd.func27, Tryd.ntmps27
  go_wp2_with (go_at_call 32; refine (number_any _ _ _ xs _ 4 _ HS.out (by omega) (by omega)).mono ?_; rintro e w' ⟨rfl, rfl⟩)
  go_ret3
  exact ⟨rfl, rfl⟩

end Go.Proofs.YtbkhlbaamjccjaaDoor
