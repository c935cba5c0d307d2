/-
  What the seats without hash take of the other texts: laws on slices of bytes, on digests; octet's and the document's numbers and digests read.
-/
import Derived.Test.YtojepbapdjkknaaNw
import Derived.Test.YtojepbapdjkknaaMe
import Derived.Deep.RegionLaw
namespace Go.Proofs.Ytojepbapdjkknaa
open Go.RowKit
set_option linter.unusedVariables false

theorem sizeB (w : World) : (sizeOf 5).run Try.prog w = .ok 1 w := by kernel_rfl
theorem und22 : Try.prog.underlying 22 = some (.slice (Try.prog.elem 22)) := by kernel_rfl
theorem elem22 : Try.prog.elem 22 = 5 := by kernel_rfl
/-- b[k:] -/
theorem slice_from {w : World} {a : Option Addr} {len cap : Nat} {xs : List Int} (h : Sl w a len cap xs) (k : Nat) (K : Int) (hK : K = (k : Int)) (hk : k ≤ len) :
    ∃ a', (∀ v : World, (Instr.slice 22 (.slice a len cap) (some (.int .i64 K)) none none).run Try.prog v = .ok (.slice a' (len - k) (cap - k)) v) ∧ Sl w a' (len - k) (cap - k) (xs.drop k) ∧ (∀ g, (0 < len → Apart g a) → 0 < len - k → Apart g a') := by
  subst hK
  have hrun : ∀ v : World, (Instr.slice 22 (.slice a len cap) (some (.int .i64 k)) none none).run Try.prog v = .ok (sliced a k len cap 1) v := fun v => by
    rw [run_slice_l v _ _ _ _ und22 .i64 k (by omega) (by omega), elem22, sizeB]
    simp
  obtain ⟨h1, h2, h3, h4, h5, h6, h7⟩ := h
  by_cases hc : k < cap
  · cases a with
    | none => have := h6 rfl; omega
    | some ad =>
      have es : sliced (some ad) k len cap 1 = .slice (some (ad.add k)) (len - k) (cap - k) := by
        simp only [sliced, Nat.mul_one]
        have : ¬ (cap = k) := by omega
        simp [this]
      refine ⟨some (ad.add k), fun v => by rw [hrun v, es], ?_, ?_⟩
      · refine ⟨by simp [h1], by omega, by omega, by omega, h5.drop k, (fun e => by cases e), fun h0 => ?_⟩
        obtain ⟨b, o, e, hce⟩ := h7 (by omega)
        cases e
        refine ⟨b, o + k, by rw [Addr.add_lit], fun i hi => ?_⟩
        rw [show o + k + i = o + (k + i) by omega, hce (k + i) (by omega)]
        simp [List.getD, List.getElem?_drop]
      · intro g ha h0 x hx
        cases hx
        have := ha (by omega) ad rfl
        unfold Addr.add
        split <;> exact this
  · obtain rfl : k = cap := by omega
    obtain rfl : len = k := by omega
    have es : sliced a len len len 1 = .slice a (len - len) (len - len) := by
      cases a <;> simp [sliced]
    refine ⟨a, fun v => by rw [hrun v, es], ?_, ?_⟩
    · rw [Nat.sub_self]
      exact ⟨by simp [h1], Nat.le_refl _, by omega, by omega, h5.drop _, fun _ => ⟨rfl, rfl⟩, fun h => absurd h (by omega)⟩
    · intro g _ h0
      omega
/-- Another world: of what was there only block g has turned. -/
structure Chg (g : Nat) (w w' : World) : Prop where
  os : w'.os = w.os
  tape : w'.tape = w.tape
  output : w'.output = w.output
  size : w.heap.size ≤ w'.heap.size
  block : ∀ k, k < w.heap.size → k ≠ g → w'.heap[k]? = w.heap[k]?
theorem Chg.refl (g : Nat) (w : World) : Chg g w w := ⟨rfl, rfl, rfl, Nat.le_refl _, fun _ _ _ => rfl⟩
theorem Chg.trans {g : Nat} {a b c : World} (h : Chg g a b) (k : Chg g b c) : Chg g a c :=
  ⟨k.os.trans h.os, k.tape.trans h.tape, k.output.trans h.output, Nat.le_trans h.size k.size, fun i hi hg => (k.block i (Nat.lt_of_lt_of_le hi h.size) hg).trans (h.block i hi hg)⟩
theorem Chg.of_but {g : Nat} {w w' : World} (h : But g w w') : Chg g w w' := ⟨h.os, h.tape, h.output, Nat.le_of_eq h.size.symm, fun k _ hk => h.block k hk⟩
theorem Chg.of_below {g : Nat} {w w' : World} (h : Below w.heap.size w w') : Chg g w w' := ⟨h.os, h.tape, h.output, h.size, fun k hk _ => h.block k hk⟩
theorem Chg.below {g B : Nat} {w w' : World} (h : Chg g w w') (hg : B ≤ g) (hB : B ≤ w.heap.size) : Below B w w' := ⟨h.os, h.tape, h.output, h.size, fun k hk => h.block k (by omega) (by omega)⟩
theorem Blk.chg {g k : Nat} {w w' : World} {t : TypeId} {cs : List Value} (h : Blk w k t cs) (hc : Chg g w w') (hk : k ≠ g) : Blk w' k t cs := by
  unfold Blk; rw [hc.block k h.lt hk]; exact h
theorem Sl.chg {g : Nat} {w w' : World} {a : Option Addr} {len cap : Nat} {xs : List Int} (h : Sl w a len cap xs) (hc : Chg g w w') (hk : 0 < len → Apart g a) : Sl w' a len cap xs := by
  obtain ⟨h1, h2, h3, h4, h5, h6, h7⟩ := h
  refine ⟨h1, h2, h3, h4, h5, h6, fun h => ?_⟩
  obtain ⟨b, off, e, hce⟩ := h7 h
  refine ⟨b, off, e, fun i hi => ?_⟩
  rw [World.cell?_of_block (w := w) (hc.block b (World.block_lt_of_cell? w _ (hce i hi)) (hk h ⟨b, off, none⟩ e))]
  exact hce i hi
/-- How long a slice is. -/
def lenOf : Value → Nat
  | .slice _ n _ => n
  | _ => 0
theorem chg_drew (g : Nat) (w : World) : Chg g w w.drew := ⟨rfl, rfl, rfl, Nat.le_refl _, fun _ _ _ => rfl⟩
theorem zD : Zeroed 33 (u8s (zer 32)) := fun _ _ _ _ _ _ _ => by kernel_rfl
theorem wD : Wide 33 32 := ⟨by kernel_rfl, by kernel_rfl⟩
theorem aD : Arr 33 5 .u8 32 := ⟨by kernel_rfl, by kernel_rfl, by kernel_rfl, by kernel_rfl, by kernel_rfl, by kernel_rfl⟩
/-- b[k:], b[:k] -/
theorem sl_from (g n cap k : Nat) (K : Int) (hK : K = (k : Int)) (hk : k ≤ n) (hc : n ≤ cap) : ∃ a', (∀ v : World, (Instr.slice 22 (.slice (some ⟨g, 0, none⟩) n cap) (some (.int .i64 K)) none none).run Try.prog v = .ok (.slice a' (n - k) (cap - k)) v) ∧
    (∀ (w' : World) (z : List Int), Sl w' (some ⟨g, 0, none⟩) n cap z → Sl w' a' (n - k) (cap - k) (z.drop k)) ∧ ∀ x, a' = some x → x.block = g := by
  subst hK
  by_cases h : k < cap
  · refine ⟨some ⟨g, 0 + k, none⟩, fun v => ?_, fun w' z hs => hs.drop k hk, fun x hx => by cases hx; rfl⟩
    rw [run_slice_l v _ _ _ _ und22 .i64 k (by omega) (by omega), elem22, sizeB]
    have : ¬ cap = k := by omega
    simp [sliced, this, Addr.add_lit]
  · obtain rfl : k = cap := by omega
    obtain rfl : n = k := by omega
    refine ⟨some ⟨g, 0, none⟩, fun v => ?_, fun w' z hs => ⟨by rw [List.length_drop, hs.hlen], by omega, by omega, by omega, hs.hbyte.drop _, (fun e => by cases e), fun h0 => by omega⟩, fun x hx => by cases hx; rfl⟩
    rw [run_slice_l v _ _ _ _ und22 .i64 n (by omega) (by omega), elem22, sizeB]
    simp [sliced]
theorem sl_to (g n cap k : Nat) (K : Int) (hK : K = (k : Int)) (hk : k ≤ cap) (v : World) :
    (Instr.slice 22 (.slice (some ⟨g, 0, none⟩) n cap) none (some (.int .i64 K)) none).run Try.prog v = .ok (.slice (some ⟨g, 0, none⟩) k cap) v := by
  subst hK
  rw [run_slice_h v _ _ _ _ und22 .i64 k (by omega) (by omega), elem22, sizeB]
  simp [sliced, Addr.add_lit]
section
variable {dst : Option Tmp} {ty : TypeId} {pos : String} {aft : Array Edge} {gd : Option (Nat × Bool)} {ops : Array Oper} {rest : List Oper} {a : Act} {w : World} {K : Act → World → Prop} {Q : Exit → Act → World → Prop}
theorem step_buildD (hw : Region.wanted ⟨dst, .build 33 #[], ty, pos, aft, gd⟩ (yielded ops a.tmps) = true)
    (h : wpList Try.prog ops Q rest (a.put dst (.agg (u8s (zer 32)).toArray)) w) : wpList Try.prog ops Q (⟨dst, .build 33 #[], ty, pos, aft, gd⟩ :: rest) a w :=
  step_run hw (.agg (u8s (zer 32)).toArray) w (by kernel_rfl) h
set_option maxRecDepth 100000 in
theorem wp_boxG {T : TypeId} {x : Operand} {cs : List Value} (hx : a.eval x = .agg cs.toArray) (h : ∀ w1 g, Blk w1 g T cs → w.heap.size ≤ g → Below w.heap.size w w1 → K (a.put dst (.pointer (some ⟨g, 0, none⟩))) w1) :
    Oper.wp Try.prog ⟨dst, .box T x, ty, pos, aft, gd⟩ a w K Q :=
  wp_runV (.pointer (some ⟨w.heap.size, 0, none⟩)) (w.alloc (.cells cs.toArray T)) (by simp [execOp, hx, Instr.box, newVar, newRow, Result.andThen, Value.cells])
    (h _ _ (Blk.made _ _ _) (Nat.le_refl _) ((Below.refl _ _).alloc (Nat.le_refl _) _))
end
theorem zD0 : Zeroed 32 (u8s (zer 32)) := fun _ _ _ _ _ _ _ => by kernel_rfl
theorem wD0 : Wide 32 32 := ⟨by kernel_rfl, by kernel_rfl⟩
theorem index_D (g i : Nat) (I : Int) (hI : I = (i : Int)) (hi : i < 32) (w : World) : (Instr.indexAt 32 (.pointer (some ⟨g, 0, none⟩)) (.int .i64 I)).run Try.prog w = .ok (.pointer (some ⟨g, i, none⟩)) w :=
  index_at (by kernel_rfl) (by kernel_rfl) (fun _ => by kernel_rfl) g i I hI hi w
theorem spl_snoc (cs vs : List Value) (v : Value) (o : Nat) (h : o + vs.length < cs.length) : (spl cs vs o).set (o + vs.length) v = spl cs (vs ++ [v]) o := by
  unfold spl
  rw [List.set_append_right _ _ (by simp; omega)]
  have e : o + vs.length - (cs.take o ++ vs).length = 0 := by simp; omega
  rw [e, List.drop_eq_getElem_cons h]
  simp [Nat.add_assoc]
theorem spl_length (cs vs : List Value) (o : Nat) (h : o + vs.length ≤ cs.length) : (spl cs vs o).length = cs.length := by
  simp [spl]; omega
theorem u8s_take_succ (B : List Int) (k : Nat) (h : k < B.length) : u8s (B.take (k + 1)) = u8s (B.take k) ++ [.int .u8 (B.getD k 0)] := by
  rw [List.take_succ_eq_append_getElem h, u8s_app]
  congr 1
  simp [u8s, List.getD, h]
theorem Blk.sl0 {w : World} {g : Nat} {t : TypeId} {xs : List Int} (h : Blk w g t (u8s xs)) (hb : isB xs) (hl : xs.length ≤ 140737488355328) : Sl w (some ⟨g, 0, none⟩) xs.length xs.length xs :=
  h.sl 0 xs.length xs (by rw [List.drop_zero, List.take_of_length_le (by rw [u8s_length]; exact Nat.le_refl _)]) hb hl (Nat.le_refl _) (by omega)
theorem Own.of_blk {w : World} {g B : Nat} {xs : List Int} (h : Blk w g 5 (u8s xs)) (hB : B ≤ g) (hl : xs.length ≤ 9223372036854775807) : Own w B (.slice (some ⟨g, 0, none⟩) xs.length xs.length) xs :=
  ⟨by simp [u8s_length], .inr ⟨g, xs.length, (u8s xs).toArray, rfl, hB, h, Nat.le_refl _, by unfold maxLen; omega, by simp [u8s_length], by rw [Nat.mul_one]; exact List.take_of_length_le (by simp [u8s_length])⟩⟩
theorem spl_all (B : List Int) (n : Nat) (h : B.length = n) : spl (u8s (zer n)) (u8s B) 0 = u8s B := by
  unfold spl
  rw [List.drop_of_length_le (by rw [u8s_length, u8s_length, zer_length, h]; omega)]
  simp
theorem spl_next (B : List Int) (n k : Nat) (h : B.length = n) (hk : k < n) : (spl (u8s (zer n)) (u8s (B.take k)) 0).set k (.int .u8 (B.getD k 0)) = spl (u8s (zer n)) (u8s (B.take (k + 1))) 0 := by
  have hl : (B.take k).length = k := by rw [List.length_take]; omega
  have e2 := spl_snoc (u8s (zer n)) (u8s (B.take k)) (.int .u8 (B.getD k 0)) 0 (by rw [u8s_length, u8s_length, hl, zer_length]; omega)
  rwa [u8s_length, hl, Nat.zero_add, ← u8s_take_succ _ _ (by omega)] at e2
theorem spl_there (B : List Int) (n k : Nat) (h : B.length = n) (hk : k < n) : ∃ old, (spl (u8s (zer n)) (u8s (B.take k)) 0)[k]? = some old := by
  have hl : (B.take k).length = k := by rw [List.length_take]; omega
  have : k < (spl (u8s (zer n)) (u8s (B.take k)) 0).length := by rw [spl_length _ _ _ (by rw [u8s_length, u8s_length, hl, zer_length]; omega), u8s_length, zer_length]; exact hk
  exact ⟨_, List.getElem?_eq_getElem this⟩
theorem results_wide3 {fn : Func} {p u v : Tmp} {T : TypeId} (h : fn.results = #[.cell p T, .tmp u, .tmp v]) {n : Nat} (hT : Wide T n) (tmps : Array Value) (w : World)
    {g : Nat} {t : TypeId} {cs : List Value} (hp : tmps.getD p undef = .pointer (some ⟨g, 0, none⟩)) (hg : Blk w g t cs) (hl : cs.length = n) :
    (results fn tmps).run Try.prog w = .ok (.tuple #[.agg cs.toArray, tmps.getD u undef, tmps.getD v undef]) w := by
  have hp' : tmps[p]?.getD undef = .pointer (some ⟨g, 0, none⟩) := by simpa using hp
  obtain ⟨d, hu, hd⟩ := hT.und
  simp [results, h, hp', asAddr, run_loadVar_mid w g 0 T cs d (hg.range 0 cs (by simp)) hu hd (by rw [hT.size, hl])]
theorem mul_step (v x : Int) (h0 : 0 ≤ v) (h1 : v < 72057594037927936) (h2 : 0 ≤ x) (h3 : x ≤ 255) :
    IntKind.u64.wrap (IntKind.u64.wrap (v * 256) + IntKind.u64.wrap x) = v * 256 + x := by
  rw [IntKind.wrap_u64, IntKind.wrap_u64, IntKind.wrap_u64, Int.emod_eq_of_lt (by omega) (by omega), Int.emod_eq_of_lt (by omega) (by omega)]
  omega
set_option maxHeartbeats 400000 in
theorem read_any (a : Option Addr) (len cap : Nat) (xs : List Int) (p : Int) (n : Nat) (w : World) (hs : Sl w a len cap xs) (hn : n ≤ 8) (hn0 : 0 < n) :
    Calls Try.prog 10 #[.slice a len cap, .int .i64 p, .int .i64 n] w fun e w' => e = .returned (.tuple #[.int .u64 (rdV xs p n), .int .i64 (rdN len p n), .int .i64 (rdE len p n)]) ∧ w = w' := by
  obtain ⟨hx, _, _, hl, hb, _, hc⟩ := hs
  by_cases h : p < 0 ∨ (len : Int) < p ∨ (len : Int) - p < n
  · have e1 : rdV xs p n = 0 := by simp [rdV, hx]; omega
    have e2 : rdN len p n = 0 := by simp [rdN]; omega
    rw [e1, e2]
    clear e1 e2 hc
    by_cases h1 : p < 0
    · have e3 : rdE len p n = 2 := by simp [rdE, h1]
      rw [e3]
      clear e3
      go_enter Try.func10, Try.ntmps10
      go_wp2
      go_ret3
      exact ⟨rfl, rfl⟩
    by_cases h2 : (len : Int) < p
    · have e3 : rdE len p n = 2 := by simp [rdE, h2]
      rw [e3]
      clear e3
      go_enter Try.func10, Try.ntmps10
      go_wp2
      go_ret3
      exact ⟨rfl, rfl⟩
    · have h3 : (len : Int) - p < n := by omega
      have e3 : rdE len p n = 10 := by simp [rdE, h1, h2, h3]
      rw [e3]
      clear e3 h
      go_enter Try.func10, Try.ntmps10
      go_wp2
      go_ret3
      exact ⟨rfl, rfl⟩
  · obtain ⟨p, rfl⟩ := Int.eq_ofNat_of_zero_le (show 0 ≤ p by omega)
    obtain ⟨b, off, rfl, hce⟩ := hc (by omega)
    clear hc
    have e1 : rdV xs p n = beVal ((xs.drop p).take n) := by simp only [rdV, hx]; rw [if_pos (by omega)]; simp
    have e2 : rdN len p n = p + n := by simp [rdN]; omega
    have e3 : rdE len p n = 0 := by simp [rdE]; omega
    rw [e1, e2, e3]
    clear e1 e2 e3
    have h1 : ¬ ((p : Int) < 0) := by omega
    have h2 : ¬ ((len : Int) < p) := by omega
    have h3 : ¬ ((len : Int) - p < n) := by omega
    clear h
    go_enter Try.func10, Try.ntmps10
    go_wp2
    go_loop [9, 10] (fun v i => ∃ k : Nat, k ≤ n ∧ i = .int .i64 k ∧ v = .int .u64 (beVal ((xs.drop p).take k))) (fun _ i => n - (intOf i).toNat)
    case atStart => exact ⟨0, Nat.zero_le _, rfl, by simp [beVal]⟩
    case round =>
      obtain ⟨k, hk, rfl, rfl⟩ := hrel
      by_cases hlt : k < n
      · have hck := hce (p + k) (by omega)
        have HS : Hid _ := beVal_step xs p k (by omega)
        have H2 : Hid _ := hb.get (p + k)
        have H3 : Hid _ := beVal_take_bd xs hb p k (by omega) (by omega)
        go_wp2
        go_round
        case rel =>
          refine ⟨k + 1, by omega, by go_num, ?_⟩
          rw [HS.out, ← mul_step _ _ H3.out.1 H3.out.2 H2.out.1 H2.out.2]
          rfl
        case measure => simp [intOf]; omega
      · have hkn : k = n := by omega
        subst hkn
        clear hce
        go_wp2
        go_ret3
        exact ⟨rfl, rfl⟩
set_option maxHeartbeats 400000 in
theorem room_any (a : Option Addr) (len cap : Nat) (p : Int) (n : Nat) (w : World) (hl : len ≤ 140737488355328) (hn : n ≤ 32) :
    Calls Try.prog 28 #[.slice a len cap, .int .i64 p, .int .i64 n] w fun e w' => e = .returned (.int .i64 (rdE len p n)) ∧ w = w' := by
  by_cases h : p < 0
  · have e : rdE len p n = 2 := by simp [rdE, h]
    rw [e]
    go_enter Try.func28, Try.ntmps28
    go_wp2
    go_ret
    exact ⟨rfl, rfl⟩
  by_cases h' : (len : Int) < p
  · have e : rdE len p n = 2 := by simp [rdE, h']
    rw [e]
    clear e
    go_enter Try.func28, Try.ntmps28
    go_wp2
    go_ret
    exact ⟨rfl, rfl⟩
  by_cases h2 : (len : Int) - p < n
  · have e : rdE len p n = 10 := by simp [rdE, h, h', h2]
    rw [e]
    clear e
    go_enter Try.func28, Try.ntmps28
    go_wp2
    go_ret
    exact ⟨rfl, rfl⟩
  · have e : rdE len p n = 0 := by simp [rdE, h, h', h2]
    rw [e]
    clear e
    go_enter Try.func28, Try.ntmps28
    go_wp2
    go_ret
    exact ⟨rfl, rfl⟩
set_option maxHeartbeats 400000 in
theorem number_any (a : Option Addr) (len cap : Nat) (xs : List Int) (p : Int) (n : Nat) (w : World) (hs : Sl w a len cap xs) (hn : n ≤ 8) (hn0 : 0 < n) :
    Calls Try.prog 25 #[.slice a len cap, .int .i64 p, .int .i64 n] w fun e w' => e = .returned (.tuple #[.int .u64 (rdV xs p n), .int .i64 (rdN len p n), .int .i64 (rdE len p n)]) ∧ w = w' := by
  obtain ⟨hx, _, _, hl, hb, _, hc⟩ := hs
  by_cases h : p < 0 ∨ (len : Int) < p ∨ (len : Int) - p < n
  · have e1 : rdV xs p n = 0 := by simp [rdV, hx]; omega
    have e2 : rdN len p n = 0 := by simp [rdN]; omega
    have e3 : rdE len p n = 2 ∨ rdE len p n = 10 := by
      by_cases h1 : p < 0 ∨ (len : Int) < p
      · left; simp [rdE, h1]
      · right; have h2 : (len : Int) - p < n := by omega
        simp [rdE, h1, h2]
    rw [e1, e2]
    have hne : (rdE len p n != 0) = true := by simp; omega
    clear e1 e2 hc e3
    go_enter Try.func25, Try.ntmps25
    go_wp2_with (go_at_call 28; refine (room_any _ _ _ _ _ _ hl (by omega)).mono ?_; rintro e w' ⟨rfl, rfl⟩)
    go_ret3
    exact ⟨rfl, rfl⟩
  · obtain ⟨p, rfl⟩ := Int.eq_ofNat_of_zero_le (show 0 ≤ p by omega)
    obtain ⟨b, off, rfl, hce⟩ := hc (by omega)
    clear hc
    have e1 : rdV xs p n = beVal ((xs.drop p).take n) := by simp only [rdV, hx]; rw [if_pos (by omega)]; simp
    have e2 : rdN len p n = p + n := by simp [rdN]; omega
    have e3 : rdE len p n = 0 := by simp [rdE]; omega
    rw [e1, e2, e3]
    have E3 : Hid (rdE len p n = 0) := e3
    clear e1 e2 e3
    go_enter Try.func25, Try.ntmps25
    go_wp2_with (go_at_call 28; refine (room_any _ _ _ _ _ _ hl (by omega)).mono ?_; rintro e w' ⟨rfl, rfl⟩; rw [E3.out])
    go_loop [6, 19] (fun v i => ∃ k : Nat, k ≤ n ∧ i = .int .i64 k ∧ v = .int .u64 (beVal ((xs.drop p).take k))) (fun _ i => n - (intOf i).toNat)
    case atStart => exact ⟨0, Nat.zero_le _, rfl, by simp [beVal]⟩
    case round =>
      obtain ⟨k, hk, rfl, rfl⟩ := hrel
      by_cases hlt : k < n
      · have hck := hce (p + k) (by omega)
        have HS : Hid _ := beVal_step xs p k (by omega)
        have H2 : Hid _ := hb.get (p + k)
        have H3 : Hid _ := beVal_take_bd xs hb p k (by omega) (by omega)
        go_wp2
        go_round
        case rel =>
          refine ⟨k + 1, by omega, by go_num, ?_⟩
          rw [HS.out, ← or_step _ _ H3.out.1 H3.out.2 H2.out.1 H2.out.2]
          rfl
        case measure => simp [intOf]; omega
      · have hkn : k = n := by omega
        subst hkn
        clear hce
        go_wp2
        go_ret3
        exact ⟨rfl, rfl⟩
set_option maxHeartbeats 400000 in
theorem uint64_any (a : Option Addr) (len cap : Nat) (xs : List Int) (p : Int) (w : World) (hs : Sl w a len cap xs) :
    Calls Try.prog 19 #[.slice a len cap, .int .i64 p] w fun e w' => e = .returned (.tuple #[.int .u64 (rdV xs p 8), .int .i64 (rdN len p 8), .int .i64 (rdE len p 8)]) ∧ w = w' := by
  go_enter Try.func19, Try.ntmps19
  go_wp2_with (go_at_call 25; refine (number_any _ _ _ xs _ 8 _ hs (by omega) (by omega)).mono ?_; rintro e w' ⟨rfl, rfl⟩)
  go_ret3
  exact ⟨rfl, rfl⟩
set_option maxHeartbeats 400000 in
theorem octD_bad (a : Option Addr) (len cap : Nat) (p : Int) (w : World) (hl : len ≤ 140737488355328) (h : p < 0 ∨ (len : Int) < p ∨ (len : Int) - p < 32) :
    Calls Try.prog 22 #[.slice a len cap, .int .i64 p] w fun e w' => (∃ E, E ≠ 0 ∧ e = .returned (.tuple #[.agg (u8s (zer 32)).toArray, .int .i64 0, .int .i64 E])) ∧ Below w.heap.size w w' := by
  have e3 : rdE len p 32 = 2 ∨ rdE len p 32 = 10 := by
    by_cases h1 : p < 0 ∨ (len : Int) < p
    · left; simp [rdE, h1]
    · right; have h2 : (len : Int) - p < 32 := by omega
      simp [rdE, h1, h2]
  have hne0 : rdE len p 32 ≠ 0 := by omega
  have hne : (rdE len p 32 != 0) = true := by simp; omega
  have HNE := hide hne0
  clear e3 h hne0
  go_enter Try.func22, Try.ntmps22
  go_wp2_with (refine step_alloc zD rfl ?_)
  intro w1 g1 hr1 hg1 hb1
  have G1 := hide hr1
  clear hr1
  go_wp2_with (first | (go_at_call 28; refine (room_any _ _ _ _ 32 _ hl (by omega)).mono ?_; rintro e w' ⟨rfl, rfl⟩) | (refine step_buildD rfl ?_) | (refine step_storeA wD rfl rfl rfl G1.out rfl (One.u8 _) rfl ?_; intro w2 hg2 hbut))
  refine bodyPost_ret (results_wide3 rfl wD _ _ rfl hg2 rfl) rfl ⟨⟨_, HNE.out, rfl⟩, ?_⟩
  exact hb1.trans (hbut.below hg1)
theorem spl_full {cs vs : List Value} (h : vs.length = cs.length) : spl cs vs 0 = vs := by
  unfold spl
  rw [List.drop_of_length_le (by omega)]
  simp
set_option maxHeartbeats 400000 in
theorem octD_ok (b off len cap : Nat) (xs : List Int) (p : Nat) (w : World) (hs : Sl w (some ⟨b, off, none⟩) len cap xs) (h : p + 32 ≤ len) :
    Calls Try.prog 22 #[.slice (some ⟨b, off, none⟩) len cap, .int .i64 (p : Int)] w fun e w' => e = .returned (.tuple #[.agg (u8s ((xs.drop p).take 32)).toArray, .int .i64 (p + 32 : Int), .int .i64 0]) ∧ Below w.heap.size w w' := by
  have hl := hs.hreach
  have hcap := hs.hcap
  have HS := hide hs
  obtain ⟨ys, HYE⟩ : ∃ ys, Hid ((xs.drop p).take 32 = ys) := ⟨_, hide rfl⟩
  have HY : Hid (ys.length = 32) := hide (by rw [← HYE.out]; simp; have := hs.hlen; omega)
  have HUL : Hid ((u8s ys).length = 32) := hide (by rw [u8s_length, HY.out])
  rw [HYE.out]
  have E3 : Hid (rdE len p 32 = 0) := by show _ = _; simp [rdE]; omega
  clear hs
  go_enter Try.func22, Try.ntmps22
  go_wp2_with (refine step_alloc zD rfl ?_)
  intro w1 g1 hr1 hg1 hb1
  go_wp2_with (go_at_call 28; refine (room_any _ _ _ _ 32 _ hl (by omega)).mono ?_; rintro e w' ⟨rfl, rfl⟩; rw [E3.out])
  have hpl : p ≤ len := by omega
  have hpc : ¬ cap = p := by omega
  have HD := hide ((((HS.out.below hb1).drop p hpl)).below ((Below.refl _ _).drew))
  go_region_law (refine rstep_copy rfl rfl rfl rfl HD.out g1 0 32 (by omega) hr1 (fun _ => rfl) (by simp [u8s_length, zer_length]) ?_; intro w3 hr3 hbut3)
  rw [HYE.out, spl_full (by rw [HUL.out]; rfl)] at hr3
  have G3 := hide hr3
  have hb3 : Below w.heap.size w w3 := hb1.drew.trans (hbut3.below hg1)
  clear hr1 hr3 hbut3 HD
  go_wp2_with (first | (refine step_loadA wD rfl rfl G3.out HUL.out ?_) | (refine step_storeA wD rfl rfl rfl G3.out HUL.out (One.u8 _) HUL.out ?_))
  intro w5 hr5 hbut5
  go_wp2
  refine bodyPost_ret (results_wide3 rfl wD _ _ rfl hr5 HUL.out) rfl ⟨?_, hb3.trans (hbut5.below hg1)⟩
  simp
theorem sub_get (xs : List Int) (p i : Nat) (hi : i < 32) : ((xs.drop p).take 32).getD i 0 = xs.getD (p + i) 0 := by
  simp [List.getD, List.getElem?_drop, hi]
theorem elemBy : Try.prog.elem 22 = 5 := by kernel_rfl
set_option maxRecDepth 100000 in
theorem b_at (b o n cap i : Nat) (hi : i < n) (v : World) : (Instr.indexAt 22 (.slice (some ⟨b, o, none⟩) n cap) (.int .i64 (i : Int))).run Try.prog v = .ok (.pointer (some ⟨b, o + i, none⟩)) v := by
  rw [run_indexAt_slice v _ _ _ _ .i64 i undBs, if_pos ⟨by omega, by omega⟩, elemBy, sizeB]
  simp only [Result.andThen_ok, Int.toNat_natCast]
  rw [Addr.add_lit, Nat.mul_one]
set_option maxRecDepth 100000 in
set_option maxHeartbeats 2000000 in
theorem digAt_any (a : Option Addr) (len cap : Nat) (xs : List Int) (p : Nat) (w : World) (hs : Sl w a len cap xs) (hp : p + 32 ≤ len) :
    Calls Try.prog 11 #[.slice a len cap, .int .i64 (p : Int)] w fun r w' => r = .returned (.tuple #[.agg (u8s ((xs.drop p).take 32)).toArray, .int .i64 ((p : Int) + 32), .int .i64 0]) ∧ Below w.heap.size w w' := by
  have hlen := hs.hlen
  have hmx := hs.hreach
  obtain ⟨b, off, rfl, hce⟩ := hs.hcell (by omega)
  have hbl : b < w.heap.size := World.block_lt_of_cell? w _ (hce 0 (by omega))
  obtain ⟨ys, HY⟩ : ∃ ys, Hid ((xs.drop p).take 32 = ys) := ⟨_, hide rfl⟩
  have HX : Hid (ys.length = 32) := hide (by rw [← HY.out, List.length_take, List.length_drop]; omega)
  have HCE : Hid (∀ i, i < 32 → w.cell? ⟨b, off + (p + i), none⟩ = some (.int .u8 (ys.getD i 0))) := hide (fun i hi => by
    rw [← HY.out, sub_get xs p i hi]
    exact hce (p + i) (by omega))
  have hp0 : ¬ (p : Int) < 0 := by omega
  have hp1 : ¬ (len : Int) < (p : Int) := by omega
  have hp2 : wrap64 ((len : Int) - (p : Int)) = (len : Int) - (p : Int) := by unfold wrap64; omega
  have hp3 : ¬ (len : Int) - (p : Int) < 32 := by omega
  have hp4 : wrap64 ((p : Int) + 32) = (p : Int) + 32 := by unfold wrap64; omega
  rw [HY.out]
  clear hs hce hlen
  go_enter Try.func11, Try.ntmps11
  go_wp2_with (refine step_alloc zD0 rfl ?_)
  intro w1 g1 hg1 hle1 hb1
  go_wp2_with (refine step_alloc zD0 rfl ?_)
  intro w2 g2 hg2 hle2 hb2
  have hb12 : Below w.heap.size w w2 := hb1.trans (hb2.mono hb1.size)
  have G1 := hide (hg1.below hb2 hg1.lt)
  have G2 := hide hg2
  have n12 : g1 ≠ g2 := by have := hg1.lt; omega
  have l2 : w.heap.size ≤ g2 := by have := hb1.size; omega
  have HCE2 : Hid (∀ i, i < 32 → w2.cell? ⟨b, off + (p + i), none⟩ = some (.int .u8 (ys.getD i 0))) := hide (fun i hi => by
    rw [hb12.cell (p := ⟨b, off + (p + i), none⟩) hbl]; exact HCE.out i hi)
  have HB12 := hide hb12
  clear hg1 hg2 hb1 hb2 hb12 HCE hle2
  go_wp2
  go_loopw [8] (fun i wq => ∃ k : Nat, k ≤ 32 ∧ i = .int .i64 k ∧ Blk wq g2 32 (spl (u8s (zer 32)) (u8s (ys.take k)) 0) ∧ But g2 w2 wq) (fun i _ => 32 - (intOf i).toNat)
  case atStart => exact ⟨0, by omega, rfl, G2.out, But.refl _ _⟩
  case round =>
    clear G2
    obtain ⟨k, hk, rfl, hr, hbut⟩ := hrel
    have HR := hide hr
    have HBut := hide hbut
    clear hr hbut
    by_cases hk32 : k < 32
    · obtain ⟨old, hold⟩ := spl_there ys 32 k HX.out hk32
      have hcell : wr.cell? ⟨g2, k, none⟩ = some old := by rw [HR.out.cell]; exact hold
      have hfree : wr.frozen? ⟨g2, k, none⟩ = false := HR.out.free k
      have hsrc : wr.cell? ⟨b, off + (p + k), none⟩ = some (.int .u8 (ys.getD k 0)) := by
        rw [World.cell?_of_block (w := w2) (HBut.out.block b (by omega)), HCE2.out k hk32]
      have hkL : (k : Int) < 32 := by omega
      have hpk : wrap64 ((p : Int) + (k : Int)) = (p : Int) + (k : Int) := by unfold wrap64; omega
      have x2 := index_D g2 k (k : Int) rfl hk32
      have x1 : ∀ v : World, (Instr.indexAt 22 (.slice (some ⟨b, off, none⟩) len cap) (.int .i64 ((p : Int) + (k : Int)))).run Try.prog v = .ok (.pointer (some ⟨b, off + (p + k), none⟩)) v := fun v => by
        rw [show (p : Int) + (k : Int) = ((p + k : Nat) : Int) by omega]
        exact b_at b off len cap (p + k) (by omega) v
      have HN := hide (spl_next ys 32 k HX.out hk32)
      clear hold
      go_wp2
      refine ⟨⟨k + 1, by omega, by go_num, ?_, HBut.out.trans (But.setCell _ _ _ _)⟩, ?_⟩
      · have e := HR.out.set k (.int .u8 (ys.getD k 0))
        rw [HN.out] at e
        exact e
      · simp [intOf]; omega
    · obtain rfl : k = 32 := by omega
      have HF := hide HR.out
      rw [List.take_of_length_le (by rw [HX.out]; exact Nat.le_refl _), spl_all ys 32 HX.out] at HF
      have G1q := hide (G1.out.but HBut.out n12)
      go_wp2_with (first | (refine step_loadA wD0 rfl rfl HF.out (by rw [u8s_length]; exact HX.out) ?_) | (refine step_storeA wD0 rfl rfl rfl G1q.out (by rw [u8s_length]; exact HX.out) (One.u8 _) rfl ?_; intro w6 hg6 hbut6))
      refine bodyPost_ret (results_wide3 rfl wD0 _ _ rfl hg6 (by rw [u8s_length]; exact HX.out)) rfl ⟨rfl, ?_⟩
      exact HB12.out.trans ((HBut.out.below l2).trans (hbut6.below hle1))


end Go.Proofs.Ytojepbapdjkknaa
