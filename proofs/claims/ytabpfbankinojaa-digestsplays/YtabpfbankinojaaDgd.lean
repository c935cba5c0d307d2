/-
  Slices of digests, as bytes one behind the other, for seats without hash (out of Dg, Da, Pb).
-/
import Derived.Test.YtabpfbankinojaaDga
import Derived.Great.BuildSlice
namespace Go.Proofs.Ytabpfbankinojaa
open Go.RowKit
set_option linter.unusedVariables false

theorem Blk.sl0 {w : World} {g : Nat} {t : TypeId} {xs : List Int} (h : Blk w g t (u8s xs)) (hb : isB xs) (hl : xs.length ≤ 140737488355328) : Sl w (some ⟨g, 0, none⟩) xs.length xs.length xs :=
  h.sl 0 xs.length xs (by rw [List.drop_zero, List.take_of_length_le (by rw [u8s_length]; exact Nat.le_refl _)]) hb hl (Nat.le_refl _) (by omega)
theorem undDs : Try.prog.underlying 52 = some (.slice (Try.prog.elem 52)) := by kernel_rfl
theorem elemDs : Try.prog.elem 52 = 24 := by kernel_rfl
theorem sizeDs (w : World) : (sizeOf 24).run Try.prog w = .ok 32 w := by kernel_rfl
theorem undDl : Try.prog.underlying 52 = some (.slice 24) := by kernel_rfl
theorem infoD : (Try.prog.info? 24).map (fun i => (i.zero, i.size, i.bytes)) = some (some (.agg (u8s (zer 32)).toArray), 32, 32) := by kernel_rfl

/-- A slice of digests in memory: their bytes are xs. -/
structure Ds (w : World) (a : Option Addr) (len cap : Nat) (xs : List Int) : Prop where
  hcap : len ≤ cap
  hmax : cap ≤ 9223372036854775807
  hnil : a = none → cap = 0
  sl : Sl w a (32 * len) (32 * len) xs
theorem Ds.hlen {w : World} {a : Option Addr} {len cap : Nat} {xs : List Int} (h : Ds w a len cap xs) : xs.length = 32 * len := h.sl.hlen
theorem Ds.hbyte {w : World} {a : Option Addr} {len cap : Nat} {xs : List Int} (h : Ds w a len cap xs) : isB xs := h.sl.hbyte
theorem Ds.hreach {w : World} {a : Option Addr} {len cap : Nat} {xs : List Int} (h : Ds w a len cap xs) : len ≤ 4398046511104 := by have := h.sl.hreach; omega
theorem Ds.below {w w' : World} {a : Option Addr} {len cap : Nat} {xs : List Int} (h : Ds w a len cap xs) (hb : Below w.heap.size w w') : Ds w' a len cap xs := ⟨h.hcap, h.hmax, h.hnil, h.sl.below hb⟩
theorem Ds.place {w : World} {a : Option Addr} {len cap : Nat} {xs : List Int} (h : Ds w a len cap xs) (h0 : 0 < len) : ∃ b o, a = some ⟨b, o, none⟩ := by
  obtain ⟨b, o, e, _⟩ := h.sl.hcell (by omega)
  exact ⟨b, o, e⟩
theorem Ds.take {w : World} {a : Option Addr} {len cap : Nat} {xs : List Int} (h : Ds w a len cap xs) (k : Nat) (hk : k ≤ len) : Ds w a k cap (xs.take (32 * k)) := by
  have hc := h.hcap
  have ht := h.sl.take (32 * k) (by omega)
  have hr := ht.hreach
  refine ⟨by omega, h.hmax, h.hnil, ht.hlen, by omega, by omega, ht.hreach, ht.hbyte, fun e => ?_, ht.hcell⟩
  have := h.sl.hnil e
  omega
theorem Ds.drop {w : World} {b o len cap : Nat} {xs : List Int} (h : Ds w (some ⟨b, o, none⟩) len cap xs) (k : Nat) (hk : k ≤ len) : Ds w (some ⟨b, o + 32 * k, none⟩) (len - k) (cap - k) (xs.drop (32 * k)) := by
  have hc := h.hcap
  have hm := h.hmax
  have ht := h.sl.drop (32 * k) (by omega)
  have e : 32 * len - 32 * k = 32 * (len - k) := by omega
  rw [e] at ht
  exact ⟨by omega, by omega, (fun e => by cases e), ht⟩
/-- The i-th of them. -/
def dat (xs : List Int) (i : Nat) : List Int := (xs.drop (32 * i)).take 32
theorem dat_length {xs : List Int} {n i : Nat} (h : xs.length = 32 * n) (hi : i < n) : (dat xs i).length = 32 := by
  simp [dat]; omega
theorem dat_isB {xs : List Int} (h : isB xs) (i : Nat) : isB (dat xs i) := (h.drop _).take _
theorem Ds.range {w : World} {b o len cap : Nat} {xs : List Int} (h : Ds w (some ⟨b, o, none⟩) len cap xs) (i : Nat) (hi : i < len) : w.rangeAt b (o + 32 * i) (u8s (dat xs i)) := by
  obtain ⟨b', o', e, hc⟩ := h.sl.hcell (by omega)
  cases e
  intro j v hj
  have hd := dat_length h.hlen hi
  have hjl : j < 32 := by
    have := (List.getElem?_eq_some_iff.1 hj).1
    rwa [u8s_length, hd] at this
  rw [show o + 32 * i + j = o + (32 * i + j) by omega, hc (32 * i + j) (by omega)]
  rw [u8s_get _ _ (by omega)] at hj
  rw [← hj]
  simp [dat, List.getD, List.getElem?_drop, hjl]

section
variable {dst : Option Tmp} {ty : TypeId} {pos : String} {aft : Array Edge} {gd : Option (Nat × Bool)} {ops : Array Oper} {rest : List Oper} {a : Act} {w : World} {Q : Exit → Act → World → Prop}
/-- A value of many cells in the midst of a block is loaded. -/
theorem step_loadR {T : TypeId} {n : Nat} (hT : Wide T n) {x : Operand} (hw : Region.wanted ⟨dst, .load T x, ty, pos, aft, gd⟩ (yielded ops a.tmps) = true) {g off : Nat} (hx : a.eval x = .pointer (some ⟨g, off, none⟩))
    (vs : List Value) (hr : w.rangeAt g off vs) (hn : vs.length = n) (h : wpList Try.prog ops Q rest (a.put dst (.agg vs.toArray)) w) :
    wpList Try.prog ops Q (⟨dst, .load T x, ty, pos, aft, gd⟩ :: rest) a w := by
  refine BigFrame.wpList_want hw fun _ hK => ?_
  subst hn
  obtain ⟨d, hu, hd⟩ := hT.und
  exact wp_load_mid T x rfl g off hx vs d hr hu hd hT.size (hK _ _ h)
end

theorem d_at (b o n cap i : Nat) (I : Int) (hI : I = (i : Int)) (hi : i < n) (v : World) : (Instr.indexAt 52 (.slice (some ⟨b, o, none⟩) n cap) (.int .i64 I)).run Try.prog v = .ok (.pointer (some ⟨b, o + 32 * i, none⟩)) v := by
  subst hI
  rw [run_indexAt_slice v _ _ _ _ .i64 i undDs, if_pos ⟨by omega, by omega⟩, elemDs, sizeDs]
  simp only [Result.andThen_ok, Int.toNat_natCast]
  rw [Addr.add_lit, Nat.mul_comm]
theorem d_to (b o n cap k : Nat) (K : Int) (hK : K = (k : Int)) (hk : k ≤ cap) (v : World) : (Instr.slice 52 (.slice (some ⟨b, o, none⟩) n cap) none (some (.int .i64 K)) none).run Try.prog v = .ok (.slice (some ⟨b, o, none⟩) k cap) v := by
  subst hK
  rw [run_slice_h v _ _ _ _ undDs .i64 k (by omega) (by omega), elemDs, sizeDs]
  simp [sliced, Addr.add_lit]
theorem d_from (b o n cap k : Nat) (K : Int) (hK : K = (k : Int)) (hk : k < n) (hc : n ≤ cap) (v : World) : (Instr.slice 52 (.slice (some ⟨b, o, none⟩) n cap) (some (.int .i64 K)) none none).run Try.prog v = .ok (.slice (some ⟨b, o + 32 * k, none⟩) (n - k) (cap - k)) v := by
  subst hK
  rw [run_slice_l v _ _ _ _ undDs .i64 k (by omega) (by omega), elemDs, sizeDs]
  have hne : ¬ cap = k := by omega
  simp [sliced, hne, Addr.add_lit, Nat.mul_comm]
theorem d_mid (b o n cap k h : Nat) (K H : Int) (hK : K = (k : Int)) (hH : H = (h : Int)) (hk : k < h) (hc : h ≤ cap) (v : World) : (Instr.slice 52 (.slice (some ⟨b, o, none⟩) n cap) (some (.int .i64 K)) (some (.int .i64 H)) none).run Try.prog v = .ok (.slice (some ⟨b, o + 32 * k, none⟩) (h - k) (cap - k)) v := by
  subst hK hH
  rw [run_slice_lh v _ _ _ _ undDs .i64 .i64 k h (by omega) (by omega) (by omega), elemDs, sizeDs]
  have hne : ¬ cap = k := by omega
  simp [sliced, hne, Addr.add_lit, Nat.mul_comm]

/-- A slice of digests of the call's own. -/
def DOwn (w : World) (B : Nat) (v : Value) (n : Nat) (xs : List Int) : Prop := w.ownsRow B 24 32 v n (u8s xs)
theorem DOwn.nil (w : World) (B : Nat) : DOwn w B (.slice none 0 0) 0 [] := World.ownsRow_nil _ _ _ _
theorem DOwn.lt {w : World} {B : Nat} {v : Value} {n : Nat} {xs : List Int} (h : DOwn w B v n xs) : ∀ k, v.ownBlock = some k → B ≤ k := fun k hk => (World.ownsRow.lt h k hk).1
theorem DOwn.alloc {w : World} {B : Nat} {v : Value} {n : Nat} {xs : List Int} (h : DOwn w B v n xs) (o : Obj) : DOwn (w.alloc o) B v n xs := World.ownsRow.alloc h o
theorem DOwn.below {w w' : World} {B : Nat} {v : Value} {n : Nat} {xs : List Int} (h : DOwn w B v n xs) (hb : Below w.heap.size w w') : DOwn w' B v n xs := by
  obtain ⟨h1, h2⟩ := h
  refine ⟨h1, ?_⟩
  rcases h2 with h2 | ⟨g, cap, cur, e, hg, hh, r⟩
  · exact .inl h2
  · refine .inr ⟨g, cap, cur, e, hg, ?_, r⟩
    rw [hb.block g (Array.getElem?_eq_some_iff.1 hh).1]
    exact hh
theorem DOwn.len {w : World} {B : Nat} {v : Value} {n : Nat} {xs : List Int} (h : DOwn w B v n xs) : xs.length = 32 * n := by
  have := h.1
  rw [u8s_length] at this
  omega
theorem DOwn.ds {w : World} {B : Nat} {v : Value} {n : Nat} {xs : List Int} (h : DOwn w B v n xs) (hb : isB xs) (hn : n ≤ 4398046511104) :
    ∃ a cap, v = .slice a n cap ∧ Ds w a n cap xs ∧ ∀ x, a = some x → B ≤ x.block := by
  have hl := h.len
  obtain ⟨_, h2⟩ := h
  rcases h2 with ⟨rfl, rfl⟩ | ⟨g, cap, cur, rfl, hB, hh, h3, h4, h5, h6⟩
  · obtain rfl : xs = [] := List.eq_nil_of_length_eq_zero hl
    exact ⟨none, 0, rfl, ⟨Nat.le_refl _, by omega, fun _ => rfl, Sl.none0 _⟩, fun x hx => by cases hx⟩
  · refine ⟨some ⟨g, 0, none⟩, cap, rfl, ⟨h3, by simpa [maxLen] using h4, (fun e => by cases e), hl, Nat.le_refl _, by omega, by omega, hb, (fun e => by cases e), fun _ => ⟨g, 0, rfl, fun i hi => ?_⟩⟩, fun x hx => by cases hx; exact hB⟩
    rw [Nat.zero_add, cell_of_row w g i cur 24 (0, 0) hh]
    have e : (cur.toList.take (n * 32))[i]? = some (.int .u8 (xs.getD i 0)) := by rw [h6]; exact u8s_get xs i (by omega)
    rw [List.getElem?_take, if_pos (by omega)] at e
    simpa using e

theorem wp_appendD {o : Oper} {K : Act → World → Prop} {s x : Operand} {a : Act} {w : World} {Q : Exit → Act → World → Prop}
    {B : Nat} {v : Value} {n : Nat} {xs : List Int} {sa : Option Addr} {m c : Nat} {ys : List Int}
    (ho : o.op = .call { callee := .builtin .append, args := #[s, x], argTypes := #[52, 52] }) (hs : a.eval s = v) (hx : a.eval x = .slice sa m c) (hown : DOwn w B v n xs) (hy : Ds w sa m c ys)
    (hlen : n + m ≤ 4398046511104) (hB : B ≤ w.heap.size)
    (h : ∀ v' w', DOwn w' B v' (n + m) (xs ++ ys) → w.grownBy w' v.ownBlock → K (a.put o.dst v') w') : Oper.wp Try.prog o a w K Q := by
  obtain ⟨i0, hi, hz0, hz1, hz2⟩ := info_parts infoD
  cases sa with
  | none =>
    have hc0 := hy.hnil rfl
    have hm0 : m = 0 := by have := hy.hcap; omega
    subst hc0 hm0
    obtain rfl : ys = [] := List.eq_nil_of_length_eq_zero hy.hlen
    have hrun := run_append_owned_none (P := Try.prog) (w := w) B 52 o.type 24 i0 32 undDl hi v _ _ hown
    unfold Oper.wp
    simp [execOp, ho, resolve, invoke, builtin, hs, hx, hrun, Result.andThen]
    exact (h v w (by simpa using hown) (World.grownBy.refl _ _))
  | some ad =>
    refine wp_append_own _ s x 52 ho B 24 i0 (.agg (u8s (zer 32)).toArray) 32 32 undDl hi hz0 hz1 hz2 rfl (by decide) v _ _ hs hown ad m c (u8s ys) hx (by rw [u8s_length, hy.hlen, Nat.mul_comm]) ?_ (One.u8 ys) ?_ ?_ hB ?_
    · intro j u hu
      have hj : j < 32 * m := by
        have := (List.getElem?_eq_some_iff.1 hu).1
        rwa [u8s_length, hy.hlen] at this
      obtain ⟨b, off, e, hc⟩ := hy.sl.hcell (by omega)
      obtain rfl := Option.some.inj e
      rw [Addr.add_lit, hc j hj]
      rw [u8s_get ys j (by rw [hy.hlen]; exact hj)] at hu
      exact hu
    · unfold maxLen; omega
    · omega
    · intro v' w' h1 h2 h3
      exact (h v' w' (by unfold DOwn; rw [u8s_app]; exact h1) h2)
theorem step_appendD {dst : Option Tmp} {s x : Operand} {ty : TypeId} {pos : String} {aft : Array Edge} {gd : Option (Nat × Bool)} {ops : Array Oper} {rest : List Oper} {a : Act} {w : World} {Q : Exit → Act → World → Prop}
    {B : Nat} {v : Value} {n : Nat} {xs : List Int} {sa : Option Addr} {m c : Nat} {ys : List Int}
    (hw : Region.wanted ⟨dst, .call { callee := .builtin .append, args := #[s, x], argTypes := #[52, 52] }, ty, pos, aft, gd⟩ (yielded ops a.tmps) = true)
    (hs : a.eval s = v) (hx : a.eval x = .slice sa m c) (hown : DOwn w B v n xs) (hy : Ds w sa m c ys) (hlen : n + m ≤ 4398046511104) (hB : B ≤ w.heap.size)
    (h : ∀ v' w', DOwn w' B v' (n + m) (xs ++ ys) → w.grownBy w' v.ownBlock → wpList Try.prog ops Q rest (a.put dst v') w') :
    wpList Try.prog ops Q (⟨dst, .call { callee := .builtin .append, args := #[s, x], argTypes := #[52, 52] }, ty, pos, aft, gd⟩ :: rest) a w :=
  BigFrame.wpList_want hw fun K hK => wp_appendD rfl hs hx hown hy hlen hB fun v' w' h1 h2 => hK _ _ (h v' w' h1 h2)
theorem DOwn.base {w : World} {B B' : Nat} {v : Value} {n : Nat} {xs : List Int} (h : DOwn w B v n xs) (hB : B' ≤ B) : DOwn w B' v n xs := by
  obtain ⟨h1, h2⟩ := h
  refine ⟨h1, ?_⟩
  rcases h2 with h2 | ⟨g, cap, cur, e, hg, r⟩
  · exact .inl h2
  · exact .inr ⟨g, cap, cur, e, Nat.le_trans hB hg, r⟩
theorem splD_all (xs : List Int) (h : xs.length = 32) : spl (u8s (zer 32)) (u8s xs) 0 = u8s xs := by
  unfold spl
  rw [List.drop_of_length_le (by rw [u8s_length, u8s_length, zer_length]; omega)]
  simp
theorem build_D (ds : List Int) (hd : ds.length = 32) (w : World) :
    (Instr.buildSlice 52 1 #[(0, .agg (u8s ds).toArray)]).run Try.prog w = .ok (.slice (some ⟨w.heap.size, 0, none⟩) 1 1) (w.alloc (.cells (u8s ds).toArray 24)) := by
  obtain ⟨i0, hi, hz0, hz1, hz2⟩ := info_parts infoD
  refine run_buildSlice w 52 24 1 _ _ i0 _ undDl hi hz0 (by rw [hz1]; decide) (by rw [hz1]; decide) ?_
  rw [hz1]
  have e0 : ((Array.range (1 * 32)).map ((Value.agg (u8s (zer 32)).toArray).cells[· % (Value.agg (u8s (zer 32)).toArray).cells.size]!)) = (u8s (zer 32)).toArray := by kernel_rfl
  rw [e0]
  show Instr.fill _ _ [(0, Value.agg (u8s ds).toArray)] = _
  rw [fill_cons (place := fun i => some (i * 32, 32)) (off := 0) (size := 32) (vs := u8s ds) rfl rfl (by rw [u8s_length, hd]) (by rw [u8s_length, zer_length]; omega), fill_nil, splD_all ds hd]
section
variable {dst : Option Tmp} {ty : TypeId} {pos : String} {aft : Array Edge} {gd : Option (Nat × Bool)} {a : Act} {w : World} {K : Act → World → Prop} {Q : Exit → Act → World → Prop}
set_option maxRecDepth 100000 in
theorem wp_oneD {x : Operand} {ds : List Int} (hx : a.eval x = .agg (u8s ds).toArray) (hd : ds.length = 32) (hb : isB ds) (h : ∀ w1 g, Ds w1 (some ⟨g, 0, none⟩) 1 1 ds → Below w.heap.size w w1 → K (a.put dst (.slice (some ⟨g, 0, none⟩) 1 1)) w1) :
    Oper.wp Try.prog ⟨dst, .buildSlice 52 1 #[(0, x)], ty, pos, aft, gd⟩ a w K Q := by
  have hs := (Blk.made w 24 (u8s ds)).sl0 hb (by omega)
  rw [hd] at hs
  refine wp_runV (.slice (some ⟨w.heap.size, 0, none⟩) 1 1) (w.alloc (.cells (u8s ds).toArray 24)) ?_ (h _ _ ⟨Nat.le_refl _, by omega, (fun e => by cases e), hs⟩ ((Below.refl _ _).alloc (Nat.le_refl _) _))
  unfold execOp
  simp only [List.map_toArray, List.map_cons, List.map_nil, hx]
  simp only [Sem.run_bind, build_D ds hd, Result.andThen_ok, Sem.run_pure]
end

theorem wp_appendDG {dst : Option Tmp} {s x : Operand} {ty : TypeId} {pos : String} {aft : Array Edge} {gd : Option (Nat × Bool)} {K : Act → World → Prop} {a : Act} {w : World} {Q : Exit → Act → World → Prop}
    {B : Nat} {v : Value} {n : Nat} {xs : List Int} {sa : Option Addr} {m c : Nat} {ys : List Int}
    (hs : a.eval s = v) (hx : a.eval x = .slice sa m c) (hown : DOwn w B v n xs) (hy : Ds w sa m c ys) (hlen : n + m ≤ 4398046511104) (hB : B ≤ w.heap.size)
    (h : ∀ v' w', DOwn w' B v' (n + m) (xs ++ ys) → w.grownBy w' v.ownBlock → K (a.put dst v') w') :
    Oper.wp Try.prog ⟨dst, .call { callee := .builtin .append, args := #[s, x], argTypes := #[52, 52] }, ty, pos, aft, gd⟩ a w K Q :=
  wp_appendD rfl hs hx hown hy hlen hB h


end Go.Proofs.Ytabpfbankinojaa
