/-
  Slices of digests, as bytes one behind the other; the document's Half, Split; a digest of a slice loaded; parts of a slice.
-/
import Derived.Test.YtnlpgkfmjlljdaaDoorTn
import Derived.Test.YtnlpgkfmjlljdaaDoorBl
namespace Go.Proofs.YtnlpgkfmjlljdaaDoor
open Go.RowKit
set_option linter.unusedVariables false

theorem undDs : Tryd.prog.underlying 67 = some (.slice (Tryd.prog.elem 67)) := by kernel_rfl
theorem elemDs : Tryd.prog.elem 67 = 40 := by kernel_rfl
theorem sizeDs (w : World) : (sizeOf 40).run Tryd.prog w = .ok 32 w := by kernel_rfl
theorem undDl : Tryd.prog.underlying 67 = some (.slice 40) := by kernel_rfl
theorem infoD : (Tryd.prog.info? 40).map (fun i => (i.zero, i.size, i.bytes)) = some (some (.agg (u8s (zer 32)).toArray), 32, 32) := by kernel_rfl

/-- A slice of digests in memory: their bytes are xs. -/
structure Ds (w : World) (a : Option Addr) (len cap : Nat) (xs : List Int) : Prop where
  hcap : len ≤ cap
  hmax : cap ≤ 9223372036854775807
  hnil : a = none → cap = 0
  sl : Sl w a (32 * len) (32 * len) xs
theorem Ds.hlen {w : World} {a : Option Addr} {len cap : Nat} {xs : List Int} (h : Ds w a len cap xs) : xs.length = 32 * len := h.sl.hlen
theorem Ds.hbyte {w : World} {a : Option Addr} {len cap : Nat} {xs : List Int} (h : Ds w a len cap xs) : isB xs := h.sl.hbyte
theorem Ds.hreach {w : World} {a : Option Addr} {len cap : Nat} {xs : List Int} (h : Ds w a len cap xs) : len ≤ 4398046511104 := by have := h.sl.hreach; omega
theorem Ds.below {w w' : World} {a : Option Addr} {len cap : Nat} {xs : List Int} (h : Ds w a len cap xs) (hb : Below w.heap.size w w') : Ds w' a len cap xs := ⟨h.hcap, h.hmax, h.hnil, h.sl.below hb⟩
theorem Ds.place {w : World} {a : Option Addr} {len cap : Nat} {xs : List Int} (h : Ds w a len cap xs) (h0 : 0 < len) : ∃ b o, a = some ⟨b, o, none⟩ := by
  obtain ⟨b, o, e, _⟩ := h.sl.hcell (by omega)
  exact ⟨b, o, e⟩
theorem Ds.take {w : World} {a : Option Addr} {len cap : Nat} {xs : List Int} (h : Ds w a len cap xs) (k : Nat) (hk : k ≤ len) : Ds w a k cap (xs.take (32 * k)) := by
  have hc := h.hcap
  have ht := h.sl.take (32 * k) (by omega)
  have hr := ht.hreach
  refine ⟨by omega, h.hmax, h.hnil, ht.hlen, by omega, by omega, ht.hreach, ht.hbyte, fun e => ?_, ht.hcell⟩
  have := h.sl.hnil e
  omega
theorem Ds.drop {w : World} {b o len cap : Nat} {xs : List Int} (h : Ds w (some ⟨b, o, none⟩) len cap xs) (k : Nat) (hk : k ≤ len) : Ds w (some ⟨b, o + 32 * k, none⟩) (len - k) (cap - k) (xs.drop (32 * k)) := by
  have hc := h.hcap
  have hm := h.hmax
  have ht := h.sl.drop (32 * k) (by omega)
  have e : 32 * len - 32 * k = 32 * (len - k) := by omega
  rw [e] at ht
  exact ⟨by omega, by omega, (fun e => by cases e), ht⟩
/-- The i-th of them. -/
def dat (xs : List Int) (i : Nat) : List Int := (xs.drop (32 * i)).take 32
theorem dat_length {xs : List Int} {n i : Nat} (h : xs.length = 32 * n) (hi : i < n) : (dat xs i).length = 32 := by
  simp [dat]; omega
theorem dat_isB {xs : List Int} (h : isB xs) (i : Nat) : isB (dat xs i) := (h.drop _).take _
theorem Ds.range {w : World} {b o len cap : Nat} {xs : List Int} (h : Ds w (some ⟨b, o, none⟩) len cap xs) (i : Nat) (hi : i < len) : w.rangeAt b (o + 32 * i) (u8s (dat xs i)) := by
  obtain ⟨b', o', e, hc⟩ := h.sl.hcell (by omega)
  cases e
  intro j v hj
  have hd := dat_length h.hlen hi
  have hjl : j < 32 := by
    have := (List.getElem?_eq_some_iff.1 hj).1
    rwa [u8s_length, hd] at this
  rw [show o + 32 * i + j = o + (32 * i + j) by omega, hc (32 * i + j) (by omega)]
  rw [u8s_get _ _ (by omega)] at hj
  rw [← hj]
  simp [dat, List.getD, List.getElem?_drop, hjl]

section
variable {dst : Option Tmp} {ty : TypeId} {pos : String} {aft : Array Edge} {gd : Option (Nat × Bool)} {ops : Array Oper} {rest : List Oper} {a : Act} {w : World} {Q : Exit → Act → World → Prop}
/-- A value of many cells in the midst of a block is loaded. -/
theorem step_loadR {T : TypeId} {n : Nat} (hT : Wide T n) {x : Operand} (hw : Region.wanted ⟨dst, .load T x, ty, pos, aft, gd⟩ (yielded ops a.tmps) = true) {g off : Nat} (hx : a.eval x = .pointer (some ⟨g, off, none⟩))
    (vs : List Value) (hr : w.rangeAt g off vs) (hn : vs.length = n) (h : wpList Tryd.prog ops Q rest (a.put dst (.agg vs.toArray)) w) :
    wpList Tryd.prog ops Q (⟨dst, .load T x, ty, pos, aft, gd⟩ :: rest) a w := by
  refine BigFrame.wpList_want hw fun _ hK => ?_
  subst hn
  obtain ⟨d, hu, hd⟩ := hT.und
  exact wp_load_mid T x rfl g off hx vs d hr hu hd hT.size (hK _ _ h)
end

theorem d_at (b o n cap i : Nat) (I : Int) (hI : I = (i : Int)) (hi : i < n) (v : World) : (Instr.indexAt 67 (.slice (some ⟨b, o, none⟩) n cap) (.int .i64 I)).run Tryd.prog v = .ok (.pointer (some ⟨b, o + 32 * i, none⟩)) v := by
  subst hI
  rw [run_indexAt_slice v _ _ _ _ .i64 i undDs, if_pos ⟨by omega, by omega⟩, elemDs, sizeDs]
  simp only [Result.andThen_ok, Int.toNat_natCast]
  rw [Addr.add_lit, Nat.mul_comm]
theorem d_to (b o n cap k : Nat) (K : Int) (hK : K = (k : Int)) (hk : k ≤ cap) (v : World) : (Instr.slice 67 (.slice (some ⟨b, o, none⟩) n cap) none (some (.int .i64 K)) none).run Tryd.prog v = .ok (.slice (some ⟨b, o, none⟩) k cap) v := by
  subst hK
  rw [run_slice_h v _ _ _ _ undDs .i64 k (by omega) (by omega), elemDs, sizeDs]
  simp [sliced, Addr.add_lit]
theorem d_from (b o n cap k : Nat) (K : Int) (hK : K = (k : Int)) (hk : k < n) (hc : n ≤ cap) (v : World) : (Instr.slice 67 (.slice (some ⟨b, o, none⟩) n cap) (some (.int .i64 K)) none none).run Tryd.prog v = .ok (.slice (some ⟨b, o + 32 * k, none⟩) (n - k) (cap - k)) v := by
  subst hK
  rw [run_slice_l v _ _ _ _ undDs .i64 k (by omega) (by omega), elemDs, sizeDs]
  have hne : ¬ cap = k := by omega
  simp [sliced, hne, Addr.add_lit, Nat.mul_comm]
theorem d_mid (b o n cap k h : Nat) (K H : Int) (hK : K = (k : Int)) (hH : H = (h : Int)) (hk : k < h) (hc : h ≤ cap) (v : World) : (Instr.slice 67 (.slice (some ⟨b, o, none⟩) n cap) (some (.int .i64 K)) (some (.int .i64 H)) none).run Tryd.prog v = .ok (.slice (some ⟨b, o + 32 * k, none⟩) (h - k) (cap - k)) v := by
  subst hK hH
  rw [run_slice_lh v _ _ _ _ undDs .i64 .i64 k h (by omega) (by omega) (by omega), elemDs, sizeDs]
  have hne : ¬ cap = k := by omega
  simp [sliced, hne, Addr.add_lit, Nat.mul_comm]

theorem half_any (n : Nat) (w : World) (h2 : 2 ≤ n) (hn : n ≤ 9223372036854775807) : Calls Tryd.prog 50 #[.int .i64 n] w fun e w' => e = .returned (.int .i64 (hf n)) ∧ w' = w := by
  go_enter Tryd.func50, Tryd.ntmps50
  go_wp2
  go_loopw [3] (fun k wr => ∃ j q : Nat, k = .int .i64 q ∧ q = 2 ^ j ∧ q < n ∧ wr = w) (fun k _ => n - (intOf k).toNat)
  case atStart => exact ⟨0, 1, rfl, rfl, by omega, rfl⟩
  case round =>
    obtain ⟨j, q, rfl, hq, hlt, rfl⟩ := hrel
    have hq1 : 1 ≤ q := by rw [hq]; exact Nat.two_pow_pos j
    have HQ := hide hq
    clear hq
    by_cases hc : q < n - q
    · have hc' : (q : Int) < (n : Int) - (q : Int) := by omega
      go_wp2
      go_roundw
      case rel => exact ⟨j + 1, q * 2, by go_num, by rw [HQ.out, Nat.pow_succ], by omega, by first | rfl | trivial⟩
      case measure => simp [intOf]; omega
    · have hc' : ¬ ((q : Int) < (n : Int) - (q : Int)) := by omega
      have HU := hide (hf_uniq n j h2 (by omega) (by rw [← HQ.out]; exact hlt) (by rw [← HQ.out]; omega))
      go_wp2
      go_ret
      refine ⟨?_, rfl⟩
      rw [HU.out, ← HQ.out]
      rfl

end Go.Proofs.YtnlpgkfmjlljdaaDoor
