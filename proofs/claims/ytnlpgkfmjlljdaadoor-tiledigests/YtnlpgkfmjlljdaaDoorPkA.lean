/-
  Texts one behind the other: Te Tf Tg Rn Ti Bu Pb Tj Tk TdgLaw.
-/
import Derived.Test.YtnlpgkfmjlljdaaDoorTc
import Derived.Test.YtnlpgkfmjlljdaaDoorOd
import Derived.Test.YtnlpgkfmjlljdaaDoorDa
import Derived.Laws.MakeOwn
import Derived.Test.YtnlpgkfmjlljdaaDoorRf
import Derived.Test.YtnlpgkfmjlljdaaDoorMc
import Derived.Laws.Tables
import Derived.Great.BuildSlice

/-
  Which tiles may be; a tile's bytes as digests: the program's Valid, check, placeOf, digests.
-/
namespace Go.Proofs.YtnlpgkfmjlljdaaDoor
open Go.RowKit
set_option linter.unusedVariables false

/-- A tile that may be. -/
def tOK (h l i n : Int) : Prop := ∃ H L I N : Nat, h = (H : Int) ∧ l = (L : Int) ∧ i = (I : Int) ∧ n = (N : Int) ∧ isH H ∧ 1 ≤ N ∧ N ≤ tW H L I 281474976710656
theorem tW_bd {h l i n : Nat} (hh : isH h) (hn : n ≤ 281474976710656) (hw : 0 < tW h l i n) : h * l ≤ 48 ∧ i < 281474976710656 ∧ l ≤ 48 := by
  have h1 : h * l ≤ 48 := by
    rcases Nat.lt_or_ge 48 (h * l) with hg | hg
    · rw [tW_none (tOv_high hn hg)] at hw; omega
    · exact hg
  have h2 : i < 281474976710656 := by
    have hp := hh.pow.1
    have hle := Nat.le_trans (tOv_le h l n) hn
    unfold tW at hw
    have : i * 2 ^ h < tOv h l n := by
      generalize i * 2 ^ h = x at *
      generalize tOv h l n = y at *
      generalize 2 ^ h = z at *
      omega
    have h3 := Nat.mul_le_mul_left i (show 1 ≤ 2 ^ h by omega)
    rw [Nat.mul_one] at h3
    omega
  refine ⟨h1, h2, ?_⟩
  have := Nat.mul_le_mul_right l hh.1
  rw [Nat.one_mul] at this
  omega
set_option maxRecDepth 100000 in
theorem validT_any (h l i n : Int) (hl : l ≤ 9223372036854775807) (hi : i ≤ 9223372036854775807) : ∃ q : Bool, (q = true ↔ tOK h l i n) ∧ ∀ w : World,
    Calls Tryd.prog 9 #[.agg (c4 h l i n).toArray] w fun r w' => r = .returned (.bool q) ∧ Below w.heap.size w w' := by
  by_cases hb : h < 1 ∨ 8 < h ∨ l < 0 ∨ i < 0
  · have he : ¬ wdE h l i 281474976710656 = 0 := by unfold wdE; split <;> decide
    have HW := hide (fun v => width_bad h l i 281474976710656 v (.inl hb))
    generalize wdE h l i 281474976710656 = E at *
    refine ⟨false, ⟨(fun e => by cases e), fun ⟨H, L, I, N, e1, e2, e3, e4, hH, _⟩ => by have := hH.1; have := hH.2; omega⟩, fun w => ?_⟩
    clear hb
    go_enter Tryd.func9, Tryd.ntmps9
    go_wp2_with (first | (refine step_box (cs := c4 h l i n) rfl rfl ?_; intro w1 g1 hg1 hle1 hb1; have HG1 := hide hg1; obtain ⟨c0, c1, c2, _⟩ := hg1.four; clear hg1))
    refine (HW.out _).mono ?_
    rintro r w2 ⟨rfl, hb2⟩
    obtain ⟨_, _, _, c3⟩ := (HG1.out.on hb2).four
    have q2 := on_below hb1 hb2
    clear HG1 hb1 hb2 c0 c1 c2
    go_wp2
    go_ret
    exact ⟨rfl, q2⟩
  · obtain ⟨H, rfl⟩ : ∃ H : Nat, h = (H : Int) := ⟨h.toNat, by omega⟩
    obtain ⟨L, rfl⟩ : ∃ H : Nat, l = (H : Int) := ⟨l.toNat, by omega⟩
    obtain ⟨I, rfl⟩ : ∃ H : Nat, i = (H : Int) := ⟨i.toNat, by omega⟩
    have hH : isH H := ⟨by omega, by omega⟩
    have HW := hide (fun v => width_ok H L I 281474976710656 v hH (by omega) (by omega) (by omega))
    rw [show ((281474976710656 : Nat) : Int) = 281474976710656 from rfl] at HW
    have hiff : tOK (H : Int) (L : Int) (I : Int) n ↔ 1 ≤ n ∧ n ≤ (tW H L I 281474976710656 : Int) := by
      constructor
      · rintro ⟨H', L', I', N, e1, e2, e3, rfl, _, h1, h2⟩
        obtain rfl : H = H' := by omega
        obtain rfl : L = L' := by omega
        obtain rfl : I = I' := by omega
        omega
      · rintro ⟨h1, h2⟩
        exact ⟨H, L, I, n.toNat, rfl, rfl, rfl, by omega, hH, by omega, by omega⟩
    have HIF := hide hiff
    generalize tW H L I 281474976710656 = W at *
    clear hb hiff
    by_cases h1 : 1 ≤ n
    · have h1' : n ≥ 1 := h1
      by_cases h2 : n ≤ (W : Int)
      · refine ⟨true, ⟨fun _ => HIF.out.2 ⟨h1, h2⟩, fun _ => rfl⟩, fun w => ?_⟩
        generalize (H : Int) = h at *
        generalize (L : Int) = l at *
        generalize (I : Int) = i at *
        go_enter Tryd.func9, Tryd.ntmps9
        go_wp2_with (first | (refine step_box (cs := c4 h l i n) rfl rfl ?_; intro w1 g1 hg1 hle1 hb1; have HG1 := hide hg1; obtain ⟨c0, c1, c2, _⟩ := hg1.four; clear hg1))
        refine (HW.out _).mono ?_
        rintro r w2 ⟨rfl, hb2⟩
        obtain ⟨_, _, _, c3⟩ := (HG1.out.on hb2).four
        have q2 := on_below hb1 hb2
        clear HG1 hb1 hb2 c0 c1 c2
        go_wp2
        go_ret
        exact ⟨rfl, q2⟩
      · refine ⟨false, ⟨(fun e => by cases e), fun e => absurd (HIF.out.1 e).2 h2⟩, fun w => ?_⟩
        have h2' : decide (n ≤ (W : Int)) = false := by simp; omega
        generalize (H : Int) = h at *
        generalize (L : Int) = l at *
        generalize (I : Int) = i at *
        go_enter Tryd.func9, Tryd.ntmps9
        go_wp2_with (first | (refine step_box (cs := c4 h l i n) rfl rfl ?_; intro w1 g1 hg1 hle1 hb1; have HG1 := hide hg1; obtain ⟨c0, c1, c2, _⟩ := hg1.four; clear hg1))
        refine (HW.out _).mono ?_
        rintro r w2 ⟨rfl, hb2⟩
        obtain ⟨_, _, _, c3⟩ := (HG1.out.on hb2).four
        have q2 := on_below hb1 hb2
        clear HG1 hb1 hb2 c0 c1 c2
        go_wp2
        go_ret
        exact ⟨rfl, q2⟩
    · refine ⟨false, ⟨(fun e => by cases e), fun e => absurd (HIF.out.1 e).1 h1⟩, fun w => ?_⟩
      have h1' : ¬ n ≥ 1 := h1
      generalize (H : Int) = h at *
      generalize (L : Int) = l at *
      generalize (I : Int) = i at *
      go_enter Tryd.func9, Tryd.ntmps9
      go_wp2_with (first | (refine step_box (cs := c4 h l i n) rfl rfl ?_; intro w1 g1 hg1 hle1 hb1; have HG1 := hide hg1; obtain ⟨c0, c1, c2, _⟩ := hg1.four; clear hg1))
      refine (HW.out _).mono ?_
      rintro r w2 ⟨rfl, hb2⟩
      obtain ⟨_, _, _, c3⟩ := (HG1.out.on hb2).four
      have q2 := on_below hb1 hb2
      clear HG1 hb1 hb2 c0 c1 c2
      go_wp2
      go_ret
      exact ⟨rfl, q2⟩
/-- What is amiss with a tile and so many bytes. -/
def ChE (h l i n : Int) (len : Nat) (e : Int) : Prop := (e = 2 ∧ ¬ tOK h l i n) ∨ (tOK h l i n ∧ ((e = 101 ∧ ¬ (len : Int) = n * 32) ∨ (e = 0 ∧ (len : Int) = n * 32)))
theorem tOK.n_bd {h l i n : Int} (k : tOK h l i n) : 1 ≤ n ∧ n ≤ 256 := by
  obtain ⟨H, L, I, N, _, _, _, rfl, hH, h1, h2⟩ := k
  have := tW_le H L I 281474976710656
  have := hH.pow.2
  omega
set_option maxRecDepth 100000 in
theorem check_any (h l i n : Int) (hl : l ≤ 9223372036854775807) (hi : i ≤ 9223372036854775807) (len : Nat) (hlen : len ≤ 140737488355328) : ∃ e : Int, ChE h l i n len e ∧ ∀ (a : Option Addr) (cap : Nat) (w : World),
    Calls Tryd.prog 28 #[.agg (c4 h l i n).toArray, .slice a len cap] w fun r w' => r = .returned (.int .i64 e) ∧ Below w.heap.size w w' := by
  obtain ⟨q, hq, hv⟩ := validT_any h l i n hl hi
  have HV := hide hv
  clear hv
  cases q with
  | false =>
    refine ⟨2, .inl ⟨rfl, fun hk => by simpa using hq.2 hk⟩, fun a cap w => ?_⟩
    clear hq
    go_enter Tryd.func28, Tryd.ntmps28
    go_wp2_with (first | (refine step_box (cs := c4 h l i n) rfl rfl ?_; intro w1 g1 hg1 hle1 hb1; have HG1 := hide hg1; clear hg1) | (refine step_loadA wT rfl rfl HG1.out rfl ?_))
    refine (HV.out _).mono ?_
    rintro r w2 ⟨rfl, hb2⟩
    obtain ⟨_, _, _, c3⟩ := (HG1.out.on hb2).four
    have q2 := on_below hb1 hb2
    clear HG1 hb1 hb2
    go_wp2
    go_ret
    exact ⟨rfl, q2⟩
  | true =>
    have hk := hq.1 rfl
    have hb := hk.n_bd
    have hb1 := hb.1
    have hb2 := hb.2
    have hw : wrap64 (n * 32) = n * 32 := by unfold wrap64; omega
    by_cases hc : (len : Int) = n * 32
    · refine ⟨0, .inr ⟨hk, .inr ⟨rfl, hc⟩⟩, fun a cap w => ?_⟩
      clear hq hk hb hb1 hb2
      have hcb : ((len : Int) == n * 32) = true := by simp [hc]
      go_enter Tryd.func28, Tryd.ntmps28
      go_wp2_with (first | (refine step_box (cs := c4 h l i n) rfl rfl ?_; intro w1 g1 hg1 hle1 hb1; have HG1 := hide hg1; clear hg1) | (refine step_loadA wT rfl rfl HG1.out rfl ?_))
      refine (HV.out _).mono ?_
      rintro r w2 ⟨rfl, hb2⟩
      obtain ⟨_, _, _, c3⟩ := (HG1.out.on hb2).four
      have q2 := on_below hb1 hb2
      clear HG1 hb1 hb2
      go_wp2
      go_ret
      exact ⟨rfl, q2⟩
    · refine ⟨101, .inr ⟨hk, .inl ⟨rfl, hc⟩⟩, fun a cap w => ?_⟩
      have hcb : ((len : Int) == n * 32) = false := by simp [hc]
      clear hq hk hb hb1 hb2
      go_enter Tryd.func28, Tryd.ntmps28
      go_wp2_with (first | (refine step_box (cs := c4 h l i n) rfl rfl ?_; intro w1 g1 hg1 hle1 hb1; have HG1 := hide hg1; clear hg1) | (refine step_loadA wT rfl rfl HG1.out rfl ?_))
      refine (HV.out _).mono ?_
      rintro r w2 ⟨rfl, hb2⟩
      obtain ⟨_, _, _, c3⟩ := (HG1.out.on hb2).four
      have q2 := on_below hb1 hb2
      clear HG1 hb1 hb2
      go_wp2
      go_ret
      exact ⟨rfl, q2⟩

end Go.Proofs.YtnlpgkfmjlljdaaDoor

/-
  A tile's bytes as digests; their root; a node's digest out of them: the program's placeOf, digests, Root, Digest.
-/
namespace Go.Proofs.YtnlpgkfmjlljdaaDoor
open Go.RowKit
set_option linter.unusedVariables false

theorem zP : Zeroed 64 (c2 0 0) := fun _ _ _ _ _ _ _ => by kernel_rfl
theorem wP : Wide 64 2 := ⟨by kernel_rfl, by kernel_rfl⟩
set_option maxRecDepth 100000 in
theorem placeOf_any (h l i n : Int) (w : World) : Calls Tryd.prog 29 #[.agg (c4 h l i n).toArray] w fun r w' => r = .returned (.agg (c2 l i).toArray) ∧ Below w.heap.size w w' := by
  go_enter Tryd.func29, Tryd.ntmps29
  go_wp2_with (first | (refine step_box (cs := c4 h l i n) rfl rfl ?_; intro w1 g1 hg1 hle1 hb1; have HG1 := hide hg1; clear hg1) | (refine step_alloc zP rfl ?_; intro w2 g2 hg2 hle2 hb2; have HG2 := hide hg2; clear hg2; obtain ⟨_, c1, c2, _⟩ := (HG1.out.on hb2).four) | (refine step_storeA wP rfl rfl rfl HG2.out rfl (One.c2 l i) rfl ?_; intro w4 hg4 hbut4))
  refine bodyPost_ret (results_wide rfl wP _ _ rfl hg4 rfl) rfl ⟨rfl, ?_⟩
  exact (hb1.trans (hb2.mono hb1.size)).trans (hbut4.below (Nat.le_trans hb1.size hle2))

theorem undByte : Tryd.prog.underlying 36 = some (.slice (Tryd.prog.elem 36)) := by kernel_rfl
theorem elemByte : Tryd.prog.elem 36 = 5 := by kernel_rfl
theorem sizeByte (w : World) : (sizeOf 5).run Tryd.prog w = .ok 1 w := by kernel_rfl
theorem b_mid (b o n cap k h : Nat) (K H : Int) (hK : K = (k : Int)) (hH : H = (h : Int)) (hk : k < h) (hc : h ≤ cap) (v : World) : (Instr.slice 36 (.slice (some ⟨b, o, none⟩) n cap) (some (.int .i64 K)) (some (.int .i64 H)) none).run Tryd.prog v = .ok (.slice (some ⟨b, o + k, none⟩) (h - k) (cap - k)) v := by
  subst hK hH
  rw [run_slice_lh v _ _ _ _ undByte .i64 .i64 k h (by omega) (by omega) (by omega), elemByte, sizeByte]
  have hne : ¬ cap = k := by omega
  simp [sliced, hne, Addr.add_lit]

theorem zcellT (n i : Nat) (h : i < n) : (u8s (zer n)).toArray[i]! = .int .u8 0 := by
  rw [getElem!_pos _ _ (by simpa [u8s, zer] using h)]
  simp [u8s, zer]
theorem madeT_zer (n : Nat) : madeCells (u8s (zer 32)).toArray n = (u8s (zer n)).toArray := by
  apply Array.ext
  · simp [size_madeCells, u8s_length, zer_length]
  · intro i h1 h2
    have hi : i % 32 < 32 := Nat.mod_lt _ (by decide)
    simp only [madeCells, Array.getElem_map, Array.getElem_range]
    have hsz : (u8s (zer 32)).toArray.size = 32 := by simp [u8s_length, zer_length]
    rw [hsz]
    have e1 : (u8s (zer 32)).toArray[i % 32]! = .int .u8 0 := zcellT 32 _ hi
    rw [e1]
    simp [u8s, zer]
section
variable {dst : Option Tmp} {ty : TypeId} {pos : String} {aft : Array Edge} {gd : Option (Nat × Bool)} {ops : Array Oper} {rest : List Oper} {a : Act} {w : World} {Q : Exit → Act → World → Prop}
theorem step_makeT {l c : Operand} {L C : Int} (n : Nat) (hw : Region.wanted ⟨dst, .makeSlice 67 l c, ty, pos, aft, gd⟩ (yielded ops a.tmps) = true)
    (hl : a.eval l = .int .i64 L) (hc : a.eval c = .int .i64 C) (hL : L = (n : Int)) (hC : C = (n : Int)) (hn : n ≤ 4398046511104)
    (h : ∀ w1 g, Blk w1 g 40 (u8s (zer (n * 32))) → w.heap.size ≤ g → Below w.heap.size w w1 → wpList Tryd.prog ops Q rest (a.put dst (.slice (some ⟨g, 0, none⟩) n n)) w1) :
    wpList Tryd.prog ops Q (⟨dst, .makeSlice 67 l c, ty, pos, aft, gd⟩ :: rest) a w := by
  obtain ⟨i0, hi, hz0, hz1, hz2⟩ := info_parts infoD
  subst hL hC
  refine step_run hw (.slice (some ⟨w.heap.size, 0, none⟩) n n) (w.alloc (.cells (u8s (zer (n * 32))).toArray 40)) ?_ (h _ _ (Blk.made _ _ _) (Nat.le_refl _) ((Below.refl _ _).alloc (Nat.le_refl _) _))
  have hr := run_make (P := Tryd.prog) w 67 40 i0 _ undDl hi hz0 .i64 .i64 (n : Int) (n : Int) (by omega) (Int.le_refl _) (by rw [hz2]; omega) (by omega)
  rw [hz1] at hr
  simp only [Value.cells, Int.toNat_natCast, madeT_zer] at hr
  simp [execOp, hl, hc, hr, Result.andThen]
end
theorem splT_then (cs vs us : List Value) (h : vs.length + us.length ≤ cs.length) : spl (spl cs vs 0) us vs.length = spl cs (vs ++ us) 0 := by
  unfold spl
  simp only [List.take_zero, List.nil_append, Nat.zero_add]
  rw [List.take_left, ← List.drop_drop, List.drop_left, List.drop_drop, List.length_append, List.append_assoc]
theorem takeT_more (ys : List Int) (k : Nat) : ys.take (32 * (k + 1)) = ys.take (32 * k) ++ (ys.drop (32 * k)).take 32 := by
  rw [show 32 * (k + 1) = 32 * k + 32 by omega, List.take_add]
theorem splT_dig (xs : List Int) (n k : Nat) (hk : k < n) (hx : xs.length = 32 * n) :
    spl (spl (u8s (zer (n * 32))) (u8s (xs.take (32 * k))) 0) (u8s ((xs.drop (32 * k)).take 32)) (32 * k) = spl (u8s (zer (n * 32))) (u8s (xs.take (32 * (k + 1)))) 0 := by
  have h1 : (u8s (xs.take (32 * k))).length = 32 * k := by rw [u8s_length, List.length_take]; omega
  have h2 : (u8s ((xs.drop (32 * k)).take 32)).length = 32 := by rw [u8s_length, List.length_take, List.length_drop]; omega
  have e := splT_then (u8s (zer (n * 32))) (u8s (xs.take (32 * k))) (u8s ((xs.drop (32 * k)).take 32)) (by rw [h1, h2, u8s_length, zer_length]; omega)
  rw [h1] at e
  rw [e, takeT_more, ← u8s_app]
set_option maxRecDepth 100000 in
set_option maxHeartbeats 2000000 in
theorem digests_any (b o n cap : Nat) (len : Nat) (xs : List Int) (w : World) (hs : Sl w (some ⟨b, o, none⟩) len cap xs) (hl : len = 32 * n) (hn : n ≤ 256) :
    Calls Tryd.prog 31 #[.slice (some ⟨b, o, none⟩) len cap] w fun r w' => ∃ g, r = .returned (.slice (some ⟨g, 0, none⟩) n n) ∧ Ds w' (some ⟨g, 0, none⟩) n n xs ∧ Below w.heap.size w w' := by
  have HS := hide hs
  have hx := hs.hlen
  have HX := hide (show xs.length = 32 * n by omega)
  have hq : (len : Int) / 32 = (n : Int) := by omega
  have hlen : (len : Int) ≤ 8192 := by omega
  have HLN := hide hl
  clear hs hx hl
  go_enter Tryd.func31, Tryd.ntmps31
  go_wp2_with (refine step_makeT n rfl rfl rfl rfl rfl (by omega) ?_)
  intro w1 g hg hle hb
  have HG := hide hg
  have HB := hide hb
  clear hg hb
  go_wp2_with fail
  go_loopw [11] (fun k wr => ∃ j : Nat, k = .int .i64 (j : Int) ∧ j ≤ n ∧ Hid (Blk wr g 40 (spl (u8s (zer (n * 32))) (u8s (xs.take (32 * j))) 0)) ∧ Hid (Below w.heap.size w wr)) (fun k _ => n - (intOf k).toNat)
  case atStart => exact ⟨0, rfl, Nat.zero_le _, hide (by simpa [spl, u8s] using HG.out), HB⟩
  case round =>
    obtain ⟨j, rfl, hj, HGj, HBj⟩ := hrel
    clear HG HB
    by_cases hc : j < n
    · have hc' : (j : Int) < (n : Int) := by omega
      have hj1 : wrap64 ((j : Int) + 1) = ((j + 1 : Nat) : Int) := by unfold wrap64; omega
      have hj2 : (j : Int) * 32 = ((32 * j : Nat) : Int) := by omega
      have hj3 : wrap64 ((32 * j : Nat) : Int) = ((32 * j : Nat) : Int) := by unfold wrap64; omega
      obtain ⟨J, HJ⟩ : ∃ J, Hid (32 * j = J) := ⟨_, hide rfl⟩
      rw [HJ.out] at hj2 hj3
      have HO := hide (octD_ok b o len cap xs J wr (HS.out.below HBj.out) (by rw [← HJ.out, HLN.out]; omega))
      have xa := d_at g 0 n n j (j : Int) rfl hc
      have HUL : Hid ((u8s ((xs.drop J).take 32)).length = 32) := hide (by rw [u8s_length, List.length_take, List.length_drop, HX.out, ← HJ.out]; omega)
      rw [Nat.zero_add, HJ.out] at xa
      have HSP : Hid (spl (spl (u8s (zer (n * 32))) (u8s (xs.take (32 * j))) 0) (u8s ((xs.drop J).take 32)) J = spl (u8s (zer (n * 32))) (u8s (xs.take (32 * (j + 1)))) 0) := hide (by rw [← HJ.out]; exact splT_dig xs n j hc HX.out)
      have HLL : Hid (J + 32 ≤ (spl (u8s (zer (n * 32))) (u8s (xs.take (32 * j))) 0).length) := hide (by
        unfold spl
        rw [List.take_zero, List.nil_append, List.length_append, List.length_drop, u8s_length, u8s_length, zer_length, List.length_take, HX.out, ← HJ.out]
        omega)
      go_wp2_with (first | (go_at_call 48; refine (HO.out).mono ?_; rintro r w2 ⟨rfl, hb2⟩; have G2 := hide (HGj.out.on hb2); have B2 := hide (on_below HBj.out hb2)) | (refine step_store wD rfl rfl rfl G2.out HUL.out (One.u8 _) HLL.out ?_))
      intro w3 hg3 hbut3
      rw [HSP.out] at hg3
      have G3 := hide hg3
      have B3 := hide (B2.out.trans (hbut3.below hle))
      clear hg3 hbut3 G2 B2 HGj HBj hb2
      go_wp2
      go_roundw
      case rel => exact ⟨j + 1, rfl, hc, G3, B3⟩
      case measure => simp only [intOf]; omega
    · obtain rfl : j = n := by omega
      have HE : Hid (spl (u8s (zer (j * 32))) (u8s (xs.take (32 * j))) 0 = u8s xs) := hide (by
        rw [List.take_of_length_le (by rw [HX.out]; exact Nat.le_refl _)]
        exact spl_full (by rw [u8s_length, u8s_length, zer_length, HX.out]; omega))
      go_wp2
      go_ret
      refine ⟨g, rfl, ?_, HBj.out⟩
      have h1 := HGj.out
      rw [HE.out] at h1
      have hbx := HS.out.hbyte
      have h2 := h1.sl 0 (32 * j) xs (by rw [List.drop_zero, List.take_of_length_le (by rw [u8s_length]; exact Nat.le_refl _)]) hbx (by rw [HX.out]; omega) (by rw [HX.out]; exact Nat.le_refl _) (by omega)
      rw [HX.out] at h2
      exact ⟨Nat.le_refl _, by omega, (fun e => by cases e), h2⟩

/-- What Root tells. -/
def RtR (h l i n : Int) (len : Nat) (xs ds : List Int) (e : Int) : Prop := ChE h l i n len e ∧ ((¬ e = 0 ∧ ds = zer 32) ∨ (e = 0 ∧ ds = root xs))
set_option maxRecDepth 100000 in
set_option maxHeartbeats 2000000 in
theorem rootT_any (h l i n : Int) (hl : l ≤ 9223372036854775807) (hi : i ≤ 9223372036854775807) (len : Nat) (xs : List Int) (hx : xs.length = len) (hlen : len ≤ 140737488355328) (hxb : isB xs) : ∃ (ds : List Int) (e : Int), RtR h l i n len xs ds e ∧ ∀ (a : Option Addr) (cap : Nat) (w : World), Sl w a len cap xs → KT w →
    Calls Tryd.prog 14 #[.agg (c4 h l i n).toArray, .slice a len cap] w fun r w' => r = .returned (.tuple #[.agg (u8s ds).toArray, .int .i64 e]) ∧ Below w.heap.size w w' := by
  obtain ⟨e, he, hc⟩ := check_any h l i n hl hi len hlen
  have HC := hide hc
  clear hc
  by_cases h0 : e = 0
  · subst h0
    have hk : ∃ N : Nat, len = 32 * N ∧ 1 ≤ N ∧ N ≤ 256 := by
      rcases he with ⟨h1, _⟩ | ⟨hk, ⟨h1, _⟩ | ⟨_, h2⟩⟩
      · cases h1
      · cases h1
      · have := hk.n_bd
        exact ⟨n.toNat, by omega, by omega, by omega⟩
    obtain ⟨N, hN, hN1, hN2⟩ := hk
    refine ⟨root xs, 0, ⟨he, .inr ⟨rfl, rfl⟩⟩, fun a cap w hs hkt => ?_⟩
    have HS := hide hs
    have HK := hide hkt
    have HRL : Hid ((u8s (root xs)).length = 32) := hide (by rw [u8s_length, root_length (n := N) (by rw [hx, hN]) hxb])
    obtain ⟨b, o, rfl, _⟩ := hs.hcell (by omega)
    have HN := hide hN
    clear hs hkt he hx hN
    go_enter Tryd.func14, Tryd.ntmps14
    go_wp2_with (first | (refine step_box (cs := c4 h l i n) rfl rfl ?_; intro w1 g1 hg1 hle1 hb1; have HG1 := hide hg1; clear hg1) | (refine step_alloc zD rfl ?_; intro w2 g2 hg2 hle2 hb2; have HG2 := hide hg2; clear hg2; have HG3 := hide (HG1.out.on hb2)) | (refine step_loadA wT rfl rfl HG3.out rfl ?_))
    refine (HC.out _ _ _).mono ?_
    rintro r w3 ⟨rfl, hb3⟩
    have q3 := on_below (on_below hb1 hb2) hb3
    have G3 := hide (HG2.out.on hb3)
    clear hb3 HG2 HG1 HG3 HC
    have l2 : w.heap.size ≤ g2 := Nat.le_trans hb1.size hle2
    clear hb1 hb2 hle1 hle2
    have HD := hide (digests_any b o N cap len xs w3 (HS.out.below q3) HN.out hN2)
    go_wp2_with fail
    refine (HD.out).mono ?_
    rintro r w4 ⟨g4, rfl, hd4, hb4⟩
    have HD4 := hide hd4
    have q4 := on_below q3 hb4
    have G4 := hide (G3.out.on hb4)
    clear hd4 hb4 G3 q3 HD
    go_wp2_with fail
    refine (root_any N _ N N xs w4 (Nat.le_refl _) HD4.out (HK.out.below q4 HK.out.lt)).mono ?_
    rintro r w5 ⟨rfl, hb5⟩
    have q5 := on_below q4 hb5
    have G5 := hide (G4.out.on hb5)
    clear hb5 q4 G4 HD4
    go_wp2_with (refine step_storeA wD rfl rfl rfl G5.out HRL.out (One.u8 _) rfl ?_)
    intro w6 hg6 hbut6
    go_wp2
    refine bodyPost_ret (results_wide2 rfl wD _ _ rfl hg6 HRL.out) rfl ⟨rfl, ?_⟩
    exact q5.trans (hbut6.below l2)
  · refine ⟨zer 32, e, ⟨he, .inl ⟨h0, rfl⟩⟩, fun a cap w hs hkt => ?_⟩
    have h0b : (e == 0) = false := by simp [h0]
    clear hs hkt he
    go_enter Tryd.func14, Tryd.ntmps14
    go_wp2_with (first | (refine step_box (cs := c4 h l i n) rfl rfl ?_; intro w1 g1 hg1 hle1 hb1; have HG1 := hide hg1; clear hg1) | (refine step_alloc zD rfl ?_; intro w2 g2 hg2 hle2 hb2; have HG2 := hide hg2; clear hg2; have HG3 := hide (HG1.out.on hb2)) | (refine step_loadA wT rfl rfl HG3.out rfl ?_))
    refine (HC.out _ _ _).mono ?_
    rintro r w3 ⟨rfl, hb3⟩
    have q3 := on_below (on_below hb1 hb2) hb3
    have G3 := hide (HG2.out.on hb3)
    clear hb3 HG2 HG1 HG3 HC
    have l2 : w.heap.size ≤ g2 := Nat.le_trans hb1.size hle2
    clear hb1 hb2 hle1 hle2
    go_wp2_with (first | (refine step_buildD rfl ?_) | (refine step_storeA wD rfl rfl rfl G3.out rfl (One.u8 _) rfl ?_; intro w4 hg4 hbut4))
    refine bodyPost_ret (results_wide2 rfl wD _ _ rfl hg4 rfl) rfl ⟨rfl, ?_⟩
    exact q3.trans (hbut4.below l2)

end Go.Proofs.YtnlpgkfmjlljdaaDoor

/-
  A node's digest out of its tile's bytes: the program's Digest.
-/
namespace Go.Proofs.YtnlpgkfmjlljdaaDoor
open Go.RowKit
set_option linter.unusedVariables false

/-- Is the node in that tile? -/
def inT (h l i n a b : Int) : Prop := ((a.toNat / h.toNat : Nat) : Int) = l ∧ ((oX h.toNat a.toNat b.toNat : Nat) : Int) = i ∧ ((oT h.toNat a.toNat b.toNat : Nat) : Int) ≤ n
/-- The digests of a tile that a node stands over. -/
def ovr (h a b : Int) (xs : List Int) : List Int := (xs.drop (32 * oF h.toNat a.toNat b.toNat)).take (32 * (oT h.toNat a.toNat b.toNat - oF h.toNat a.toNat b.toNat))
/-- What Digest tells. -/
def DgR (h l i n : Int) (len : Nat) (xs : List Int) (a b : Int) (ds : List Int) (e : Int) : Prop :=
  (e = 2 ∧ ds = zer 32 ∧ ¬ (V a b ∧ tOK h l i n)) ∨ (V a b ∧ tOK h l i n ∧ ((e = 101 ∧ ds = zer 32 ∧ ¬ (len : Int) = n * 32) ∨
    ((len : Int) = n * 32 ∧ ((e = 40 ∧ ds = zer 32 ∧ ¬ inT h l i n a b) ∨ (e = 0 ∧ inT h l i n a b ∧ ds = root (ovr h a b xs))))))
theorem DgR.uniq {h l i n : Int} {len : Nat} {xs : List Int} {a b : Int} {ds ds' : List Int} {e e' : Int} (k : DgR h l i n len xs a b ds e) (k' : DgR h l i n len xs a b ds' e') : ds = ds' ∧ e = e' := by
  rcases k with ⟨rfl, rfl, k⟩ | ⟨v, t, ⟨rfl, rfl, k⟩ | ⟨q, ⟨rfl, rfl, k⟩ | ⟨rfl, k, rfl⟩⟩⟩ <;> rcases k' with ⟨rfl, rfl, k'⟩ | ⟨v', t', ⟨rfl, rfl, k'⟩ | ⟨q', ⟨rfl, rfl, k'⟩ | ⟨rfl, k', rfl⟩⟩⟩
  all_goals first | exact ⟨rfl, rfl⟩ | (exfalso; first | exact k ⟨v', t'⟩ | exact k' ⟨v, t⟩ | exact k q' | exact k' q | exact k k' | exact k' k)
theorem ovr_len {h a b : Int} {xs : List Int} {n : Nat} (hx : xs.length = 32 * n) (ht : oT h.toNat a.toNat b.toNat ≤ n) : (ovr h a b xs).length = 32 * (oT h.toNat a.toNat b.toNat - oF h.toNat a.toNat b.toNat) := by
  unfold ovr
  rw [List.length_take, List.length_drop, hx]
  have : oF h.toNat a.toNat b.toNat ≤ oT h.toNat a.toNat b.toNat := Nat.le_add_right _ _
  omega
theorem oF_lt (h L I : Nat) : oF h L I < oT h L I := by unfold oT; have := Nat.two_pow_pos (L % h); omega

theorem placeOf_lit (h l i n : Int) (w : World) : Calls Tryd.prog 29 #[.agg #[.int .i64 h, .int .i64 l, .int .i64 i, .int .i64 n]] w fun r w' => r = .returned (.agg #[.int .i64 l, .int .i64 i]) ∧ Below w.heap.size w w' := placeOf_any h l i n w
set_option maxRecDepth 100000 in
set_option maxHeartbeats 2000000 in
theorem digestT_any (h l i n : Int) (hl : l ≤ 9223372036854775807) (hi : i ≤ 9223372036854775807) (len : Nat) (xs : List Int) (hx : xs.length = len) (hlen : len ≤ 140737488355328) (hxb : isB xs) (a b : Int) : ∃ (ds : List Int) (e : Int), DgR h l i n len xs a b ds e ∧ ∀ (ad : Option Addr) (cap : Nat) (w : World), Sl w ad len cap xs → KT w →
    Calls Tryd.prog 12 #[.agg (c4 h l i n).toArray, .slice ad len cap, .agg (c2 a b).toArray] w fun r w' => r = .returned (.tuple #[.agg (u8s ds).toArray, .int .i64 e]) ∧ Below w.heap.size w w' := by
  by_cases hh : h < 1 ∨ 8 < h
  · refine ⟨zer 32, 2, .inl ⟨rfl, rfl, fun ⟨_, H, L, I, N, e1, _, _, _, hH, _⟩ => by have := hH.1; have := hH.2; omega⟩, fun ad cap w hs hkt => ?_⟩
    have HOF : Hid (∀ v : World, Calls Tryd.prog 27 #[.int .i64 h, .agg (c2 a b).toArray] v fun r w' => r = .returned (.tuple #[.agg (c4 0 0 0 0).toArray, .int .i64 0, .int .i64 0, .int .i64 2]) ∧ Below v.heap.size v w') := hide (fun v => of_no1 h a b v hh)
    clear hs hkt hh
    go_enter Tryd.func12, Tryd.ntmps12
    go_wp2_with (first | (refine step_box (cs := c4 h l i n) rfl rfl ?_; intro w1 g1 hg1 hle1 hb1; have HG1 := hide hg1; clear hg1) | (refine step_box (cs := c2 a b) rfl rfl ?_; intro w2 g2 hg2 hle2 hb2; have HG2 := hide hg2; clear hg2) | (refine step_alloc zD rfl ?_; intro w3 g3 hg3 hle3 hb3; have q3 := on_below (on_below hb1 hb2) hb3; have BB := hide ((((Bs.nil w3).push hg3).push (HG2.out.on hb3)).push ((HG1.out.on hb2).on hb3)); have l3 : w.heap.size ≤ g3 := Nat.le_trans (on_below hb1 hb2).size hle3; clear hg3 hb1 hb2 hb3 hle1 hle2 hle3 HG1 HG2; have c0 := (BB.out.at 0 rfl).four.1) | (refine step_loadA wN rfl rfl (BB.out.at 1 rfl) rfl ?_))
    refine (HOF.out _).mono ?_
    rintro r w4 ⟨rfl, hb4⟩
    have q4 := on_below q3 hb4
    have B4 := hide (BB.out.on hb4)
    clear hb4 q3 BB c0 HOF
    go_wp2_with (first | (refine step_alloc zT rfl ?_; intro w5 g5 hg5 hle5 hb5; have HG5 := hide hg5; clear hg5) | (refine step_storeA wT rfl rfl rfl HG5.out rfl (One.c4 0 0 0 0) rfl ?_))
    intro w6 hg6 hbut6
    have q6 := new_below q4 hb5 hle5 hbut6
    have B6 := hide (B4.out.new hb5 hle5 hg6 hbut6)
    clear hb5 hle5 hbut6 q4 B4 hg6 HG5
    go_wp2_with (first | (refine step_buildD rfl ?_) | (refine step_storeA wD rfl rfl rfl (B6.out.at 3 rfl) rfl (One.u8 _) rfl ?_; intro w8 hg8 hbut8))
    refine bodyPost_ret (results_wide2 rfl wD _ _ rfl hg8 rfl) rfl ⟨rfl, ?_⟩
    exact q6.trans (hbut8.below l3)
  · obtain ⟨H, rfl⟩ : ∃ H : Nat, h = (H : Int) := ⟨h.toNat, by omega⟩
    have hH : isH H := ⟨by omega, by omega⟩
    by_cases hv : V a b
    · obtain ⟨L, I, rfl, rfl, hL, h1⟩ := hv.nats
      have HOF : Hid (∀ v : World, Calls Tryd.prog 27 #[.int .i64 (H : Int), .agg (c2 (L : Int) (I : Int)).toArray] v fun r w' => r = .returned (.tuple #[.agg (c4 (H : Int) (L / H : Nat) (oX H L I : Nat) (oT H L I : Nat)).toArray, .int .i64 (oF H L I : Nat), .int .i64 (oT H L I : Nat), .int .i64 0]) ∧ Below v.heap.size v w') := hide (fun v => of_ok H L I v hH hL h1)
      obtain ⟨e, he, hc⟩ := check_any (H : Int) l i n hl hi len hlen
      have HC := hide hc
      clear hc
      have hinT : inT (H : Int) l i n (L : Int) (I : Int) ↔ (((L / H : Nat) : Int) = l ∧ ((oX H L I : Nat) : Int) = i ∧ ((oT H L I : Nat) : Int) ≤ n) := by unfold inT; simp only [Int.toNat_natCast]
      have HOV : Hid (ovr (H : Int) (L : Int) (I : Int) xs = (xs.drop (32 * oF H L I)).take (32 * (oT H L I - oF H L I))) := hide (by unfold ovr; simp only [Int.toNat_natCast])
      have hFT := oF_lt H L I
      by_cases h0 : e = 0
      · subst h0
        have hk : tOK (H : Int) l i n ∧ (len : Int) = n * 32 := by
          rcases he with ⟨h1, _⟩ | ⟨hk, ⟨h1, _⟩ | ⟨_, h2⟩⟩
          · cases h1
          · cases h1
          · exact ⟨hk, h2⟩
        by_cases hin : inT (H : Int) l i n (L : Int) (I : Int)
        · refine ⟨root (ovr (H : Int) (L : Int) (I : Int) xs), 0, .inr ⟨hv, hk.1, .inr ⟨hk.2, .inr ⟨rfl, hin, rfl⟩⟩⟩, fun ad cap w hs hkt => ?_⟩
          obtain ⟨z1, z2, z3⟩ := hinT.1 hin
          have hnb := hk.1.n_bd
          obtain ⟨N, rfl⟩ : ∃ N : Nat, n = (N : Int) := ⟨n.toNat, by omega⟩
          have hlN : len = 32 * N := by omega
          have HS := hide hs
          have HK := hide hkt
          have hTN : oT H L I ≤ N := by omega
          have hRL := root_length (ovr_len (h := (H : Int)) (a := (L : Int)) (b := (I : Int)) (xs := xs) (n := N) (by omega) (by simpa using hTN)) ((hxb.drop _).take _)
          have HRL : Hid ((u8s (root (ovr (H : Int) (L : Int) (I : Int) xs))).length = 32) := hide (by rw [u8s_length, hRL])
          rw [HOV.out] at HRL ⊢
          obtain ⟨bb, o, rfl, _⟩ := hs.hcell (by omega)
          have hcap := hs.hcap
          have HL32 := hide hlN
          have hN2 : N ≤ 256 := by omega
          clear hin hinT hk he HOV hRL hh hv hs hkt hnb h1 hL hlN hx hxb
          generalize oF H L I = F at *
          generalize oT H L I = T at *
          generalize ((oX H L I : Nat) : Int) = C at *
          generalize ((L / H : Nat) : Int) = A at *
          clear hH
          generalize (H : Int) = h at *
          generalize (L : Int) = a at *
          generalize (I : Int) = b at *
          subst z1 z2
          have z3' : ¬ (T : Int) > (N : Int) := by omega
          have k1 : (F : Int) * 32 = ((32 * F : Nat) : Int) := by omega
          have k2 : (T : Int) * 32 = ((32 * T : Nat) : Int) := by omega
          have hF2 : 32 * F ≤ 8192 := by omega
          have hT2 : 32 * T ≤ 8192 := by omega
          have hFT2 : 32 * F < 32 * T := by omega
          have hTl : 32 * T ≤ len := by rw [HL32.out]; omega
          have HN3 := hide (show 32 * T - 32 * F = 32 * (T - F) by omega)
          have hTF : T - F ≤ 256 := by omega
          have hlist : ((xs.drop (32 * F)).take (32 * (T - F))) = (xs.drop (32 * F)).take (32 * T - 32 * F) := by rw [HN3.out]
          have HD : Hid (∀ v : World, Below w.heap.size w v → Calls Tryd.prog 31 #[.slice (some ⟨bb, o + 32 * F, none⟩) (32 * T - 32 * F) (cap - 32 * F)] v fun r w' => ∃ g, r = .returned (.slice (some ⟨g, 0, none⟩) (T - F) (T - F)) ∧ Ds w' (some ⟨g, 0, none⟩) (T - F) (T - F) ((xs.drop (32 * F)).take (32 * (T - F))) ∧ Below v.heap.size v w') := hide (fun v hv => by
            have s1 := ((HS.out.below hv).drop (32 * F) (by omega)).take (32 * T - 32 * F) (by omega)
            rw [HN3.out] at s1 ⊢
            exact digests_any bb (o + 32 * F) (T - F) (cap - 32 * F) (32 * (T - F)) _ v s1 rfl hTF)
          clear hlist
          generalize ((xs.drop (32 * F)).take (32 * (T - F))) = ys at *
          obtain ⟨F32, HF32⟩ : ∃ x, 32 * F = x := ⟨_, rfl⟩
          obtain ⟨T32, HT32⟩ : ∃ x, 32 * T = x := ⟨_, rfl⟩
          rw [HF32] at k1 hF2 hFT2 HD
          rw [HT32] at k2 hT2 hFT2 hTl HD
          have xs1 := fun v => b_mid bb o len cap F32 T32 (F32 : Int) (T32 : Int) rfl rfl hFT2 (by omega) v
          generalize T - F = TF at *
          clear HF32 HT32 HN3 HL32 hFT hTN z3
          go_enter Tryd.func12, Tryd.ntmps12
          go_wp2_with (first | (refine step_box (cs := c4 h A C (N : Int)) rfl rfl ?_; intro w1 g1 hg1 hle1 hb1; have HG1 := hide hg1; clear hg1) | (refine step_box (cs := c2 a b) rfl rfl ?_; intro w2 g2 hg2 hle2 hb2; have HG2 := hide hg2; clear hg2) | (refine step_alloc zD rfl ?_; intro w3 g3 hg3 hle3 hb3; have q3 := on_below (on_below hb1 hb2) hb3; have BB := hide ((((Bs.nil w3).push hg3).push (HG2.out.on hb3)).push ((HG1.out.on hb2).on hb3)); have l3 : w.heap.size ≤ g3 := Nat.le_trans (on_below hb1 hb2).size hle3; clear hg3 hb1 hb2 hb3 hle1 hle2 hle3 HG1 HG2; have c0 := (BB.out.at 0 rfl).four.1) | (refine step_loadA wN rfl rfl (BB.out.at 1 rfl) rfl ?_))
          refine (HOF.out _).mono ?_
          rintro r w4 ⟨rfl, hb4⟩
          have q4 := on_below q3 hb4
          have B4 := hide (BB.out.on hb4)
          clear hb4 q3 BB c0 HOF
          go_wp2_with (first | (refine step_alloc zT rfl ?_; intro w5 g5 hg5 hle5 hb5; have HG5 := hide hg5; clear hg5) | (refine step_storeA wT rfl rfl rfl HG5.out rfl (One.c4 h A C (T : Int)) rfl ?_))
          intro w6 hg6 hbut6
          have q6 := new_below q4 hb5 hle5 hbut6
          have B6 := hide (B4.out.new hb5 hle5 hg6 hbut6)
          clear hb5 hle5 hbut6 q4 B4 hg6 HG5
          go_wp2_with (refine step_loadA wT rfl rfl (B6.out.at 1 rfl) rfl ?_)
          refine (HC.out _ _ _).mono ?_
          rintro r w7 ⟨rfl, hb7⟩
          have q7 := on_below q6 hb7
          have B7 := hide (B6.out.on hb7)
          clear hb7 q6 B6 HC
          go_wp2_with fail
          have t0 := Sub.cell (B7.out.at 0 rfl).four.1
          have t1 := Sub.cell (B7.out.at 0 rfl).four.2.1
          have t2 := Sub.cell (B7.out.at 0 rfl).four.2.2.1
          have t3 := Sub.cell (B7.out.at 0 rfl).four.2.2.2
          have u0 := Sub.cell (B7.out.at 1 rfl).four.1
          have u1 := Sub.cell (B7.out.at 1 rfl).four.2.1
          have u2 := Sub.cell (B7.out.at 1 rfl).four.2.2.1
          have u3 := Sub.cell (B7.out.at 1 rfl).four.2.2.2
          have hne := Sub.one w7
          refine wp_region_sub (by kernel_rfl) (by kernel_rfl) ?_
          repeat (go_big_quiet_step (fail))
          go_big_quiet_step ((go_at_call 29; exact sub_call (placeOf_lit h A C (T : Int) _)))
          repeat (go_big_quiet_step (fail))
          go_big_quiet_step ((go_at_call 29; exact sub_call (placeOf_lit h A C (N : Int) _)))
          repeat (go_big_quiet_step (fail))
          refine wpQuiet_nil ?_
          rintro _ ⟨⟨w8, hb8⟩, rfl⟩
          have q8 := on_below q7 hb8
          have B8 := hide (B7.out.on hb8)
          clear hb8 q7 B7 t0 t1 t2 t3 u0 u1 u2 u3 hne
          go_wp2_with fail
          refine (HD.out _ q8).mono ?_
          rintro r w9 ⟨g9, rfl, hd9, hb9⟩
          have HD9 := hide hd9
          have q9 := on_below q8 hb9
          have B9 := hide (B8.out.on hb9)
          clear hd9 hb9 q8 B8 HD
          go_wp2_with fail
          refine (root_any TF _ TF TF ys w9 (Nat.le_refl _) HD9.out (HK.out.below q9 HK.out.lt)).mono ?_
          rintro r wa ⟨rfl, hba⟩
          have qa := on_below q9 hba
          have Ba := hide (B9.out.on hba)
          clear hba q9 B9 HD9
          go_wp2_with (refine step_storeA wD rfl rfl rfl (Ba.out.at 3 rfl) HRL.out (One.u8 _) rfl ?_)
          intro wb hgb hbutb
          go_wp2
          refine bodyPost_ret (results_wide2 rfl wD _ _ rfl hgb HRL.out) rfl ⟨rfl, ?_⟩
          exact qa.trans (hbutb.below l3)
        · refine ⟨zer 32, 40, .inr ⟨hv, hk.1, .inr ⟨hk.2, .inl ⟨rfl, rfl, hin⟩⟩⟩, fun ad cap w hs hkt => ?_⟩
          have hno : ¬ (((L / H : Nat) : Int) = l ∧ ((oX H L I : Nat) : Int) = i ∧ ((oT H L I : Nat) : Int) ≤ n) := fun q => hin (hinT.2 q)
          clear hin hinT hk he HOV hh hv hs hkt h1 hL hx hxb hFT
          generalize ((oF H L I : Nat) : Int) = F at *
          generalize ((oT H L I : Nat) : Int) = D at *
          generalize ((oX H L I : Nat) : Int) = C at *
          generalize ((L / H : Nat) : Int) = A at *
          clear hH
          generalize (H : Int) = h at *
          generalize (L : Int) = a at *
          generalize (I : Int) = b at *
          by_cases z1 : A = l
          · subst z1
            by_cases z2 : C = i
            · subst z2
              have z3 : D > n := by omega
              clear hno
              go_enter Tryd.func12, Tryd.ntmps12
              go_wp2_with (first | (refine step_box (cs := c4 h A C n) rfl rfl ?_; intro w1 g1 hg1 hle1 hb1; have HG1 := hide hg1; clear hg1) | (refine step_box (cs := c2 a b) rfl rfl ?_; intro w2 g2 hg2 hle2 hb2; have HG2 := hide hg2; clear hg2) | (refine step_alloc zD rfl ?_; intro w3 g3 hg3 hle3 hb3; have q3 := on_below (on_below hb1 hb2) hb3; have BB := hide ((((Bs.nil w3).push hg3).push (HG2.out.on hb3)).push ((HG1.out.on hb2).on hb3)); have l3 : w.heap.size ≤ g3 := Nat.le_trans (on_below hb1 hb2).size hle3; clear hg3 hb1 hb2 hb3 hle1 hle2 hle3 HG1 HG2; have c0 := (BB.out.at 0 rfl).four.1) | (refine step_loadA wN rfl rfl (BB.out.at 1 rfl) rfl ?_))
              refine (HOF.out _).mono ?_
              rintro r w4 ⟨rfl, hb4⟩
              have q4 := on_below q3 hb4
              have B4 := hide (BB.out.on hb4)
              clear hb4 q3 BB c0 HOF
              go_wp2_with (first | (refine step_alloc zT rfl ?_; intro w5 g5 hg5 hle5 hb5; have HG5 := hide hg5; clear hg5) | (refine step_storeA wT rfl rfl rfl HG5.out rfl (One.c4 h A C D) rfl ?_))
              intro w6 hg6 hbut6
              have q6 := new_below q4 hb5 hle5 hbut6
              have B6 := hide (B4.out.new hb5 hle5 hg6 hbut6)
              clear hb5 hle5 hbut6 q4 B4 hg6 HG5
              go_wp2_with (refine step_loadA wT rfl rfl (B6.out.at 1 rfl) rfl ?_)
              refine (HC.out _ _ _).mono ?_
              rintro r w7 ⟨rfl, hb7⟩
              have q7 := on_below q6 hb7
              have B7 := hide (B6.out.on hb7)
              clear hb7 q6 B6 HC
              go_wp2_with fail
              have t0 := Sub.cell (B7.out.at 0 rfl).four.1
              have t1 := Sub.cell (B7.out.at 0 rfl).four.2.1
              have t2 := Sub.cell (B7.out.at 0 rfl).four.2.2.1
              have t3 := Sub.cell (B7.out.at 0 rfl).four.2.2.2
              have u0 := Sub.cell (B7.out.at 1 rfl).four.1
              have u1 := Sub.cell (B7.out.at 1 rfl).four.2.1
              have u2 := Sub.cell (B7.out.at 1 rfl).four.2.2.1
              have u3 := Sub.cell (B7.out.at 1 rfl).four.2.2.2
              have hne := Sub.one w7
              refine wp_region_sub (by kernel_rfl) (by kernel_rfl) ?_
              repeat (go_big_quiet_step (fail))
              go_big_quiet_step ((go_at_call 29; exact sub_call (placeOf_lit h A C D _)))
              repeat (go_big_quiet_step (fail))
              go_big_quiet_step ((go_at_call 29; exact sub_call (placeOf_lit h A C n _)))
              repeat (go_big_quiet_step (fail))
              refine wpQuiet_nil ?_
              rintro _ ⟨⟨w8, hb8⟩, rfl⟩
              have q8 := on_below q7 hb8
              have B8 := hide (B7.out.on hb8)
              clear hb8 q7 B7 t0 t1 t2 t3 u0 u1 u2 u3 hne
              go_wp2_with (first | (refine step_buildD rfl ?_) | (refine step_storeA wD rfl rfl rfl (B8.out.at 3 rfl) rfl (One.u8 _) rfl ?_; intro w9 hg9 hbut9))
              refine bodyPost_ret (results_wide2 rfl wD _ _ rfl hg9 rfl) rfl ⟨rfl, ?_⟩
              exact q8.trans (hbut9.below l3)
            · have z2b : (C == i) = false := by simp [z2]
              clear hno
              go_enter Tryd.func12, Tryd.ntmps12
              go_wp2_with (first | (refine step_box (cs := c4 h A i n) rfl rfl ?_; intro w1 g1 hg1 hle1 hb1; have HG1 := hide hg1; clear hg1) | (refine step_box (cs := c2 a b) rfl rfl ?_; intro w2 g2 hg2 hle2 hb2; have HG2 := hide hg2; clear hg2) | (refine step_alloc zD rfl ?_; intro w3 g3 hg3 hle3 hb3; have q3 := on_below (on_below hb1 hb2) hb3; have BB := hide ((((Bs.nil w3).push hg3).push (HG2.out.on hb3)).push ((HG1.out.on hb2).on hb3)); have l3 : w.heap.size ≤ g3 := Nat.le_trans (on_below hb1 hb2).size hle3; clear hg3 hb1 hb2 hb3 hle1 hle2 hle3 HG1 HG2; have c0 := (BB.out.at 0 rfl).four.1) | (refine step_loadA wN rfl rfl (BB.out.at 1 rfl) rfl ?_))
              refine (HOF.out _).mono ?_
              rintro r w4 ⟨rfl, hb4⟩
              have q4 := on_below q3 hb4
              have B4 := hide (BB.out.on hb4)
              clear hb4 q3 BB c0 HOF
              go_wp2_with (first | (refine step_alloc zT rfl ?_; intro w5 g5 hg5 hle5 hb5; have HG5 := hide hg5; clear hg5) | (refine step_storeA wT rfl rfl rfl HG5.out rfl (One.c4 h A C D) rfl ?_))
              intro w6 hg6 hbut6
              have q6 := new_below q4 hb5 hle5 hbut6
              have B6 := hide (B4.out.new hb5 hle5 hg6 hbut6)
              clear hb5 hle5 hbut6 q4 B4 hg6 HG5
              go_wp2_with (refine step_loadA wT rfl rfl (B6.out.at 1 rfl) rfl ?_)
              refine (HC.out _ _ _).mono ?_
              rintro r w7 ⟨rfl, hb7⟩
              have q7 := on_below q6 hb7
              have B7 := hide (B6.out.on hb7)
              clear hb7 q6 B6 HC
              go_wp2_with fail
              have t0 := Sub.cell (B7.out.at 0 rfl).four.1
              have t1 := Sub.cell (B7.out.at 0 rfl).four.2.1
              have t2 := Sub.cell (B7.out.at 0 rfl).four.2.2.1
              have t3 := Sub.cell (B7.out.at 0 rfl).four.2.2.2
              have u0 := Sub.cell (B7.out.at 1 rfl).four.1
              have u1 := Sub.cell (B7.out.at 1 rfl).four.2.1
              have u2 := Sub.cell (B7.out.at 1 rfl).four.2.2.1
              have u3 := Sub.cell (B7.out.at 1 rfl).four.2.2.2
              have hne := Sub.one w7
              refine wp_region_sub (by kernel_rfl) (by kernel_rfl) ?_
              repeat (go_big_quiet_step (fail))
              go_big_quiet_step ((go_at_call 29; exact sub_call (placeOf_lit h A C D _)))
              repeat (go_big_quiet_step (fail))
              go_big_quiet_step ((go_at_call 29; exact sub_call (placeOf_lit h A i n _)))
              repeat (go_big_quiet_step (fail))
              refine wpQuiet_nil ?_
              rintro _ ⟨⟨w8, hb8⟩, rfl⟩
              have q8 := on_below q7 hb8
              have B8 := hide (B7.out.on hb8)
              clear hb8 q7 B7 t0 t1 t2 t3 u0 u1 u2 u3 hne
              go_wp2_with (first | (refine step_buildD rfl ?_) | (refine step_storeA wD rfl rfl rfl (B8.out.at 3 rfl) rfl (One.u8 _) rfl ?_; intro w9 hg9 hbut9))
              refine bodyPost_ret (results_wide2 rfl wD _ _ rfl hg9 rfl) rfl ⟨rfl, ?_⟩
              exact q8.trans (hbut9.below l3)
          · have z1b : (A == l) = false := by simp [z1]
            clear hno
            go_enter Tryd.func12, Tryd.ntmps12
            go_wp2_with (first | (refine step_box (cs := c4 h l i n) rfl rfl ?_; intro w1 g1 hg1 hle1 hb1; have HG1 := hide hg1; clear hg1) | (refine step_box (cs := c2 a b) rfl rfl ?_; intro w2 g2 hg2 hle2 hb2; have HG2 := hide hg2; clear hg2) | (refine step_alloc zD rfl ?_; intro w3 g3 hg3 hle3 hb3; have q3 := on_below (on_below hb1 hb2) hb3; have BB := hide ((((Bs.nil w3).push hg3).push (HG2.out.on hb3)).push ((HG1.out.on hb2).on hb3)); have l3 : w.heap.size ≤ g3 := Nat.le_trans (on_below hb1 hb2).size hle3; clear hg3 hb1 hb2 hb3 hle1 hle2 hle3 HG1 HG2; have c0 := (BB.out.at 0 rfl).four.1) | (refine step_loadA wN rfl rfl (BB.out.at 1 rfl) rfl ?_))
            refine (HOF.out _).mono ?_
            rintro r w4 ⟨rfl, hb4⟩
            have q4 := on_below q3 hb4
            have B4 := hide (BB.out.on hb4)
            clear hb4 q3 BB c0 HOF
            go_wp2_with (first | (refine step_alloc zT rfl ?_; intro w5 g5 hg5 hle5 hb5; have HG5 := hide hg5; clear hg5) | (refine step_storeA wT rfl rfl rfl HG5.out rfl (One.c4 h A C D) rfl ?_))
            intro w6 hg6 hbut6
            have q6 := new_below q4 hb5 hle5 hbut6
            have B6 := hide (B4.out.new hb5 hle5 hg6 hbut6)
            clear hb5 hle5 hbut6 q4 B4 hg6 HG5
            go_wp2_with (refine step_loadA wT rfl rfl (B6.out.at 1 rfl) rfl ?_)
            refine (HC.out _ _ _).mono ?_
            rintro r w7 ⟨rfl, hb7⟩
            have q7 := on_below q6 hb7
            have B7 := hide (B6.out.on hb7)
            clear hb7 q6 B6 HC
            go_wp2_with fail
            have t0 := Sub.cell (B7.out.at 0 rfl).four.1
            have t1 := Sub.cell (B7.out.at 0 rfl).four.2.1
            have t2 := Sub.cell (B7.out.at 0 rfl).four.2.2.1
            have t3 := Sub.cell (B7.out.at 0 rfl).four.2.2.2
            have u0 := Sub.cell (B7.out.at 1 rfl).four.1
            have u1 := Sub.cell (B7.out.at 1 rfl).four.2.1
            have u2 := Sub.cell (B7.out.at 1 rfl).four.2.2.1
            have u3 := Sub.cell (B7.out.at 1 rfl).four.2.2.2
            have hne := Sub.one w7
            refine wp_region_sub (by kernel_rfl) (by kernel_rfl) ?_
            repeat (go_big_quiet_step (fail))
            go_big_quiet_step ((go_at_call 29; exact sub_call (placeOf_lit h A C D _)))
            repeat (go_big_quiet_step (fail))
            go_big_quiet_step ((go_at_call 29; exact sub_call (placeOf_lit h l i n _)))
            repeat (go_big_quiet_step (fail))
            refine wpQuiet_nil ?_
            rintro _ ⟨⟨w8, hb8⟩, rfl⟩
            have q8 := on_below q7 hb8
            have B8 := hide (B7.out.on hb8)
            clear hb8 q7 B7 t0 t1 t2 t3 u0 u1 u2 u3 hne
            go_wp2_with (first | (refine step_buildD rfl ?_) | (refine step_storeA wD rfl rfl rfl (B8.out.at 3 rfl) rfl (One.u8 _) rfl ?_; intro w9 hg9 hbut9))
            refine bodyPost_ret (results_wide2 rfl wD _ _ rfl hg9 rfl) rfl ⟨rfl, ?_⟩
            exact q8.trans (hbut9.below l3)
      · refine ⟨zer 32, e, ?_, fun ad cap w hs hkt => ?_⟩
        · rcases he with ⟨h1, h2⟩ | ⟨hk, ⟨h1, h2⟩ | ⟨h1, _⟩⟩
          · exact .inl ⟨h1, rfl, fun h => h2 h.2⟩
          · exact .inr ⟨hv, hk, .inl ⟨h1, rfl, h2⟩⟩
          · exact absurd h1 h0
        · have h0b : (e == 0) = false := by simp [h0]
          clear hs hkt he hv hh hinT HOV hFT
          generalize (H : Int) = h at *
          generalize (L : Int) = a at *
          generalize (I : Int) = b at *
          generalize ((L / H : Nat) : Int) = A at *
          generalize ((oX H L I : Nat) : Int) = C at *
          generalize ((oT H L I : Nat) : Int) = D at *
          generalize ((oF H L I : Nat) : Int) = F at *
          go_enter Tryd.func12, Tryd.ntmps12
          go_wp2_with (first | (refine step_box (cs := c4 h l i n) rfl rfl ?_; intro w1 g1 hg1 hle1 hb1; have HG1 := hide hg1; clear hg1) | (refine step_box (cs := c2 a b) rfl rfl ?_; intro w2 g2 hg2 hle2 hb2; have HG2 := hide hg2; clear hg2) | (refine step_alloc zD rfl ?_; intro w3 g3 hg3 hle3 hb3; have q3 := on_below (on_below hb1 hb2) hb3; have BB := hide ((((Bs.nil w3).push hg3).push (HG2.out.on hb3)).push ((HG1.out.on hb2).on hb3)); have l3 : w.heap.size ≤ g3 := Nat.le_trans (on_below hb1 hb2).size hle3; clear hg3 hb1 hb2 hb3 hle1 hle2 hle3 HG1 HG2; have c0 := (BB.out.at 0 rfl).four.1) | (refine step_loadA wN rfl rfl (BB.out.at 1 rfl) rfl ?_))
          refine (HOF.out _).mono ?_
          rintro r w4 ⟨rfl, hb4⟩
          have q4 := on_below q3 hb4
          have B4 := hide (BB.out.on hb4)
          clear hb4 q3 BB c0 HOF
          go_wp2_with (first | (refine step_alloc zT rfl ?_; intro w5 g5 hg5 hle5 hb5; have HG5 := hide hg5; clear hg5) | (refine step_storeA wT rfl rfl rfl HG5.out rfl (One.c4 h A C D) rfl ?_))
          intro w6 hg6 hbut6
          have q6 := new_below q4 hb5 hle5 hbut6
          have B6 := hide (B4.out.new hb5 hle5 hg6 hbut6)
          clear hb5 hle5 hbut6 q4 B4 hg6 HG5
          go_wp2_with (refine step_loadA wT rfl rfl (B6.out.at 1 rfl) rfl ?_)
          refine (HC.out _ _ _).mono ?_
          rintro r w7 ⟨rfl, hb7⟩
          have q7 := on_below q6 hb7
          have B7 := hide (B6.out.on hb7)
          clear hb7 q6 B6 HC
          go_wp2_with (first | (refine step_buildD rfl ?_) | (refine step_storeA wD rfl rfl rfl (B7.out.at 3 rfl) rfl (One.u8 _) rfl ?_; intro w8 hg8 hbut8))
          refine bodyPost_ret (results_wide2 rfl wD _ _ rfl hg8 rfl) rfl ⟨rfl, ?_⟩
          exact q7.trans (hbut8.below l3)
    · refine ⟨zer 32, 2, .inl ⟨rfl, rfl, fun ⟨h, _⟩ => hv h⟩, fun ad cap w hs hkt => ?_⟩
      have HOF : Hid (∀ v : World, Calls Tryd.prog 27 #[.int .i64 (H : Int), .agg (c2 a b).toArray] v fun r w' => r = .returned (.tuple #[.agg (c4 0 0 0 0).toArray, .int .i64 0, .int .i64 0, .int .i64 2]) ∧ Below v.heap.size v w') := hide (fun v => of_no2 H a b v hH hv)
      clear hs hkt hh hv
      generalize (H : Int) = h at *
      go_enter Tryd.func12, Tryd.ntmps12
      go_wp2_with (first | (refine step_box (cs := c4 h l i n) rfl rfl ?_; intro w1 g1 hg1 hle1 hb1; have HG1 := hide hg1; clear hg1) | (refine step_box (cs := c2 a b) rfl rfl ?_; intro w2 g2 hg2 hle2 hb2; have HG2 := hide hg2; clear hg2) | (refine step_alloc zD rfl ?_; intro w3 g3 hg3 hle3 hb3; have q3 := on_below (on_below hb1 hb2) hb3; have BB := hide ((((Bs.nil w3).push hg3).push (HG2.out.on hb3)).push ((HG1.out.on hb2).on hb3)); have l3 : w.heap.size ≤ g3 := Nat.le_trans (on_below hb1 hb2).size hle3; clear hg3 hb1 hb2 hb3 hle1 hle2 hle3 HG1 HG2; have c0 := (BB.out.at 0 rfl).four.1) | (refine step_loadA wN rfl rfl (BB.out.at 1 rfl) rfl ?_))
      refine (HOF.out _).mono ?_
      rintro r w4 ⟨rfl, hb4⟩
      have q4 := on_below q3 hb4
      have B4 := hide (BB.out.on hb4)
      clear hb4 q3 BB c0 HOF
      go_wp2_with (first | (refine step_alloc zT rfl ?_; intro w5 g5 hg5 hle5 hb5; have HG5 := hide hg5; clear hg5) | (refine step_storeA wT rfl rfl rfl HG5.out rfl (One.c4 0 0 0 0) rfl ?_))
      intro w6 hg6 hbut6
      have q6 := new_below q4 hb5 hle5 hbut6
      have B6 := hide (B4.out.new hb5 hle5 hg6 hbut6)
      clear hb5 hle5 hbut6 q4 B4 hg6 HG5
      go_wp2_with (first | (refine step_buildD rfl ?_) | (refine step_storeA wD rfl rfl rfl (B6.out.at 3 rfl) rfl (One.u8 _) rfl ?_; intro w8 hg8 hbut8))
      refine bodyPost_ret (results_wide2 rfl wD _ _ rfl hg8 rfl) rfl ⟨rfl, ?_⟩
      exact q6.trans (hbut8.below l3)

end Go.Proofs.YtnlpgkfmjlljdaaDoor

/-
  The document's Digest at a place where there is one.
-/
namespace Go.Proofs.YtnlpgkfmjlljdaaDoor
open Go.RowKit
set_option linter.unusedVariables false

theorem sub_get (xs : List Int) (p i : Nat) (hi : i < 32) : ((xs.drop p).take 32).getD i 0 = xs.getD (p + i) 0 := by
  simp [List.getD, List.getElem?_drop, hi]
theorem elemBy : Tryd.prog.elem 36 = 5 := by kernel_rfl
set_option maxRecDepth 100000 in
theorem b_at (b o n cap i : Nat) (hi : i < n) (v : World) : (Instr.indexAt 36 (.slice (some ⟨b, o, none⟩) n cap) (.int .i64 (i : Int))).run Tryd.prog v = .ok (.pointer (some ⟨b, o + i, none⟩)) v := by
  rw [run_indexAt_slice v _ _ _ _ .i64 i undBs, if_pos ⟨by omega, by omega⟩, elemBy, sizeB]
  simp only [Result.andThen_ok, Int.toNat_natCast]
  rw [Addr.add_lit, Nat.mul_one]
set_option maxRecDepth 100000 in
set_option maxHeartbeats 2000000 in
theorem digAt_any (a : Option Addr) (len cap : Nat) (xs : List Int) (p : Nat) (w : World) (hs : Sl w a len cap xs) (hp : p + 32 ≤ len) :
    Calls Tryd.prog 52 #[.slice a len cap, .int .i64 (p : Int)] w fun r w' => r = .returned (.tuple #[.agg (u8s ((xs.drop p).take 32)).toArray, .int .i64 ((p : Int) + 32), .int .i64 0]) ∧ Below w.heap.size w w' := by
  have hlen := hs.hlen
  have hmx := hs.hreach
  obtain ⟨b, off, rfl, hce⟩ := hs.hcell (by omega)
  have hbl : b < w.heap.size := World.block_lt_of_cell? w _ (hce 0 (by omega))
  obtain ⟨ys, HY⟩ : ∃ ys, Hid ((xs.drop p).take 32 = ys) := ⟨_, hide rfl⟩
  have HX : Hid (ys.length = 32) := hide (by rw [← HY.out, List.length_take, List.length_drop]; omega)
  have HCE : Hid (∀ i, i < 32 → w.cell? ⟨b, off + (p + i), none⟩ = some (.int .u8 (ys.getD i 0))) := hide (fun i hi => by
    rw [← HY.out, sub_get xs p i hi]
    exact hce (p + i) (by omega))
  have hp0 : ¬ (p : Int) < 0 := by omega
  have hp1 : ¬ (len : Int) < (p : Int) := by omega
  have hp2 : wrap64 ((len : Int) - (p : Int)) = (len : Int) - (p : Int) := by unfold wrap64; omega
  have hp3 : ¬ (len : Int) - (p : Int) < 32 := by omega
  have hp4 : wrap64 ((p : Int) + 32) = (p : Int) + 32 := by unfold wrap64; omega
  rw [HY.out]
  clear hs hce hlen
  go_enter Tryd.func52, Tryd.ntmps52
  go_wp2_with (refine step_alloc zD0 rfl ?_)
  intro w1 g1 hg1 hle1 hb1
  go_wp2_with (refine step_alloc zD0 rfl ?_)
  intro w2 g2 hg2 hle2 hb2
  have hb12 : Below w.heap.size w w2 := hb1.trans (hb2.mono hb1.size)
  have G1 := hide (hg1.below hb2 hg1.lt)
  have G2 := hide hg2
  have n12 : g1 ≠ g2 := by have := hg1.lt; omega
  have l2 : w.heap.size ≤ g2 := by have := hb1.size; omega
  have HCE2 : Hid (∀ i, i < 32 → w2.cell? ⟨b, off + (p + i), none⟩ = some (.int .u8 (ys.getD i 0))) := hide (fun i hi => by
    rw [hb12.cell (p := ⟨b, off + (p + i), none⟩) hbl]; exact HCE.out i hi)
  have HB12 := hide hb12
  clear hg1 hg2 hb1 hb2 hb12 HCE hle2
  go_wp2
  go_loopw [8] (fun i wq => ∃ k : Nat, k ≤ 32 ∧ i = .int .i64 k ∧ Blk wq g2 39 (spl (u8s (zer 32)) (u8s (ys.take k)) 0) ∧ But g2 w2 wq) (fun i _ => 32 - (intOf i).toNat)
  case atStart => exact ⟨0, by omega, rfl, G2.out, But.refl _ _⟩
  case round =>
    clear G2
    obtain ⟨k, hk, rfl, hr, hbut⟩ := hrel
    have HR := hide hr
    have HBut := hide hbut
    clear hr hbut
    by_cases hk32 : k < 32
    · obtain ⟨old, hold⟩ := spl_there ys 32 k HX.out hk32
      have hcell : wr.cell? ⟨g2, k, none⟩ = some old := by rw [HR.out.cell]; exact hold
      have hfree : wr.frozen? ⟨g2, k, none⟩ = false := HR.out.free k
      have hsrc : wr.cell? ⟨b, off + (p + k), none⟩ = some (.int .u8 (ys.getD k 0)) := by
        rw [World.cell?_of_block (w := w2) (HBut.out.block b (by omega)), HCE2.out k hk32]
      have hkL : (k : Int) < 32 := by omega
      have hpk : wrap64 ((p : Int) + (k : Int)) = (p : Int) + (k : Int) := by unfold wrap64; omega
      have x2 := index_D g2 k (k : Int) rfl hk32
      have x1 : ∀ v : World, (Instr.indexAt 36 (.slice (some ⟨b, off, none⟩) len cap) (.int .i64 ((p : Int) + (k : Int)))).run Tryd.prog v = .ok (.pointer (some ⟨b, off + (p + k), none⟩)) v := fun v => by
        rw [show (p : Int) + (k : Int) = ((p + k : Nat) : Int) by omega]
        exact b_at b off len cap (p + k) (by omega) v
      have HN := hide (spl_next ys 32 k HX.out hk32)
      clear hold
      go_wp2
      refine ⟨⟨k + 1, by omega, by go_num, ?_, HBut.out.trans (But.setCell _ _ _ _)⟩, ?_⟩
      · have e := HR.out.set k (.int .u8 (ys.getD k 0))
        rw [HN.out] at e
        exact e
      · simp [intOf]; omega
    · obtain rfl : k = 32 := by omega
      have HF := hide HR.out
      rw [List.take_of_length_le (by rw [HX.out]; exact Nat.le_refl _), spl_all ys 32 HX.out] at HF
      have G1q := hide (G1.out.but HBut.out n12)
      go_wp2_with (first | (refine step_loadA wD0 rfl rfl HF.out (by rw [u8s_length]; exact HX.out) ?_) | (refine step_storeA wD0 rfl rfl rfl G1q.out (by rw [u8s_length]; exact HX.out) (One.u8 _) rfl ?_; intro w6 hg6 hbut6))
      refine bodyPost_ret (results_wide3 rfl wD0 _ _ rfl hg6 (by rw [u8s_length]; exact HX.out)) rfl ⟨rfl, ?_⟩
      exact HB12.out.trans ((HBut.out.below l2).trans (hbut6.below hle1))

end Go.Proofs.YtnlpgkfmjlljdaaDoor

/-
  Which tiles may be; a tile's bytes as digests; a node's digest out of them: the document's.
-/
namespace Go.Proofs.YtnlpgkfmjlljdaaDoor
open Go.RowKit
set_option linter.unusedVariables false

theorem below_of_eq {v v' : World} (h : v' = v) : Below v.heap.size v v' := by rw [h]; exact Below.refl _ _
theorem tOK_iff {H L I N P : Nat} (hH : isH H) (hP : 2 ^ H = P) (hN : 1 ≤ N) (hNP : N ≤ P) : tOK (H : Int) (L : Int) (I : Int) (N : Int) ↔ I * P + N ≤ 281474976710656 / 2 ^ (H * L) := by
  constructor
  · rintro ⟨H', L', I', N', e1, e2, e3, e4, _, h1, h2⟩
    obtain rfl : H = H' := by omega
    obtain rfl : L = L' := by omega
    obtain rfl : I = I' := by omega
    obtain rfl : N = N' := by omega
    unfold tW tOv at h2
    rw [hP] at h2
    generalize I * P = X at *
    generalize 281474976710656 / 2 ^ (H * L) = D at *
    omega
  · intro h
    refine ⟨H, L, I, N, rfl, rfl, rfl, rfl, hH, hN, ?_⟩
    unfold tW tOv
    rw [hP]
    generalize I * P = X at *
    generalize 281474976710656 / 2 ^ (H * L) = D at *
    omega
set_option maxRecDepth 100000 in
set_option maxHeartbeats 2000000 in
theorem validTR_any (h l i n : Int) : ∃ q : Bool, (q = true ↔ tOK h l i n) ∧ ∀ w : World,
    Calls Tryd.prog 10 #[.agg (c4 h l i n).toArray] w fun r w' => r = .returned (.bool q) ∧ Below w.heap.size w w' := by
  by_cases hh : h < 1 ∨ 8 < h
  · refine ⟨false, ⟨(fun e => by cases e), fun ⟨H, L, I, N, e1, e2, e3, e4, hH, _⟩ => by have := hH.1; have := hH.2; omega⟩, fun w => ?_⟩
    have HHC : Hid (∀ v : World, Calls Tryd.prog 24 #[.int .i64 h] v fun r w' => r = .returned (.bool false) ∧ Below v.heap.size v w') := hide (fun v => (heightR_no h v hh).mono (fun r v' hv => ⟨hv.1, below_of_eq hv.2⟩))
    clear hh
    go_enter Tryd.func10, Tryd.ntmps10
    go_wp2_with (first | (refine step_box (cs := c4 h l i n) rfl rfl ?_; intro w1 g1 hg1 hle1 hb1; have HG1 := hide hg1; clear hg1))
    have t0 := Sub.cell HG1.out.four.1
    have t1 := Sub.cell HG1.out.four.2.1
    have t2 := Sub.cell HG1.out.four.2.2.1
    have t3 := Sub.cell HG1.out.four.2.2.2
    have hne := Sub.one w1
    refine wp_region_sub (by kernel_rfl) (by kernel_rfl) ?_
    repeat (go_big_quiet_step (fail))
    go_big_quiet_step ((go_at_call 24; exact sub_call (HHC.out _)))
    repeat (go_big_quiet_step (fail))
    refine wpQuiet_nil ?_
    rintro _ ⟨⟨w2, hb2⟩, rfl⟩
    have q2 := on_below hb1 hb2
    have G2 := hide (HG1.out.on hb2)
    clear hb1 hb2 HG1 t0 t1 t2 t3 hne
    go_wp2
    go_ret
    exact ⟨rfl, q2⟩
  obtain ⟨H, hHe⟩ : ∃ H : Nat, h = (H : Int) := ⟨h.toNat, by omega⟩
  have hH : isH H := ⟨by omega, by omega⟩
  obtain ⟨P, hP⟩ : ∃ P, 2 ^ H = P := ⟨_, rfl⟩
  have hp := hH.pow
  rw [hP] at hp
  have HHC : Hid (∀ v : World, Calls Tryd.prog 24 #[.int .i64 h] v fun r w' => r = .returned (.bool true) ∧ Below v.heap.size v w') := hide (fun v => by
    rw [hHe]
    exact (heightR_yes H v hH).mono (fun r v' hv => ⟨hv.1, below_of_eq hv.2⟩))
  have HFC : Hid (∀ v : World, Calls Tryd.prog 20 #[.int .i64 h] v fun r w' => r = .returned (.int .i64 (P : Int)) ∧ Below v.heap.size v w') := hide (fun v => by
    rw [hHe]
    exact (full_any H P v hH hP).mono (fun r v' hv => ⟨hv.1, below_of_eq hv.2⟩))
  have hP2 : (P : Int) ≤ 256 := by omega
  have HHE := hide hHe
  have h1 : 1 ≤ h := by omega
  have h8 : h ≤ 8 := by omega
  clear hh hHe
  by_cases hl : l < 0
  · refine ⟨false, ⟨(fun e => by cases e), fun ⟨H, L, I, N, e1, e2, e3, e4, hH, _⟩ => by omega⟩, fun w => ?_⟩
    clear hp
    have da0 : decide (l < 0) = true := by simp; omega
    go_enter Tryd.func10, Tryd.ntmps10
    go_wp2_with (first | (refine step_box (cs := c4 h l i n) rfl rfl ?_; intro w1 g1 hg1 hle1 hb1; have HG1 := hide hg1; clear hg1))
    have t0 := Sub.cell HG1.out.four.1
    have t1 := Sub.cell HG1.out.four.2.1
    have t2 := Sub.cell HG1.out.four.2.2.1
    have t3 := Sub.cell HG1.out.four.2.2.2
    have hne := Sub.one w1
    refine wp_region_sub (by kernel_rfl) (by kernel_rfl) ?_
    repeat (go_big_quiet_step (fail))
    go_big_quiet_step ((go_at_call 24; exact sub_call (HHC.out _)))
    repeat (go_big_quiet_step (fail))
    refine wpQuiet_nil ?_
    rintro _ ⟨⟨w2, hb2⟩, rfl⟩
    have q2 := on_below hb1 hb2
    have G2 := hide (HG1.out.on hb2)
    clear hb1 hb2 HG1 t0 t1 t2 t3 hne
    go_wp2
    go_ret
    exact ⟨rfl, q2⟩
  have da0 : decide (l < 0) = false := by simp; omega
  by_cases hl2 : l > 48
  · refine ⟨false, ⟨(fun e => by cases e), fun ⟨H, L, I, N, e1, e2, e3, e4, hH, k1, k2⟩ => by have := (tW_bd hH (Nat.le_refl _) (Nat.lt_of_lt_of_le k1 k2)).2.2; omega⟩, fun w => ?_⟩
    clear hp
    have db0 : decide (l > 48) = true := by simp; omega
    have db1 : decide (48 < l) = true := by simp; omega
    go_enter Tryd.func10, Tryd.ntmps10
    go_wp2_with (first | (refine step_box (cs := c4 h l i n) rfl rfl ?_; intro w1 g1 hg1 hle1 hb1; have HG1 := hide hg1; clear hg1))
    have t0 := Sub.cell HG1.out.four.1
    have t1 := Sub.cell HG1.out.four.2.1
    have t2 := Sub.cell HG1.out.four.2.2.1
    have t3 := Sub.cell HG1.out.four.2.2.2
    have hne := Sub.one w1
    refine wp_region_sub (by kernel_rfl) (by kernel_rfl) ?_
    repeat (go_big_quiet_step (fail))
    go_big_quiet_step ((go_at_call 24; exact sub_call (HHC.out _)))
    repeat (go_big_quiet_step (fail))
    refine wpQuiet_nil ?_
    rintro _ ⟨⟨w2, hb2⟩, rfl⟩
    have q2 := on_below hb1 hb2
    have G2 := hide (HG1.out.on hb2)
    clear hb1 hb2 HG1 t0 t1 t2 t3 hne
    go_wp2
    go_ret
    exact ⟨rfl, q2⟩
  have db0 : decide (l > 48) = false := by simp; omega
  have db1 : decide (48 < l) = false := by simp; omega
  by_cases hi : i < 0
  · refine ⟨false, ⟨(fun e => by cases e), fun ⟨H, L, I, N, e1, e2, e3, e4, hH, _⟩ => by omega⟩, fun w => ?_⟩
    clear hp
    have dc0 : decide (i < 0) = true := by simp; omega
    go_enter Tryd.func10, Tryd.ntmps10
    go_wp2_with (first | (refine step_box (cs := c4 h l i n) rfl rfl ?_; intro w1 g1 hg1 hle1 hb1; have HG1 := hide hg1; clear hg1))
    have t0 := Sub.cell HG1.out.four.1
    have t1 := Sub.cell HG1.out.four.2.1
    have t2 := Sub.cell HG1.out.four.2.2.1
    have t3 := Sub.cell HG1.out.four.2.2.2
    have hne := Sub.one w1
    refine wp_region_sub (by kernel_rfl) (by kernel_rfl) ?_
    repeat (go_big_quiet_step (fail))
    go_big_quiet_step ((go_at_call 24; exact sub_call (HHC.out _)))
    repeat (go_big_quiet_step (fail))
    refine wpQuiet_nil ?_
    rintro _ ⟨⟨w2, hb2⟩, rfl⟩
    have q2 := on_below hb1 hb2
    have G2 := hide (HG1.out.on hb2)
    clear hb1 hb2 HG1 t0 t1 t2 t3 hne
    go_wp2
    go_ret
    exact ⟨rfl, q2⟩
  have dc0 : decide (i < 0) = false := by simp; omega
  by_cases hn : n < 1
  · refine ⟨false, ⟨(fun e => by cases e), fun ⟨H, L, I, N, e1, e2, e3, e4, hH, _⟩ => by omega⟩, fun w => ?_⟩
    clear hp
    have dd0 : decide (n < 1) = true := by simp; omega
    go_enter Tryd.func10, Tryd.ntmps10
    go_wp2_with (first | (refine step_box (cs := c4 h l i n) rfl rfl ?_; intro w1 g1 hg1 hle1 hb1; have HG1 := hide hg1; clear hg1))
    have t0 := Sub.cell HG1.out.four.1
    have t1 := Sub.cell HG1.out.four.2.1
    have t2 := Sub.cell HG1.out.four.2.2.1
    have t3 := Sub.cell HG1.out.four.2.2.2
    have hne := Sub.one w1
    refine wp_region_sub (by kernel_rfl) (by kernel_rfl) ?_
    repeat (go_big_quiet_step (fail))
    go_big_quiet_step ((go_at_call 24; exact sub_call (HHC.out _)))
    repeat (go_big_quiet_step (fail))
    refine wpQuiet_nil ?_
    rintro _ ⟨⟨w2, hb2⟩, rfl⟩
    have q2 := on_below hb1 hb2
    have G2 := hide (HG1.out.on hb2)
    clear hb1 hb2 HG1 t0 t1 t2 t3 hne
    go_wp2
    go_ret
    exact ⟨rfl, q2⟩
  have dd0 : decide (n < 1) = false := by simp; omega
  by_cases hn2 : n > (P : Int)
  · refine ⟨false, ⟨(fun e => by cases e), fun ⟨H', L, I, N, e1, e2, e3, e4, hH, k1, k2⟩ => by
      have h3 := tW_le H' L I 281474976710656
      have h4 : H' = H := by have := HHE.out; omega
      rw [h4] at k2 h3
      rw [hP] at h3
      omega⟩, fun w => ?_⟩
    clear hp
    have de0 : decide (n > (P : Int)) = true := by simp; omega
    have de1 : decide ((P : Int) < n) = true := by simp; omega
    go_enter Tryd.func10, Tryd.ntmps10
    go_wp2_with (first | (refine step_box (cs := c4 h l i n) rfl rfl ?_; intro w1 g1 hg1 hle1 hb1; have HG1 := hide hg1; clear hg1))
    have t0 := Sub.cell HG1.out.four.1
    have t1 := Sub.cell HG1.out.four.2.1
    have t2 := Sub.cell HG1.out.four.2.2.1
    have t3 := Sub.cell HG1.out.four.2.2.2
    have hne := Sub.one w1
    refine wp_region_sub (by kernel_rfl) (by kernel_rfl) ?_
    repeat (go_big_quiet_step (fail))
    go_big_quiet_step ((go_at_call 24; exact sub_call (HHC.out _)))
    repeat (go_big_quiet_step (fail))
    go_big_quiet_step ((go_at_call 20; exact sub_call (HFC.out _)))
    repeat (go_big_quiet_step (fail))
    refine wpQuiet_nil ?_
    rintro _ ⟨⟨w2, hb2⟩, rfl⟩
    have q2 := on_below hb1 hb2
    have G2 := hide (HG1.out.on hb2)
    clear hb1 hb2 HG1 t0 t1 t2 t3 hne
    obtain ⟨c0, c1, c2, c3⟩ := G2.out.four
    go_wp2
    go_ret
    exact ⟨rfl, q2⟩
  have de0 : decide (n > (P : Int)) = false := by simp; omega
  have de1 : decide ((P : Int) < n) = false := by simp; omega
  obtain ⟨L, hLe⟩ : ∃ H : Nat, l = (H : Int) := ⟨l.toNat, by omega⟩
  obtain ⟨I, hIe⟩ : ∃ H : Nat, i = (H : Int) := ⟨i.toNat, by omega⟩
  obtain ⟨N, hNe⟩ : ∃ H : Nat, n = (H : Int) := ⟨n.toNat, by omega⟩
  have hiff : tOK h l i n ↔ I * P + N ≤ 281474976710656 / 2 ^ (H * L) := by rw [HHE.out, hLe, hIe, hNe]; exact tOK_iff hH hP (by omega) (by omega)
  have HIF := hide hiff
  have hM : l * h = ((H * L : Nat) : Int) := by rw [HHE.out, hLe, Int.natCast_mul, Int.mul_comm]
  have hMb : H * L ≤ 384 := by
    have := Nat.mul_le_mul hH.2 (show L ≤ 48 by omega)
    omega
  obtain ⟨M, HM⟩ : ∃ M, Hid (H * L = M) := ⟨_, hide rfl⟩
  rw [HM.out] at hM hMb HIF
  clear hiff hp
  have HIE := hide hIe
  have HNE := hide hNe
  have HPP := hide hP
  have hN1 : 1 ≤ N := by omega
  have hNP : N ≤ P := by omega
  have hP0 : 0 < P := by have := hH.pow.1; rw [hP] at this; omega
  clear hLe hIe hNe hP
  by_cases hM2 : (M : Int) > 48
  · refine ⟨false, ⟨(fun e => by cases e), fun e => by
      have h3 := HIF.out.1 e
      have h4 := tOv_high (h := H) (l := L) (n := 281474976710656) (Nat.le_refl _) (by rw [HM.out]; omega)
      unfold tOv at h4
      rw [HM.out] at h4
      rw [h4] at h3
      omega⟩, fun w => ?_⟩
    go_enter Tryd.func10, Tryd.ntmps10
    go_wp2_with (first | (refine step_box (cs := c4 h l i n) rfl rfl ?_; intro w1 g1 hg1 hle1 hb1; have HG1 := hide hg1; clear hg1))
    have t0 := Sub.cell HG1.out.four.1
    have t1 := Sub.cell HG1.out.four.2.1
    have t2 := Sub.cell HG1.out.four.2.2.1
    have t3 := Sub.cell HG1.out.four.2.2.2
    have hne := Sub.one w1
    refine wp_region_sub (by kernel_rfl) (by kernel_rfl) ?_
    repeat (go_big_quiet_step (fail))
    go_big_quiet_step ((go_at_call 24; exact sub_call (HHC.out _)))
    repeat (go_big_quiet_step (fail))
    go_big_quiet_step ((go_at_call 20; exact sub_call (HFC.out _)))
    repeat (go_big_quiet_step (fail))
    refine wpQuiet_nil ?_
    rintro _ ⟨⟨w2, hb2⟩, rfl⟩
    have q2 := on_below hb1 hb2
    have G2 := hide (HG1.out.on hb2)
    clear hb1 hb2 HG1 t0 t1 t2 t3 hne
    obtain ⟨c0, c1, c2, c3⟩ := G2.out.four
    go_wp2
    go_ret
    exact ⟨rfl, q2⟩
  have hM3 : M ≤ 48 := by omega
  have hHt : h.toNat = H := by rw [HHE.out]; rfl
  have hshr : (281474976710656 : Int) / 2 ^ h.toNat = ((281474976710656 / P : Nat) : Int) := by
    have := pow_int 281474976710656 H
    rw [HPP.out] at this
    rw [hHt]
    exact this
  have hQb : 281474976710656 / P ≤ 281474976710656 := Nat.div_le_self _ _
  obtain ⟨QP, HQP⟩ : ∃ q, Hid (281474976710656 / P = q) := ⟨_, hide rfl⟩
  rw [HQP.out] at hshr hQb
  by_cases hix : i > (QP : Int)
  · refine ⟨false, ⟨(fun e => by cases e), fun e => by
      have h3 := HIF.out.1 e
      have h4 : I * P ≤ 281474976710656 := by
        have := Nat.div_le_self 281474976710656 (2 ^ M)
        omega
      have h5 := (Nat.le_div_iff_mul_le hP0).2 h4
      rw [HQP.out] at h5
      have := HIE.out
      omega⟩, fun w => ?_⟩
    have hix2 : (QP : Int) < i := hix
    clear hHt
    go_enter Tryd.func10, Tryd.ntmps10
    go_wp2_with (first | (refine step_box (cs := c4 h l i n) rfl rfl ?_; intro w1 g1 hg1 hle1 hb1; have HG1 := hide hg1; clear hg1))
    have t0 := Sub.cell HG1.out.four.1
    have t1 := Sub.cell HG1.out.four.2.1
    have t2 := Sub.cell HG1.out.four.2.2.1
    have t3 := Sub.cell HG1.out.four.2.2.2
    have hne := Sub.one w1
    refine wp_region_sub (by kernel_rfl) (by kernel_rfl) ?_
    repeat (go_big_quiet_step (fail))
    go_big_quiet_step ((go_at_call 24; exact sub_call (HHC.out _)))
    repeat (go_big_quiet_step (fail))
    go_big_quiet_step ((go_at_call 20; exact sub_call (HFC.out _)))
    repeat (go_big_quiet_step (fail))
    refine wpQuiet_nil ?_
    rintro _ ⟨⟨w2, hb2⟩, rfl⟩
    have q2 := on_below hb1 hb2
    have G2 := hide (HG1.out.on hb2)
    clear hb1 hb2 HG1 t0 t1 t2 t3 hne
    obtain ⟨c0, c1, c2, c3⟩ := G2.out.four
    go_wp2
    go_ret
    exact ⟨rfl, q2⟩
  · have hX : i * 2 ^ h.toNat = ((I * P : Nat) : Int) := by rw [hHt, HIE.out, ← HPP.out, Int.natCast_mul, Int.natCast_pow]; rfl
    have hXb : I * P ≤ 281474976710656 := by
      have h5 : I ≤ 281474976710656 / P := by rw [HQP.out]; have := HIE.out; omega
      exact (Nat.le_div_iff_mul_le hP0).1 h5
    obtain ⟨X, HX⟩ : ∃ x, Hid (I * P = x) := ⟨_, hide rfl⟩
    rw [HX.out] at hX hXb HIF
    obtain ⟨J1, HJ1⟩ : ∃ x, Hid (X + N = x) := ⟨_, hide rfl⟩
    obtain ⟨J, HJ⟩ : ∃ x, Hid (X + N - 1 = x) := ⟨_, hide rfl⟩
    have k1 : (X : Int) + n = (J1 : Int) := by rw [← HJ1.out, HNE.out]; omega
    have k2 : (J1 : Int) - 1 = (J : Int) := by rw [← HJ1.out, ← HJ.out]; omega
    have k3 : J1 ≤ 281474976710912 := by rw [← HJ1.out]; omega
    have hix2 : ¬ (QP : Int) < i := hix
    have hib : i ≤ 281474976710656 := by omega
    have hD : (281474976710656 : Int) / 2 ^ M = ((281474976710656 / 2 ^ M : Nat) : Int) := pow_int 281474976710656 M
    clear hHt
    by_cases hv : X + N ≤ 281474976710656 / 2 ^ M
    · refine ⟨true, ⟨fun _ => HIF.out.2 hv, fun _ => rfl⟩, fun w => ?_⟩
      have HVC := hide (fun v => validR_yes M J v (by omega) (by rw [hD, ← HJ.out]; omega))
      clear hD hv
      go_enter Tryd.func10, Tryd.ntmps10
      go_wp2_with (first | (refine step_box (cs := c4 h l i n) rfl rfl ?_; intro w1 g1 hg1 hle1 hb1; have HG1 := hide hg1; clear hg1))
      have t0 := Sub.cell HG1.out.four.1
      have t1 := Sub.cell HG1.out.four.2.1
      have t2 := Sub.cell HG1.out.four.2.2.1
      have t3 := Sub.cell HG1.out.four.2.2.2
      have hne := Sub.one w1
      refine wp_region_sub (by kernel_rfl) (by kernel_rfl) ?_
      repeat (go_big_quiet_step (fail))
      go_big_quiet_step ((go_at_call 24; exact sub_call (HHC.out _)))
      repeat (go_big_quiet_step (fail))
      go_big_quiet_step ((go_at_call 20; exact sub_call (HFC.out _)))
      repeat (go_big_quiet_step (fail))
      refine wpQuiet_nil ?_
      rintro _ ⟨⟨w2, hb2⟩, rfl⟩
      have q2 := on_below hb1 hb2
      have G2 := hide (HG1.out.on hb2)
      clear hb1 hb2 HG1 t0 t1 t2 t3 hne
      obtain ⟨c0, c1, c2, c3⟩ := G2.out.four
      go_wp2_with (go_at_call 26; refine (HVC.out _).mono ?_; rintro r w3 ⟨rfl, hb3⟩; have q3 := on_below q2 hb3)
      go_ret
      exact ⟨rfl, q3⟩
    · refine ⟨false, ⟨(fun e => by cases e), fun e => absurd (HIF.out.1 e) hv⟩, fun w => ?_⟩
      have HVC := hide (fun v => validR_no (M : Int) (J : Int) v (fun hV => by
        obtain ⟨_, _, _, h4⟩ := hV
        rw [Int.toNat_natCast, hD, ← HJ.out] at h4
        omega))
      clear hD hv
      go_enter Tryd.func10, Tryd.ntmps10
      go_wp2_with (first | (refine step_box (cs := c4 h l i n) rfl rfl ?_; intro w1 g1 hg1 hle1 hb1; have HG1 := hide hg1; clear hg1))
      have t0 := Sub.cell HG1.out.four.1
      have t1 := Sub.cell HG1.out.four.2.1
      have t2 := Sub.cell HG1.out.four.2.2.1
      have t3 := Sub.cell HG1.out.four.2.2.2
      have hne := Sub.one w1
      refine wp_region_sub (by kernel_rfl) (by kernel_rfl) ?_
      repeat (go_big_quiet_step (fail))
      go_big_quiet_step ((go_at_call 24; exact sub_call (HHC.out _)))
      repeat (go_big_quiet_step (fail))
      go_big_quiet_step ((go_at_call 20; exact sub_call (HFC.out _)))
      repeat (go_big_quiet_step (fail))
      refine wpQuiet_nil ?_
      rintro _ ⟨⟨w2, hb2⟩, rfl⟩
      have q2 := on_below hb1 hb2
      have G2 := hide (HG1.out.on hb2)
      clear hb1 hb2 HG1 t0 t1 t2 t3 hne
      obtain ⟨c0, c1, c2, c3⟩ := G2.out.four
      go_wp2_with (go_at_call 26; refine (HVC.out _).mono ?_; rintro r w3 ⟨rfl, hb3⟩; have q3 := on_below q2 hb3)
      go_ret
      exact ⟨rfl, q3⟩

end Go.Proofs.YtnlpgkfmjlljdaaDoor

/-
  Structs that are built out of parts of many cells.
-/
namespace Go.Proofs.YtnlpgkfmjlljdaaDoor
open Go.RowKit
set_option linter.unusedVariables false

theorem fold_spl (off : Nat) : ∀ (vs : List Value) (k : Nat) (cs : List Value), off + k + vs.length ≤ cs.length →
    (vs.zipIdx k).foldl (fun (a : Array Value) (x : Value × Nat) => a.setIfInBounds (off + x.2) x.1) cs.toArray = (spl cs vs (off + k)).toArray
  | [], k, cs, _ => by simp [spl]
  | v :: r, k, cs, h => by
    rw [List.length_cons] at h
    rw [List.zipIdx_cons, List.foldl_cons]
    have e : cs.toArray.setIfInBounds (off + k) v = (cs.set (off + k) v).toArray := by simp
    show List.foldl _ (cs.toArray.setIfInBounds (off + k) v) (r.zipIdx (k + 1)) = _
    rw [e, fold_spl off r (k + 1) _ (by rw [List.length_set]; omega), ← Nat.add_assoc off k 1, spl_cons cs v r (off + k) (by omega)]

theorem fill_cons {place : Nat → Option (Nat × Nat)} {i off size : Nat} {cs vs : List Value} {v : Value} {rest : List (Nat × Value)} (hp : place i = some (off, size)) (hv : v.cells = vs.toArray) (hs : vs.length = size) (hb : off + size ≤ cs.length) :
    Instr.fill place cs.toArray ((i, v) :: rest) = Instr.fill place (spl cs vs off).toArray rest := by
  subst hs
  have hc : ¬ ((v.cells.size ≠ vs.length || off + v.cells.size > cs.toArray.size) = true) := by
    rw [hv]
    simp
    omega
  rw [Instr.fill, hp]
  show (if (v.cells.size ≠ vs.length || off + v.cells.size > cs.toArray.size) = true then none else _) = _
  rw [if_neg hc, hv]
  congr 1
  rw [← Array.foldl_toList]
  have := fold_spl off vs 0 cs (by omega)
  rw [Nat.add_zero] at this
  simpa using this
theorem fill_nil {place : Nat → Option (Nat × Nat)} {cs : Array Value} : Instr.fill place cs [] = some cs := rfl

/-- What is known of a struct's type: its zero cells, and where its parts lie. -/
def Rec (T : TypeId) (zs : List Value) (pl : List (Nat × Nat)) : Prop := ∀ parts, Tryd.prog.built T parts = Instr.fill (fun i => pl.toArray[i]?) zs.toArray parts

end Go.Proofs.YtnlpgkfmjlljdaaDoor

/-
  A slice of one digest made; slices of digests of the call's own, once more; the document's path.
-/
namespace Go.Proofs.YtnlpgkfmjlljdaaDoor
open Go.RowKit
set_option linter.unusedVariables false

theorem DOwn.base {w : World} {B B' : Nat} {v : Value} {n : Nat} {xs : List Int} (h : DOwn w B v n xs) (hB : B' ≤ B) : DOwn w B' v n xs := by
  obtain ⟨h1, h2⟩ := h
  refine ⟨h1, ?_⟩
  rcases h2 with h2 | ⟨g, cap, cur, e, hg, r⟩
  · exact .inl h2
  · exact .inr ⟨g, cap, cur, e, Nat.le_trans hB hg, r⟩
theorem splD_all (xs : List Int) (h : xs.length = 32) : spl (u8s (zer 32)) (u8s xs) 0 = u8s xs := by
  unfold spl
  rw [List.drop_of_length_le (by rw [u8s_length, u8s_length, zer_length]; omega)]
  simp
theorem build_D (ds : List Int) (hd : ds.length = 32) (w : World) :
    (Instr.buildSlice 67 1 #[(0, .agg (u8s ds).toArray)]).run Tryd.prog w = .ok (.slice (some ⟨w.heap.size, 0, none⟩) 1 1) (w.alloc (.cells (u8s ds).toArray 40)) := by
  obtain ⟨i0, hi, hz0, hz1, hz2⟩ := info_parts infoD
  refine run_buildSlice w 67 40 1 _ _ i0 _ undDl hi hz0 (by rw [hz1]; decide) (by rw [hz1]; decide) ?_
  rw [hz1]
  have e0 : ((Array.range (1 * 32)).map ((Value.agg (u8s (zer 32)).toArray).cells[· % (Value.agg (u8s (zer 32)).toArray).cells.size]!)) = (u8s (zer 32)).toArray := by kernel_rfl
  rw [e0]
  show Instr.fill _ _ [(0, Value.agg (u8s ds).toArray)] = _
  rw [fill_cons (place := fun i => some (i * 32, 32)) (off := 0) (size := 32) (vs := u8s ds) rfl rfl (by rw [u8s_length, hd]) (by rw [u8s_length, zer_length]; omega), fill_nil, splD_all ds hd]
section
variable {dst : Option Tmp} {ty : TypeId} {pos : String} {aft : Array Edge} {gd : Option (Nat × Bool)} {a : Act} {w : World} {K : Act → World → Prop} {Q : Exit → Act → World → Prop}
set_option maxRecDepth 100000 in
theorem wp_oneD {x : Operand} {ds : List Int} (hx : a.eval x = .agg (u8s ds).toArray) (hd : ds.length = 32) (hb : isB ds) (h : ∀ w1 g, Ds w1 (some ⟨g, 0, none⟩) 1 1 ds → Below w.heap.size w w1 → K (a.put dst (.slice (some ⟨g, 0, none⟩) 1 1)) w1) :
    Oper.wp Tryd.prog ⟨dst, .buildSlice 67 1 #[(0, x)], ty, pos, aft, gd⟩ a w K Q := by
  have hs := (Blk.made w 40 (u8s ds)).sl0 hb (by omega)
  rw [hd] at hs
  refine wp_runV (.slice (some ⟨w.heap.size, 0, none⟩) 1 1) (w.alloc (.cells (u8s ds).toArray 40)) ?_ (h _ _ ⟨Nat.le_refl _, by omega, (fun e => by cases e), hs⟩ ((Below.refl _ _).alloc (Nat.le_refl _) _))
  unfold execOp
  simp only [List.map_toArray, List.map_cons, List.map_nil, hx]
  simp only [Sem.run_bind, build_D ds hd, Result.andThen_ok, Sem.run_pure]
end

theorem wp_appendDG {dst : Option Tmp} {s x : Operand} {ty : TypeId} {pos : String} {aft : Array Edge} {gd : Option (Nat × Bool)} {K : Act → World → Prop} {a : Act} {w : World} {Q : Exit → Act → World → Prop}
    {B : Nat} {v : Value} {n : Nat} {xs : List Int} {sa : Option Addr} {m c : Nat} {ys : List Int}
    (hs : a.eval s = v) (hx : a.eval x = .slice sa m c) (hown : DOwn w B v n xs) (hy : Ds w sa m c ys) (hlen : n + m ≤ 4398046511104) (hB : B ≤ w.heap.size)
    (h : ∀ v' w', DOwn w' B v' (n + m) (xs ++ ys) → w.grownBy w' v.ownBlock → K (a.put dst v') w') :
    Oper.wp Tryd.prog ⟨dst, .call { callee := .builtin .append, args := #[s, x], argTypes := #[67, 67] }, ty, pos, aft, gd⟩ a w K Q :=
  wp_appendD rfl hs hx hown hy hlen hB h


end Go.Proofs.YtnlpgkfmjlljdaaDoor

/-
  A tile's bytes as digests, their root, a node's digest out of them: the document's Digests, Root, Digest.
-/
namespace Go.Proofs.YtnlpgkfmjlljdaaDoor
open Go.RowKit
set_option linter.unusedVariables false

section
variable {dst : Option Tmp} {ty : TypeId} {pos : String} {aft : Array Edge} {gd : Option (Nat × Bool)} {ops : Array Oper} {rest : List Oper} {a : Act} {w : World} {Q : Exit → Act → World → Prop}
set_option maxRecDepth 100000 in
theorem step_oneDT {x : Operand} {ds : List Int} (hw : Region.wanted ⟨dst, .buildSlice 67 1 #[(0, x)], ty, pos, aft, gd⟩ (yielded ops a.tmps) = true) (hx : a.eval x = .agg (u8s ds).toArray) (hd : ds.length = 32) (hb : isB ds) (h : ∀ w1 g, Ds w1 (some ⟨g, 0, none⟩) 1 1 ds → Below w.heap.size w w1 → wpList Tryd.prog ops Q rest (a.put dst (.slice (some ⟨g, 0, none⟩) 1 1)) w1) :
    wpList Tryd.prog ops Q (⟨dst, .buildSlice 67 1 #[(0, x)], ty, pos, aft, gd⟩ :: rest) a w :=
  BigFrame.wpList_want hw fun K hK => wp_oneD hx hd hb fun w1 g h1 h2 => hK _ _ (h w1 g h1 h2)
end
theorem take32_succ (xs : List Int) (k : Nat) : xs.take (32 * k) ++ (xs.drop (32 * k)).take 32 = xs.take (32 * (k + 1)) := (takeT_more xs k).symm
set_option maxRecDepth 100000 in
set_option maxHeartbeats 2000000 in
theorem digestsR_any (a : Option Addr) (n cap len : Nat) (xs : List Int) (w : World) (hs : Sl w a len cap xs) (hl : len = 32 * n) (hn : n ≤ 256) :
    Calls Tryd.prog 34 #[.slice a len cap] w fun r w' => ∃ v, r = .returned v ∧ DOwn w' w.heap.size v n xs ∧ Below w.heap.size w w' := by
  have HS := hide hs
  have hx := hs.hlen
  have HX := hide (show xs.length = 32 * n by omega)
  have hlen : (len : Int) ≤ 8192 := by omega
  have HLN := hide hl
  have HXB := hide hs.hbyte
  clear hs hx hl
  go_enter Tryd.func34, Tryd.ntmps34
  go_wp2_with fail
  go_loopw [3, 4] (fun o k wr => ∃ j J : Nat, k = .int .i64 (J : Int) ∧ Hid (32 * j = J) ∧ j ≤ n ∧ Hid (DOwn wr w.heap.size o j (xs.take (32 * j))) ∧ Hid (Below w.heap.size w wr)) (fun _ k _ => len - (intOf k).toNat)
  case atStart => exact ⟨0, 0, rfl, hide rfl, Nat.zero_le _, hide (by simpa using DOwn.nil _ _), hide (Below.refl _ _)⟩
  case round =>
    obtain ⟨j, J, rfl, HJ, hj, HO, HB⟩ := hrel
    by_cases hc : j < n
    · have hJb : J + 32 ≤ len := by rw [← HJ.out, HLN.out]; omega
      have hJ8 : (J : Int) ≤ 8192 := by omega
      obtain ⟨J2, HJ2⟩ : ∃ x, Hid (J + 32 = x) := ⟨_, hide rfl⟩
      have hJ1 : (J : Int) + 32 = (J2 : Int) := by rw [← HJ2.out]; omega
      have hc' : (J2 : Int) ≤ (len : Int) := by rw [← HJ2.out]; omega
      have hJ3 : J < J2 := by rw [← HJ2.out]; omega
      have hJ4 : J2 ≤ len := by omega
      have HJN : Hid (32 * (j + 1) = J2) := hide (by rw [← HJ2.out, ← HJ.out]; omega)
      have HDG := hide (digAt_any a len cap xs J wr (HS.out.below HB.out) hJb)
      obtain ⟨ys, HY⟩ : ∃ ys, Hid ((xs.drop J).take 32 = ys) := ⟨_, hide rfl⟩
      rw [HY.out] at HDG
      have HYL : Hid (ys.length = 32) := hide (by rw [← HY.out, List.length_take, List.length_drop, HX.out, ← HJ.out]; omega)
      have HYB : Hid (isB ys) := hide (by rw [← HY.out]; exact (HXB.out.drop _).take _)
      have HUL : Hid ((u8s ys).length = 32) := hide (by rw [u8s_length]; exact HYL.out)
      rw [hJ1] at HDG
      have HT : Hid (xs.take (32 * j) ++ ys = xs.take (32 * (j + 1))) := hide (by rw [← HY.out, ← HJ.out]; exact take32_succ xs j)
      go_wp2_with fail
      refine (HDG.out).mono ?_
      rintro r w2 ⟨rfl, hb2⟩
      have O2 := hide (HO.out.below hb2)
      have B2 := hide (on_below HB.out hb2)
      clear hb2 HO HB HDG
      go_wp2_with (first | (refine step_alloc zD0 rfl ?_; intro w3 g3 hg3 hle3 hb3; have HG3 := hide hg3; clear hg3) | (refine step_storeA wD0 rfl rfl rfl HG3.out HUL.out (One.u8 _) rfl ?_; intro w4 hg4 hbut4; have HG4 := hide hg4; clear hg4) | (refine step_loadA wD0 rfl rfl HG4.out HUL.out ?_) | (refine step_oneDT rfl rfl HYL.out HYB.out ?_))
      intro w5 g5 hd5 hb5
      have O5 := hide ((O2.out.below (hb3.trans (hbut4.below hle3))).below hb5)
      have B5 := hide (on_below ((on_below B2.out hb3).trans (hbut4.below (Nat.le_trans B2.out.size hle3))) hb5)
      clear hb3 hle3 hbut4 hb5 HG3 HG4 O2 B2
      go_wp2_with (refine step_appendD rfl rfl rfl O5.out hd5 (by omega) B5.out.size ?_)
      intro v6 w6 ho6 hgr6
      rw [HT.out] at ho6
      have O6 := hide ho6
      have B6 := hide (B5.out.grown hgr6 B5.out.size (fun k hk => O5.out.lt k hk))
      clear ho6 hgr6 O5 B5 hd5
      obtain ⟨a6, n6, c6, rfl⟩ : ∃ a n c, v6 = Value.slice a n c := by
        rcases O6.out.2 with ⟨e1, _⟩ | ⟨_, _, _, e1, _⟩ <;> exact ⟨_, _, _, e1⟩
      go_wp2
      go_roundw
      case rel => exact ⟨j + 1, J2, rfl, HJN, hc, O6, B6⟩
      case measure => simp only [intOf]; omega
    · obtain rfl : j = n := by omega
      have HE : Hid (xs.take (32 * j) = xs) := hide (List.take_of_length_le (by rw [HX.out]; exact Nat.le_refl _))
      have hJe : J = len := by rw [← HJ.out, HLN.out]
      have hc' : ¬ (J : Int) + 32 ≤ (len : Int) := by omega
      have hJ8 : (J : Int) ≤ 8192 := by omega
      clear hJe
      go_wp2
      go_ret
      exact ⟨_, rfl, by rw [← HE.out]; exact HO.out, HB.out⟩

set_option maxRecDepth 100000 in
set_option maxHeartbeats 2000000 in
theorem rootTR_any (h l i n : Int) (len : Nat) (xs : List Int) (hx : xs.length = len) (hlen : len ≤ 140737488355328) (hxb : isB xs) : ∃ (ds : List Int) (e : Int), RtR h l i n len xs ds e ∧ ∀ (a : Option Addr) (cap : Nat) (w : World), Sl w a len cap xs →
    Calls Tryd.prog 15 #[.agg (c4 h l i n).toArray, .slice a len cap] w fun r w' => r = .returned (.tuple #[.agg (u8s ds).toArray, .int .i64 e]) ∧ Below w.heap.size w w' := by
  obtain ⟨q, hq, hv⟩ := validTR_any h l i n
  have HV := hide hv
  clear hv
  cases q with
  | false =>
    refine ⟨zer 32, 2, ⟨.inl ⟨rfl, fun hk => by simpa using hq.2 hk⟩, .inl ⟨by decide, rfl⟩⟩, fun a cap w hs => ?_⟩
    clear hs hq
    go_enter Tryd.func15, Tryd.ntmps15
    go_wp2_with (first | (refine step_box (cs := c4 h l i n) rfl rfl ?_; intro w1 g1 hg1 hle1 hb1; have HG1 := hide hg1; clear hg1) | (refine step_alloc zD rfl ?_; intro w2 g2 hg2 hle2 hb2; have HG2 := hide hg2; clear hg2; have HG3 := hide (HG1.out.on hb2)) | (refine step_loadA wT rfl rfl HG3.out rfl ?_))
    refine (HV.out _).mono ?_
    rintro r w3 ⟨rfl, hb3⟩
    have q3 := on_below (on_below hb1 hb2) hb3
    have G3 := hide (HG2.out.on hb3)
    obtain ⟨_, _, _, c3⟩ := (HG3.out.on hb3).four
    clear hb3 HG2 HG1 HG3 HV
    have l2 : w.heap.size ≤ g2 := Nat.le_trans hb1.size hle2
    clear hb1 hb2 hle1 hle2
    go_wp2_with (first | (refine step_buildD rfl ?_) | (refine step_storeA wD rfl rfl rfl G3.out rfl (One.u8 _) rfl ?_; intro w4 hg4 hbut4))
    refine bodyPost_ret (results_wide2 rfl wD _ _ rfl hg4 rfl) rfl ⟨rfl, ?_⟩
    exact q3.trans (hbut4.below l2)
  | true =>
    have hk := hq.1 rfl
    have hb := hk.n_bd
    have hw1 := hb.1
    have hw2 := hb.2
    by_cases hc : (len : Int) = n * 32
    · refine ⟨root xs, 0, ⟨.inr ⟨hk, .inr ⟨rfl, hc⟩⟩, .inr ⟨rfl, rfl⟩⟩, fun a cap w hs => ?_⟩
      obtain ⟨N, hN⟩ : ∃ N : Nat, n = (N : Int) := ⟨n.toNat, by omega⟩
      have hlN : len = 32 * N := by omega
      have HS := hide hs
      have HRL : Hid ((u8s (root xs)).length = 32) := hide (by rw [u8s_length, root_length (n := N) (by rw [hx, hlN]) hxb])
      have hmul : 32 * n = (len : Int) := by omega
      have HLN := hide hlN
      have hN2 : N ≤ 256 := by omega
      have HXB := hide hxb
      have hlb : (len : Int) ≤ 8192 := by omega
      clear hs hq hk hb hx hc hN hlN hxb
      go_enter Tryd.func15, Tryd.ntmps15
      go_wp2_with (first | (refine step_box (cs := c4 h l i n) rfl rfl ?_; intro w1 g1 hg1 hle1 hb1; have HG1 := hide hg1; clear hg1) | (refine step_alloc zD rfl ?_; intro w2 g2 hg2 hle2 hb2; have HG2 := hide hg2; clear hg2; have HG3 := hide (HG1.out.on hb2)) | (refine step_loadA wT rfl rfl HG3.out rfl ?_))
      refine (HV.out _).mono ?_
      rintro r w3 ⟨rfl, hb3⟩
      have q3 := on_below (on_below hb1 hb2) hb3
      have G3 := hide (HG2.out.on hb3)
      obtain ⟨_, _, _, c3⟩ := (HG3.out.on hb3).four
      clear hb3 HG2 HG1 HG3 HV
      have l2 : w.heap.size ≤ g2 := Nat.le_trans hb1.size hle2
      clear hb1 hb2 hle1 hle2
      go_wp2_with fail
      refine (digestsR_any a N cap len xs w3 (HS.out.below q3) HLN.out hN2).mono ?_
      rintro r w4 ⟨v4, rfl, ho4, hb4⟩
      obtain ⟨a4, c4, rfl, hd4, _⟩ := ho4.ds HXB.out (by omega)
      have HD4 := hide hd4
      have q4 := on_below q3 hb4
      have G4 := hide (G3.out.on hb4)
      clear hd4 ho4 hb4 G3 q3
      go_wp2_with fail
      refine (rootR_any N _ N _ xs w4 (Nat.le_refl _) HD4.out).mono ?_
      rintro r w5 ⟨rfl, hb5⟩
      have q5 := on_below q4 hb5
      have G5 := hide (G4.out.on hb5)
      clear hb5 q4 G4 HD4
      go_wp2_with (refine step_storeA wD rfl rfl rfl G5.out HRL.out (One.u8 _) rfl ?_)
      intro w6 hg6 hbut6
      go_wp2
      refine bodyPost_ret (results_wide2 rfl wD _ _ rfl hg6 HRL.out) rfl ⟨rfl, ?_⟩
      exact q5.trans (hbut6.below l2)
    · refine ⟨zer 32, 101, ⟨.inr ⟨hk, .inl ⟨rfl, hc⟩⟩, .inl ⟨by decide, rfl⟩⟩, fun a cap w hs => ?_⟩
      have hc2 : ((len : Int) == 32 * n) = false := by simp; omega
      have hc3 : ¬ (len : Int) = 32 * n := by omega
      clear hs hq hk hb hc
      go_enter Tryd.func15, Tryd.ntmps15
      go_wp2_with (first | (refine step_box (cs := c4 h l i n) rfl rfl ?_; intro w1 g1 hg1 hle1 hb1; have HG1 := hide hg1; clear hg1) | (refine step_alloc zD rfl ?_; intro w2 g2 hg2 hle2 hb2; have HG2 := hide hg2; clear hg2; have HG3 := hide (HG1.out.on hb2)) | (refine step_loadA wT rfl rfl HG3.out rfl ?_))
      refine (HV.out _).mono ?_
      rintro r w3 ⟨rfl, hb3⟩
      have q3 := on_below (on_below hb1 hb2) hb3
      have G3 := hide (HG2.out.on hb3)
      obtain ⟨_, _, _, c3⟩ := (HG3.out.on hb3).four
      clear hb3 HG2 HG1 HG3 HV
      have l2 : w.heap.size ≤ g2 := Nat.le_trans hb1.size hle2
      clear hb1 hb2 hle1 hle2
      go_wp2_with (first | (refine step_buildD rfl ?_) | (refine step_storeA wD rfl rfl rfl G3.out rfl (One.u8 _) rfl ?_; intro w4 hg4 hbut4))
      refine bodyPost_ret (results_wide2 rfl wD _ _ rfl hg4 rfl) rfl ⟨rfl, ?_⟩
      exact q3.trans (hbut4.below l2)

end Go.Proofs.YtnlpgkfmjlljdaaDoor

/-
  A node's digest out of its tile's bytes: the document's Digest.
-/
namespace Go.Proofs.YtnlpgkfmjlljdaaDoor
open Go.RowKit
set_option linter.unusedVariables false

set_option maxRecDepth 100000 in
set_option maxHeartbeats 2000000 in
theorem digestTR_any (h l i n : Int) (len : Nat) (xs : List Int) (hx : xs.length = len) (hlen : len ≤ 140737488355328) (hxb : isB xs) (a b : Int) : ∃ (ds : List Int) (e : Int), DgR h l i n len xs a b ds e ∧ ∀ (ad : Option Addr) (cap : Nat) (w : World), Sl w ad len cap xs →
    Calls Tryd.prog 13 #[.agg (c4 h l i n).toArray, .slice ad len cap, .agg (c2 a b).toArray] w fun r w' => r = .returned (.tuple #[.agg (u8s ds).toArray, .int .i64 e]) ∧ Below w.heap.size w w' := by
  obtain ⟨q, hq, hvv⟩ := validTR_any h l i n
  have HV := hide hvv
  clear hvv
  by_cases hh : h < 1 ∨ 8 < h
  · have hqf : q = false := by
      cases q with
      | false => rfl
      | true =>
        obtain ⟨H, L, I, N, e1, _, _, _, hH, _⟩ := hq.1 rfl
        have := hH.1; have := hH.2; omega
    subst hqf
    refine ⟨zer 32, 2, .inl ⟨rfl, rfl, fun ⟨_, H, L, I, N, e1, _, _, _, hH, _⟩ => by have := hH.1; have := hH.2; omega⟩, fun ad cap w hs => ?_⟩
    have HOF : Hid (∀ v : World, Calls Tryd.prog 32 #[.int .i64 h, .agg (c2 a b).toArray] v fun r w' => r = .returned (.tuple #[.agg (c4 0 0 0 0).toArray, .int .i64 0, .int .i64 0, .int .i64 2]) ∧ Below v.heap.size v w') := hide (fun v => ofR_no1 h a b v hh)
    clear hs hh hq
    go_enter Tryd.func13, Tryd.ntmps13
    go_wp2_with (first | (refine step_box (cs := c4 h l i n) rfl rfl ?_; intro w1 g1 hg1 hle1 hb1; have HG1 := hide hg1; clear hg1) | (refine step_box (cs := c2 a b) rfl rfl ?_; intro w2 g2 hg2 hle2 hb2; have HG2 := hide hg2; clear hg2) | (refine step_alloc zD rfl ?_; intro w3 g3 hg3 hle3 hb3; have q3 := on_below (on_below hb1 hb2) hb3; have BB := hide ((((Bs.nil w3).push hg3).push (HG2.out.on hb3)).push ((HG1.out.on hb2).on hb3)); have l3 : w.heap.size ≤ g3 := Nat.le_trans (on_below hb1 hb2).size hle3; clear hg3 hb1 hb2 hb3 hle1 hle2 hle3 HG1 HG2; have c0 := (BB.out.at 0 rfl).four.1) | (refine step_loadA wN rfl rfl (BB.out.at 1 rfl) rfl ?_))
    refine (HOF.out _).mono ?_
    rintro r w4 ⟨rfl, hb4⟩
    have q4 := on_below q3 hb4
    have B4 := hide (BB.out.on hb4)
    clear hb4 q3 BB c0 HOF
    go_wp2_with (first | (refine step_alloc zT rfl ?_; intro w5 g5 hg5 hle5 hb5; have HG5 := hide hg5; clear hg5) | (refine step_storeA wT rfl rfl rfl HG5.out rfl (One.c4 0 0 0 0) rfl ?_))
    intro w6 hg6 hbut6
    have q6 := new_below q4 hb5 hle5 hbut6
    have B6 := hide (B4.out.new hb5 hle5 hg6 hbut6)
    clear hb5 hle5 hbut6 q4 B4 hg6 HG5
    go_wp2_with (refine step_loadA wT rfl rfl (B6.out.at 1 rfl) rfl ?_)
    refine (HV.out _).mono ?_
    rintro r w7 ⟨rfl, hb7⟩
    have q7 := on_below q6 hb7
    have B7 := hide (B6.out.on hb7)
    clear hb7 q6 B6 HV
    obtain ⟨t0, t1, t2, t3⟩ := (B7.out.at 0 rfl).four
    obtain ⟨u0, u1, u2, u3⟩ := (B7.out.at 1 rfl).four
    go_wp2_with (first | (refine step_buildD rfl ?_) | (refine step_storeA wD rfl rfl rfl (B7.out.at 3 rfl) rfl (One.u8 _) rfl ?_; intro w8 hg8 hbut8))
    refine bodyPost_ret (results_wide2 rfl wD _ _ rfl hg8 rfl) rfl ⟨rfl, ?_⟩
    exact q7.trans (hbut8.below l3)
  · obtain ⟨H, rfl⟩ : ∃ H : Nat, h = (H : Int) := ⟨h.toNat, by omega⟩
    have hH : isH H := ⟨by omega, by omega⟩
    by_cases hv : V a b
    · obtain ⟨L, I, rfl, rfl, hL, h1⟩ := hv.nats
      have HOF : Hid (∀ v : World, Calls Tryd.prog 32 #[.int .i64 (H : Int), .agg (c2 (L : Int) (I : Int)).toArray] v fun r w' => r = .returned (.tuple #[.agg (c4 (H : Int) (L / H : Nat) (oX H L I : Nat) (oT H L I : Nat)).toArray, .int .i64 (oF H L I : Nat), .int .i64 (oT H L I : Nat), .int .i64 0]) ∧ Below v.heap.size v w') := hide (fun v => ofR_ok H L I v hH hL h1)
      have hinT : inT (H : Int) l i n (L : Int) (I : Int) ↔ (((L / H : Nat) : Int) = l ∧ ((oX H L I : Nat) : Int) = i ∧ ((oT H L I : Nat) : Int) ≤ n) := by unfold inT; simp only [Int.toNat_natCast]
      have HOV : Hid (ovr (H : Int) (L : Int) (I : Int) xs = (xs.drop (32 * oF H L I)).take (32 * (oT H L I - oF H L I))) := hide (by unfold ovr; simp only [Int.toNat_natCast])
      have hFT := oF_lt H L I
      cases q with
      | false =>
        refine ⟨zer 32, 2, .inl ⟨rfl, rfl, fun ⟨_, hk⟩ => by simpa using hq.2 hk⟩, fun ad cap w hs => ?_⟩
        clear hs hh hq hinT HOV hFT hv h1 hL
        generalize ((oF H L I : Nat) : Int) = F at *
        generalize ((oT H L I : Nat) : Int) = D at *
        generalize ((oX H L I : Nat) : Int) = C at *
        generalize ((L / H : Nat) : Int) = A at *
        clear hH
        generalize (H : Int) = h at *
        generalize (L : Int) = a at *
        generalize (I : Int) = b at *
        go_enter Tryd.func13, Tryd.ntmps13
        go_wp2_with (first | (refine step_box (cs := c4 h l i n) rfl rfl ?_; intro w1 g1 hg1 hle1 hb1; have HG1 := hide hg1; clear hg1) | (refine step_box (cs := c2 a b) rfl rfl ?_; intro w2 g2 hg2 hle2 hb2; have HG2 := hide hg2; clear hg2) | (refine step_alloc zD rfl ?_; intro w3 g3 hg3 hle3 hb3; have q3 := on_below (on_below hb1 hb2) hb3; have BB := hide ((((Bs.nil w3).push hg3).push (HG2.out.on hb3)).push ((HG1.out.on hb2).on hb3)); have l3 : w.heap.size ≤ g3 := Nat.le_trans (on_below hb1 hb2).size hle3; clear hg3 hb1 hb2 hb3 hle1 hle2 hle3 HG1 HG2; have c0 := (BB.out.at 0 rfl).four.1) | (refine step_loadA wN rfl rfl (BB.out.at 1 rfl) rfl ?_))
        refine (HOF.out _).mono ?_
        rintro r w4 ⟨rfl, hb4⟩
        have q4 := on_below q3 hb4
        have B4 := hide (BB.out.on hb4)
        clear hb4 q3 BB c0 HOF
        go_wp2_with (first | (refine step_alloc zT rfl ?_; intro w5 g5 hg5 hle5 hb5; have HG5 := hide hg5; clear hg5) | (refine step_storeA wT rfl rfl rfl HG5.out rfl (One.c4 h A C D) rfl ?_))
        intro w6 hg6 hbut6
        have q6 := new_below q4 hb5 hle5 hbut6
        have B6 := hide (B4.out.new hb5 hle5 hg6 hbut6)
        clear hb5 hle5 hbut6 q4 B4 hg6 HG5
        go_wp2_with (refine step_loadA wT rfl rfl (B6.out.at 1 rfl) rfl ?_)
        refine (HV.out _).mono ?_
        rintro r w7 ⟨rfl, hb7⟩
        have q7 := on_below q6 hb7
        have B7 := hide (B6.out.on hb7)
        clear hb7 q6 B6 HV
        obtain ⟨t0, t1, t2, t3⟩ := (B7.out.at 0 rfl).four
        obtain ⟨u0, u1, u2, u3⟩ := (B7.out.at 1 rfl).four
        go_wp2_with (first | (refine step_buildD rfl ?_) | (refine step_storeA wD rfl rfl rfl (B7.out.at 3 rfl) rfl (One.u8 _) rfl ?_; intro w8 hg8 hbut8))
        refine bodyPost_ret (results_wide2 rfl wD _ _ rfl hg8 rfl) rfl ⟨rfl, ?_⟩
        exact q7.trans (hbut8.below l3)
      | true =>
        have hk := hq.1 rfl
        have hnb := hk.n_bd
        by_cases hc : (len : Int) = n * 32
        · have hc2 : ((len : Int) == 32 * n) = true := by simp; omega
          have hc3 : 32 * n = (len : Int) := by omega
          have hlb : (len : Int) ≤ 8192 := by omega
          by_cases hin : inT (H : Int) l i n (L : Int) (I : Int)
          · refine ⟨root (ovr (H : Int) (L : Int) (I : Int) xs), 0, .inr ⟨hv, hk, .inr ⟨hc, .inr ⟨rfl, hin, rfl⟩⟩⟩, fun ad cap w hs => ?_⟩
            obtain ⟨z1, z2, z3⟩ := hinT.1 hin
            obtain ⟨N, rfl⟩ : ∃ N : Nat, n = (N : Int) := ⟨n.toNat, by omega⟩
            have hlN : len = 32 * N := by omega
            have HS := hide hs
            have hTN : oT H L I ≤ N := by omega
            have hRL := root_length (ovr_len (h := (H : Int)) (a := (L : Int)) (b := (I : Int)) (xs := xs) (n := N) (by omega) (by simpa using hTN)) ((hxb.drop _).take _)
            have HRL : Hid ((u8s (root (ovr (H : Int) (L : Int) (I : Int) xs))).length = 32) := hide (by rw [u8s_length, hRL])
            rw [HOV.out] at HRL ⊢
            have HL32 := hide hlN
            have HXB := hide hxb
            have hN2 : N ≤ 256 := by omega
            clear hin hinT hk HOV hRL hh hv hs hnb h1 hL hlN hx hxb hq hc hc2
            generalize oF H L I = F at *
            generalize oT H L I = T at *
            generalize ((oX H L I : Nat) : Int) = C at *
            generalize ((L / H : Nat) : Int) = A at *
            clear hH
            generalize (H : Int) = h at *
            generalize (L : Int) = a at *
            generalize (I : Int) = b at *
            subst z1 z2
            have z3' : ¬ (T : Int) > (N : Int) := by omega
            have z4 : (T : Int) ≤ 256 := by omega
            go_enter Tryd.func13, Tryd.ntmps13
            go_wp2_with (first | (refine step_box (cs := c4 h A C (N : Int)) rfl rfl ?_; intro w1 g1 hg1 hle1 hb1; have HG1 := hide hg1; clear hg1) | (refine step_box (cs := c2 a b) rfl rfl ?_; intro w2 g2 hg2 hle2 hb2; have HG2 := hide hg2; clear hg2) | (refine step_alloc zD rfl ?_; intro w3 g3 hg3 hle3 hb3; have q3 := on_below (on_below hb1 hb2) hb3; have BB := hide ((((Bs.nil w3).push hg3).push (HG2.out.on hb3)).push ((HG1.out.on hb2).on hb3)); have l3 : w.heap.size ≤ g3 := Nat.le_trans (on_below hb1 hb2).size hle3; clear hg3 hb1 hb2 hb3 hle1 hle2 hle3 HG1 HG2; have c0 := (BB.out.at 0 rfl).four.1) | (refine step_loadA wN rfl rfl (BB.out.at 1 rfl) rfl ?_))
            refine (HOF.out _).mono ?_
            rintro r w4 ⟨rfl, hb4⟩
            have q4 := on_below q3 hb4
            have B4 := hide (BB.out.on hb4)
            clear hb4 q3 BB c0 HOF
            go_wp2_with (first | (refine step_alloc zT rfl ?_; intro w5 g5 hg5 hle5 hb5; have HG5 := hide hg5; clear hg5) | (refine step_storeA wT rfl rfl rfl HG5.out rfl (One.c4 h A C (T : Int)) rfl ?_))
            intro w6 hg6 hbut6
            have q6 := new_below q4 hb5 hle5 hbut6
            have B6 := hide (B4.out.new hb5 hle5 hg6 hbut6)
            clear hb5 hle5 hbut6 q4 B4 hg6 HG5
            go_wp2_with (refine step_loadA wT rfl rfl (B6.out.at 1 rfl) rfl ?_)
            refine (HV.out _).mono ?_
            rintro r w7 ⟨rfl, hb7⟩
            have q7 := on_below q6 hb7
            have B7 := hide (B6.out.on hb7)
            clear hb7 q6 B6 HV
            obtain ⟨t0, t1, t2, t3⟩ := (B7.out.at 0 rfl).four
            obtain ⟨u0, u1, u2, u3⟩ := (B7.out.at 1 rfl).four
            go_wp2_with fail
            refine (digestsR_any ad N cap len xs w7 (HS.out.below q7) HL32.out hN2).mono ?_
            rintro r w8 ⟨v8, rfl, ho8, hb8⟩
            obtain ⟨a8, k8, rfl, hd8, _⟩ := ho8.ds HXB.out (by omega)
            have q8 := on_below q7 hb8
            have B8 := hide (B7.out.on hb8)
            obtain ⟨bb, o, rfl⟩ := hd8.place (by omega)
            have hcp := hd8.hcap
            have HD8 := hide (hd8.mid F T (by omega) (by omega))
            have xs1 := fun v => d_mid bb o N k8 F T (F : Int) (T : Int) rfl rfl hFT (by omega) v
            clear hd8 ho8 hb8 q7 B7 t0 t1 t2 t3 u0 u1 u2 u3
            go_wp2_with fail
            refine (rootR_any (T - F) _ _ _ (sub xs F T) w8 (Nat.le_refl _) HD8.out).mono ?_
            rintro r w9 ⟨rfl, hb9⟩
            have q9 := on_below q8 hb9
            have B9 := hide (B8.out.on hb9)
            clear hb9 q8 B8 HD8 xs1
            go_wp2_with (refine step_storeA wD rfl rfl rfl (B9.out.at 3 rfl) HRL.out (One.u8 _) rfl ?_)
            intro wb hgb hbutb
            go_wp2
            refine bodyPost_ret (results_wide2 rfl wD _ _ rfl hgb HRL.out) rfl ⟨rfl, ?_⟩
            exact q9.trans (hbutb.below l3)
          · refine ⟨zer 32, 40, .inr ⟨hv, hk, .inr ⟨hc, .inl ⟨rfl, rfl, hin⟩⟩⟩, fun ad cap w hs => ?_⟩
            have hno : ¬ (((L / H : Nat) : Int) = l ∧ ((oX H L I : Nat) : Int) = i ∧ ((oT H L I : Nat) : Int) ≤ n) := fun q => hin (hinT.2 q)
            clear hin hinT hk HOV hh hv hs h1 hL hx hxb hFT hq hc
            generalize ((oF H L I : Nat) : Int) = F at *
            generalize ((oT H L I : Nat) : Int) = D at *
            generalize ((oX H L I : Nat) : Int) = C at *
            generalize ((L / H : Nat) : Int) = A at *
            clear hH hnb
            generalize (H : Int) = h at *
            generalize (L : Int) = a at *
            generalize (I : Int) = b at *
            by_cases z1 : A = l
            · subst z1
              by_cases z2 : C = i
              · subst z2
                have z3 : D > n := by omega
                clear hno
                go_enter Tryd.func13, Tryd.ntmps13
                go_wp2_with (first | (refine step_box (cs := c4 h A C n) rfl rfl ?_; intro w1 g1 hg1 hle1 hb1; have HG1 := hide hg1; clear hg1) | (refine step_box (cs := c2 a b) rfl rfl ?_; intro w2 g2 hg2 hle2 hb2; have HG2 := hide hg2; clear hg2) | (refine step_alloc zD rfl ?_; intro w3 g3 hg3 hle3 hb3; have q3 := on_below (on_below hb1 hb2) hb3; have BB := hide ((((Bs.nil w3).push hg3).push (HG2.out.on hb3)).push ((HG1.out.on hb2).on hb3)); have l3 : w.heap.size ≤ g3 := Nat.le_trans (on_below hb1 hb2).size hle3; clear hg3 hb1 hb2 hb3 hle1 hle2 hle3 HG1 HG2; have c0 := (BB.out.at 0 rfl).four.1) | (refine step_loadA wN rfl rfl (BB.out.at 1 rfl) rfl ?_))
                refine (HOF.out _).mono ?_
                rintro r w4 ⟨rfl, hb4⟩
                have q4 := on_below q3 hb4
                have B4 := hide (BB.out.on hb4)
                clear hb4 q3 BB c0 HOF
                go_wp2_with (first | (refine step_alloc zT rfl ?_; intro w5 g5 hg5 hle5 hb5; have HG5 := hide hg5; clear hg5) | (refine step_storeA wT rfl rfl rfl HG5.out rfl (One.c4 h A C D) rfl ?_))
                intro w6 hg6 hbut6
                have q6 := new_below q4 hb5 hle5 hbut6
                have B6 := hide (B4.out.new hb5 hle5 hg6 hbut6)
                clear hb5 hle5 hbut6 q4 B4 hg6 HG5
                go_wp2_with (refine step_loadA wT rfl rfl (B6.out.at 1 rfl) rfl ?_)
                refine (HV.out _).mono ?_
                rintro r w7 ⟨rfl, hb7⟩
                have q7 := on_below q6 hb7
                have B7 := hide (B6.out.on hb7)
                clear hb7 q6 B6 HV
                obtain ⟨t0, t1, t2, t3⟩ := (B7.out.at 0 rfl).four
                obtain ⟨u0, u1, u2, u3⟩ := (B7.out.at 1 rfl).four
                go_wp2_with (first | (refine step_buildD rfl ?_) | (refine step_storeA wD rfl rfl rfl (B7.out.at 3 rfl) rfl (One.u8 _) rfl ?_; intro w8 hg8 hbut8))
                refine bodyPost_ret (results_wide2 rfl wD _ _ rfl hg8 rfl) rfl ⟨rfl, ?_⟩
                exact q7.trans (hbut8.below l3)
              · have z2b : (C == i) = false := by simp [z2]
                clear hno
                go_enter Tryd.func13, Tryd.ntmps13
                go_wp2_with (first | (refine step_box (cs := c4 h A i n) rfl rfl ?_; intro w1 g1 hg1 hle1 hb1; have HG1 := hide hg1; clear hg1) | (refine step_box (cs := c2 a b) rfl rfl ?_; intro w2 g2 hg2 hle2 hb2; have HG2 := hide hg2; clear hg2) | (refine step_alloc zD rfl ?_; intro w3 g3 hg3 hle3 hb3; have q3 := on_below (on_below hb1 hb2) hb3; have BB := hide ((((Bs.nil w3).push hg3).push (HG2.out.on hb3)).push ((HG1.out.on hb2).on hb3)); have l3 : w.heap.size ≤ g3 := Nat.le_trans (on_below hb1 hb2).size hle3; clear hg3 hb1 hb2 hb3 hle1 hle2 hle3 HG1 HG2; have c0 := (BB.out.at 0 rfl).four.1) | (refine step_loadA wN rfl rfl (BB.out.at 1 rfl) rfl ?_))
                refine (HOF.out _).mono ?_
                rintro r w4 ⟨rfl, hb4⟩
                have q4 := on_below q3 hb4
                have B4 := hide (BB.out.on hb4)
                clear hb4 q3 BB c0 HOF
                go_wp2_with (first | (refine step_alloc zT rfl ?_; intro w5 g5 hg5 hle5 hb5; have HG5 := hide hg5; clear hg5) | (refine step_storeA wT rfl rfl rfl HG5.out rfl (One.c4 h A C D) rfl ?_))
                intro w6 hg6 hbut6
                have q6 := new_below q4 hb5 hle5 hbut6
                have B6 := hide (B4.out.new hb5 hle5 hg6 hbut6)
                clear hb5 hle5 hbut6 q4 B4 hg6 HG5
                go_wp2_with (refine step_loadA wT rfl rfl (B6.out.at 1 rfl) rfl ?_)
                refine (HV.out _).mono ?_
                rintro r w7 ⟨rfl, hb7⟩
                have q7 := on_below q6 hb7
                have B7 := hide (B6.out.on hb7)
                clear hb7 q6 B6 HV
                obtain ⟨t0, t1, t2, t3⟩ := (B7.out.at 0 rfl).four
                obtain ⟨u0, u1, u2, u3⟩ := (B7.out.at 1 rfl).four
                go_wp2_with (first | (refine step_buildD rfl ?_) | (refine step_storeA wD rfl rfl rfl (B7.out.at 3 rfl) rfl (One.u8 _) rfl ?_; intro w8 hg8 hbut8))
                refine bodyPost_ret (results_wide2 rfl wD _ _ rfl hg8 rfl) rfl ⟨rfl, ?_⟩
                exact q7.trans (hbut8.below l3)
            · have z1b : (A == l) = false := by simp [z1]
              clear hno
              go_enter Tryd.func13, Tryd.ntmps13
              go_wp2_with (first | (refine step_box (cs := c4 h l i n) rfl rfl ?_; intro w1 g1 hg1 hle1 hb1; have HG1 := hide hg1; clear hg1) | (refine step_box (cs := c2 a b) rfl rfl ?_; intro w2 g2 hg2 hle2 hb2; have HG2 := hide hg2; clear hg2) | (refine step_alloc zD rfl ?_; intro w3 g3 hg3 hle3 hb3; have q3 := on_below (on_below hb1 hb2) hb3; have BB := hide ((((Bs.nil w3).push hg3).push (HG2.out.on hb3)).push ((HG1.out.on hb2).on hb3)); have l3 : w.heap.size ≤ g3 := Nat.le_trans (on_below hb1 hb2).size hle3; clear hg3 hb1 hb2 hb3 hle1 hle2 hle3 HG1 HG2; have c0 := (BB.out.at 0 rfl).four.1) | (refine step_loadA wN rfl rfl (BB.out.at 1 rfl) rfl ?_))
              refine (HOF.out _).mono ?_
              rintro r w4 ⟨rfl, hb4⟩
              have q4 := on_below q3 hb4
              have B4 := hide (BB.out.on hb4)
              clear hb4 q3 BB c0 HOF
              go_wp2_with (first | (refine step_alloc zT rfl ?_; intro w5 g5 hg5 hle5 hb5; have HG5 := hide hg5; clear hg5) | (refine step_storeA wT rfl rfl rfl HG5.out rfl (One.c4 h A C D) rfl ?_))
              intro w6 hg6 hbut6
              have q6 := new_below q4 hb5 hle5 hbut6
              have B6 := hide (B4.out.new hb5 hle5 hg6 hbut6)
              clear hb5 hle5 hbut6 q4 B4 hg6 HG5
              go_wp2_with (refine step_loadA wT rfl rfl (B6.out.at 1 rfl) rfl ?_)
              refine (HV.out _).mono ?_
              rintro r w7 ⟨rfl, hb7⟩
              have q7 := on_below q6 hb7
              have B7 := hide (B6.out.on hb7)
              clear hb7 q6 B6 HV
              obtain ⟨t0, t1, t2, t3⟩ := (B7.out.at 0 rfl).four
              obtain ⟨u0, u1, u2, u3⟩ := (B7.out.at 1 rfl).four
              go_wp2_with (first | (refine step_buildD rfl ?_) | (refine step_storeA wD rfl rfl rfl (B7.out.at 3 rfl) rfl (One.u8 _) rfl ?_; intro w8 hg8 hbut8))
              refine bodyPost_ret (results_wide2 rfl wD _ _ rfl hg8 rfl) rfl ⟨rfl, ?_⟩
              exact q7.trans (hbut8.below l3)
        · refine ⟨zer 32, 101, .inr ⟨hv, hk, .inl ⟨rfl, rfl, hc⟩⟩, fun ad cap w hs => ?_⟩
          have hc2 : ((len : Int) == 32 * n) = false := by simp; omega
          have hc3 : ¬ (len : Int) = 32 * n := by omega
          have hn1 := hnb.1
          have hn2 := hnb.2
          clear hs hh hq hinT HOV hFT hv h1 hL hc hk hnb
          generalize ((oF H L I : Nat) : Int) = F at *
          generalize ((oT H L I : Nat) : Int) = D at *
          generalize ((oX H L I : Nat) : Int) = C at *
          generalize ((L / H : Nat) : Int) = A at *
          clear hH
          generalize (H : Int) = h at *
          generalize (L : Int) = a at *
          generalize (I : Int) = b at *
          go_enter Tryd.func13, Tryd.ntmps13
          go_wp2_with (first | (refine step_box (cs := c4 h l i n) rfl rfl ?_; intro w1 g1 hg1 hle1 hb1; have HG1 := hide hg1; clear hg1) | (refine step_box (cs := c2 a b) rfl rfl ?_; intro w2 g2 hg2 hle2 hb2; have HG2 := hide hg2; clear hg2) | (refine step_alloc zD rfl ?_; intro w3 g3 hg3 hle3 hb3; have q3 := on_below (on_below hb1 hb2) hb3; have BB := hide ((((Bs.nil w3).push hg3).push (HG2.out.on hb3)).push ((HG1.out.on hb2).on hb3)); have l3 : w.heap.size ≤ g3 := Nat.le_trans (on_below hb1 hb2).size hle3; clear hg3 hb1 hb2 hb3 hle1 hle2 hle3 HG1 HG2; have c0 := (BB.out.at 0 rfl).four.1) | (refine step_loadA wN rfl rfl (BB.out.at 1 rfl) rfl ?_))
          refine (HOF.out _).mono ?_
          rintro r w4 ⟨rfl, hb4⟩
          have q4 := on_below q3 hb4
          have B4 := hide (BB.out.on hb4)
          clear hb4 q3 BB c0 HOF
          go_wp2_with (first | (refine step_alloc zT rfl ?_; intro w5 g5 hg5 hle5 hb5; have HG5 := hide hg5; clear hg5) | (refine step_storeA wT rfl rfl rfl HG5.out rfl (One.c4 h A C D) rfl ?_))
          intro w6 hg6 hbut6
          have q6 := new_below q4 hb5 hle5 hbut6
          have B6 := hide (B4.out.new hb5 hle5 hg6 hbut6)
          clear hb5 hle5 hbut6 q4 B4 hg6 HG5
          go_wp2_with (refine step_loadA wT rfl rfl (B6.out.at 1 rfl) rfl ?_)
          refine (HV.out _).mono ?_
          rintro r w7 ⟨rfl, hb7⟩
          have q7 := on_below q6 hb7
          have B7 := hide (B6.out.on hb7)
          clear hb7 q6 B6 HV
          obtain ⟨t0, t1, t2, t3⟩ := (B7.out.at 0 rfl).four
          obtain ⟨u0, u1, u2, u3⟩ := (B7.out.at 1 rfl).four
          go_wp2_with (first | (refine step_buildD rfl ?_) | (refine step_storeA wD rfl rfl rfl (B7.out.at 3 rfl) rfl (One.u8 _) rfl ?_; intro w8 hg8 hbut8))
          refine bodyPost_ret (results_wide2 rfl wD _ _ rfl hg8 rfl) rfl ⟨rfl, ?_⟩
          exact q7.trans (hbut8.below l3)
    · refine ⟨zer 32, 2, .inl ⟨rfl, rfl, fun ⟨h, _⟩ => hv h⟩, fun ad cap w hs => ?_⟩
      have HOF : Hid (∀ v : World, Calls Tryd.prog 32 #[.int .i64 (H : Int), .agg (c2 a b).toArray] v fun r w' => r = .returned (.tuple #[.agg (c4 0 0 0 0).toArray, .int .i64 0, .int .i64 0, .int .i64 2]) ∧ Below v.heap.size v w') := hide (fun v => ofR_no2 H a b v hH hv)
      clear hs hh hv hq
      generalize (H : Int) = h at *
      cases q with
      | false =>
        go_enter Tryd.func13, Tryd.ntmps13
        go_wp2_with (first | (refine step_box (cs := c4 h l i n) rfl rfl ?_; intro w1 g1 hg1 hle1 hb1; have HG1 := hide hg1; clear hg1) | (refine step_box (cs := c2 a b) rfl rfl ?_; intro w2 g2 hg2 hle2 hb2; have HG2 := hide hg2; clear hg2) | (refine step_alloc zD rfl ?_; intro w3 g3 hg3 hle3 hb3; have q3 := on_below (on_below hb1 hb2) hb3; have BB := hide ((((Bs.nil w3).push hg3).push (HG2.out.on hb3)).push ((HG1.out.on hb2).on hb3)); have l3 : w.heap.size ≤ g3 := Nat.le_trans (on_below hb1 hb2).size hle3; clear hg3 hb1 hb2 hb3 hle1 hle2 hle3 HG1 HG2; have c0 := (BB.out.at 0 rfl).four.1) | (refine step_loadA wN rfl rfl (BB.out.at 1 rfl) rfl ?_))
        refine (HOF.out _).mono ?_
        rintro r w4 ⟨rfl, hb4⟩
        have q4 := on_below q3 hb4
        have B4 := hide (BB.out.on hb4)
        clear hb4 q3 BB c0 HOF
        go_wp2_with (first | (refine step_alloc zT rfl ?_; intro w5 g5 hg5 hle5 hb5; have HG5 := hide hg5; clear hg5) | (refine step_storeA wT rfl rfl rfl HG5.out rfl (One.c4 0 0 0 0) rfl ?_))
        intro w6 hg6 hbut6
        have q6 := new_below q4 hb5 hle5 hbut6
        have B6 := hide (B4.out.new hb5 hle5 hg6 hbut6)
        clear hb5 hle5 hbut6 q4 B4 hg6 HG5
        go_wp2_with (refine step_loadA wT rfl rfl (B6.out.at 1 rfl) rfl ?_)
        refine (HV.out _).mono ?_
        rintro r w7 ⟨rfl, hb7⟩
        have q7 := on_below q6 hb7
        have B7 := hide (B6.out.on hb7)
        clear hb7 q6 B6 HV
        obtain ⟨t0, t1, t2, t3⟩ := (B7.out.at 0 rfl).four
        obtain ⟨u0, u1, u2, u3⟩ := (B7.out.at 1 rfl).four
        go_wp2_with (first | (refine step_buildD rfl ?_) | (refine step_storeA wD rfl rfl rfl (B7.out.at 3 rfl) rfl (One.u8 _) rfl ?_; intro w8 hg8 hbut8))
        refine bodyPost_ret (results_wide2 rfl wD _ _ rfl hg8 rfl) rfl ⟨rfl, ?_⟩
        exact q7.trans (hbut8.below l3)
      | true =>
        go_enter Tryd.func13, Tryd.ntmps13
        go_wp2_with (first | (refine step_box (cs := c4 h l i n) rfl rfl ?_; intro w1 g1 hg1 hle1 hb1; have HG1 := hide hg1; clear hg1) | (refine step_box (cs := c2 a b) rfl rfl ?_; intro w2 g2 hg2 hle2 hb2; have HG2 := hide hg2; clear hg2) | (refine step_alloc zD rfl ?_; intro w3 g3 hg3 hle3 hb3; have q3 := on_below (on_below hb1 hb2) hb3; have BB := hide ((((Bs.nil w3).push hg3).push (HG2.out.on hb3)).push ((HG1.out.on hb2).on hb3)); have l3 : w.heap.size ≤ g3 := Nat.le_trans (on_below hb1 hb2).size hle3; clear hg3 hb1 hb2 hb3 hle1 hle2 hle3 HG1 HG2; have c0 := (BB.out.at 0 rfl).four.1) | (refine step_loadA wN rfl rfl (BB.out.at 1 rfl) rfl ?_))
        refine (HOF.out _).mono ?_
        rintro r w4 ⟨rfl, hb4⟩
        have q4 := on_below q3 hb4
        have B4 := hide (BB.out.on hb4)
        clear hb4 q3 BB c0 HOF
        go_wp2_with (first | (refine step_alloc zT rfl ?_; intro w5 g5 hg5 hle5 hb5; have HG5 := hide hg5; clear hg5) | (refine step_storeA wT rfl rfl rfl HG5.out rfl (One.c4 0 0 0 0) rfl ?_))
        intro w6 hg6 hbut6
        have q6 := new_below q4 hb5 hle5 hbut6
        have B6 := hide (B4.out.new hb5 hle5 hg6 hbut6)
        clear hb5 hle5 hbut6 q4 B4 hg6 HG5
        go_wp2_with (refine step_loadA wT rfl rfl (B6.out.at 1 rfl) rfl ?_)
        refine (HV.out _).mono ?_
        rintro r w7 ⟨rfl, hb7⟩
        have q7 := on_below q6 hb7
        have B7 := hide (B6.out.on hb7)
        clear hb7 q6 B6 HV
        obtain ⟨t0, t1, t2, t3⟩ := (B7.out.at 0 rfl).four
        obtain ⟨u0, u1, u2, u3⟩ := (B7.out.at 1 rfl).four
        go_wp2_with (first | (refine step_buildD rfl ?_) | (refine step_storeA wD rfl rfl rfl (B7.out.at 3 rfl) rfl (One.u8 _) rfl ?_; intro w8 hg8 hbut8))
        refine bodyPost_ret (results_wide2 rfl wD _ _ rfl hg8 rfl) rfl ⟨rfl, ?_⟩
        exact q7.trans (hbut8.below l3)

end Go.Proofs.YtnlpgkfmjlljdaaDoor

/-
  The walk of TileDigests.
-/
namespace Go.Proofs.YtnlpgkfmjlljdaaDoor
open Go.RowKit
set_option linter.unusedVariables false
set_option linter.unusedSimpArgs false

theorem names10D_any (w : World) : Calls Tryd.prog 11 #[] w fun e w' => e = .returned (.bool true) ∧ w' = w := by
  go_enter Tryd.func11, Tryd.ntmps11
  go_wp2
  go_ret
  exact ⟨rfl, rfl⟩
theorem str_90T (xs : List Int) : str xs ++ { data := #[90] } = str (xs ++ [90]) := (str_append xs [90])
theorem joinG {T : Program} {c : Code} {a : Act} {w : World} {Q : Exit → Act → World → Prop} {K : Act → World → Prop} (P : Nat → World → Prop) (act : Nat → Act) (h1 : ∀ g W, P g W → K (act g) W) (h2 : (∀ g W, P g W → K (act g) W) → Code.wp T c (Exit.then K Q) a w) : Code.wp T c (Exit.then K Q) a w := h2 h1
section
variable {dst : Option Tmp} {ty : TypeId} {pos : String} {aft : Array Edge} {gd : Option (Nat × Bool)} {a : Act} {w : World} {K : Act → World → Prop} {Q : Exit → Act → World → Prop}
theorem wp_storeGT {T : TypeId} {n : Nat} (hT : Wide T n) {x y : Operand} {g : Nat} {t : TypeId} {cs vs : List Value} (hx : a.eval x = .pointer (some ⟨g, 0, none⟩)) (hy : a.eval y = .agg vs.toArray) (hg : Blk w g t cs) (hn : vs.length = n) (h1 : One vs) (hl : cs.length = n)
    (h : ∀ w1, Blk w1 g t vs → But g w w1 → K (a.put dst undef) w1) : Oper.wp Tryd.prog ⟨dst, .store T x y, ty, pos, aft, gd⟩ a w K Q :=
  wp_storeW hT rfl hx hy hg hn h1 (by omega) fun w1 hb hbut => h w1 (by
    have e : spl cs vs 0 = vs := by
      unfold spl
      rw [List.drop_of_length_le (by omega)]
      simp
    rwa [e] at hb) hbut
end
set_option maxRecDepth 100000 in
set_option maxHeartbeats 4000000 in
theorem tileDigests_walk (h l i n : Int) (a : Option Addr) (len cap : Nat) (xs : List Int) (na nb : Int) (w : World) (hl : l ≤ 9223372036854775807) (hi : i ≤ 9223372036854775807) (hs : Sl w a len cap xs) (hcp : cap ≤ 140737488351232) (hk : KT w) :
    Calls Tryd.prog 4 #[.agg #[.int .i64 h, .int .i64 l, .int .i64 i, .int .i64 n], .slice a len cap, .agg #[.int .i64 na, .int .i64 nb]] w fun e w' => e = .returned (.bool true) ∧ Below w.heap.size w w' := by
  have hcap := hs.hcap
  obtain ⟨ds, e, d1, k1⟩ := digestT_any h l i n hl hi len xs hs.hlen hs.hreach hs.hbyte na nb
  obtain ⟨ds', e', d2, k2⟩ := digestTR_any h l i n len xs hs.hlen hs.hreach hs.hbyte na nb
  obtain ⟨rfl, rfl⟩ := d1.uniq d2
  obtain ⟨rs, f, r1, k3⟩ := rootT_any h l i n hl hi len xs hs.hlen hs.hreach hs.hbyte
  obtain ⟨rs', f', r2, k4⟩ := rootTR_any h l i n len xs hs.hlen hs.hreach hs.hbyte
  obtain ⟨rfl, rfl⟩ : rs = rs' ∧ f = f' := by
    obtain ⟨c1, c2⟩ := r1
    obtain ⟨c3, c4⟩ := r2
    have hf : f = f' := by
      rcases c1 with ⟨rfl, z1⟩ | ⟨z1, ⟨rfl, z2⟩ | ⟨rfl, z2⟩⟩ <;> rcases c3 with ⟨rfl, y1⟩ | ⟨y1, ⟨rfl, y2⟩ | ⟨rfl, y2⟩⟩
      all_goals first | rfl | exact absurd y1 z1 | exact absurd z1 y1 | exact absurd y2 z2 | exact absurd z2 y2
    subst hf
    refine ⟨?_, rfl⟩
    rcases c2 with ⟨z1, rfl⟩ | ⟨z1, rfl⟩ <;> rcases c4 with ⟨y1, rfl⟩ | ⟨y1, rfl⟩
    · rfl
    · exact absurd y1 z1
    · exact absurd z1 y1
    · rfl
  have HDL : Hid (ds.length = 32) := hide (by
    rcases d1 with ⟨_, rfl, _⟩ | ⟨hv, hk, ⟨_, rfl, _⟩ | ⟨hc, ⟨_, rfl, _⟩ | ⟨_, hin, rfl⟩⟩⟩
    · exact zer_length 32
    · exact zer_length 32
    · exact zer_length 32
    · obtain ⟨_, _, z3⟩ := hin
      have hb := hk.n_bd
      exact root_length (ovr_len (n := n.toNat) (by rw [hs.hlen]; omega) (by omega)) ((hs.hbyte.drop _).take _))
  have HRL : Hid (rs.length = 32) := hide (by
    obtain ⟨c1, c2⟩ := r1
    rcases c2 with ⟨_, rfl⟩ | ⟨z1, rfl⟩
    · exact zer_length 32
    · rcases c1 with ⟨y1, _⟩ | ⟨hk, ⟨y1, _⟩ | ⟨_, hc⟩⟩
      · omega
      · omega
      · have hb := hk.n_bd
        exact root_length (n := n.toNat) (by rw [hs.hlen]; omega) hs.hbyte)
  have HDU : Hid ((u8s ds).length = 32) := hide (by rw [u8s_length, HDL.out])
  have HRU : Hid ((u8s rs).length = 32) := hide (by rw [u8s_length, HRL.out])
  clear d1 d2 r1 r2
  have HS := hide hs
  have HK := hide hk
  have HX := hide hs.hlen
  have HXB := hide hs.hbyte
  have C1 := hide k1
  have C2 := hide k2
  have C3 := hide k3
  have C4 := hide k4
  clear k1 k2 k3 k4 hs hk
  go_enter Tryd.func4, Tryd.ntmps4
  go_wp2_with (first | (refine step_box (cs := c4 h l i n) rfl rfl ?_; intro w1 g1 hg1 hle1 hb1; have HG1 := hide hg1; clear hg1) | (refine step_box (cs := c2 na nb) rfl rfl ?_; intro w2 g2 hg2 hle2 hb2; have G21 := hide (HG1.out.on hb2); have G22 := hide hg2; have B2 := hide (on_below hb1 hb2); clear hg2 HG1 hb1 hb2 hle1 hle2; have ho0 : Own (w2.alloc (.cells #[] 5)) w2.heap.size (.slice (some ⟨w2.heap.size, 0, none⟩) 0 0) [] := Own.of_blk (xs := []) (Blk.made w2 5 []) (Nat.le_refl _) (by simp); have hb0 : Below w2.heap.size w2 (w2.alloc (.cells #[] 5)) := (Below.refl _ _).alloc (Nat.le_refl _) _) | (refine step_append rfl rfl rfl ho0 ((HS.out.below B2.out).below hb0) (by simp; omega) (by simp) ?_))
  intro v1 w3 ho1 hg1 hn1
  have hb1 : Below w2.heap.size w2 w3 := hb0.trans (Below.of_grown hg1 hb0.size ho0.lt)
  have hv1n : v1 ≠ .slice none 0 0 := fun e => by have e2 := (hn1 e).1; cases e2
  clear hg1 hn1 ho0 hb0
  have hr2 : Sl (w3.alloc (.cells #[.int .u8 90] 5)) (some ⟨w3.heap.size, 0, none⟩) 1 1 [90] := (Blk.made w3 5 (u8s [90])).sl0 (by simp [isB]) (by simp)
  have HO1 := hide ho1
  clear ho1
  go_wp2_with (refine step_append rfl rfl rfl (HO1.out.alloc _) hr2 (by simp [HX.out]; omega) (by have := hb1.size; simp; omega) ?_)
  intro v2 w4 ho2 hg2 hn2
  have hb2 : Below w2.heap.size w2 w4 := (hb1.alloc hb1.size _).trans (Below.of_grown hg2 (by have := hb1.size; simp; omega) HO1.out.lt)
  have hv2n : v2 ≠ .slice none 0 0 := fun e => hv1n (hn2 e).1
  clear hg2 hn2 HO1 hr2
  rw [List.nil_append] at ho2
  obtain ⟨gi, ci, rfl, hgB, hin⟩ := ho2.sl (HXB.out.append (by simp [isB])) (by simp [HX.out]; omega) hv2n
  have hlx : (xs ++ [90]).length = len + 1 := by simp [HX.out]
  rw [hlx] at hin ⊢
  have hc2 := hin.hcap
  have HIN := hide hin
  have hpre := hin.take len (by omega)
  rw [List.take_append_of_le_length (by rw [HX.out]; exact Nat.le_refl _), List.take_of_length_le (by rw [HX.out]; exact Nat.le_refl _)] at hpre
  have HPRE := hide hpre
  have B4 := hide (on_below B2.out hb2)
  have G41 := hide (G21.out.on hb2)
  have G42 := hide (G22.out.on hb2)
  have hss : (str xs).size ≤ 140737488351232 := by rw [str_size, HX.out]; omega
  have hse := str_90T xs
  have HSE := hide hse
  clear hin hpre ho2 hv1n hv2n hb1 hb2 hgB hlx B2 G21 G22 hse
  have D1 : Hid (∀ V : World, Below w.heap.size w V → Below w4.heap.size w4 V → Calls Tryd.prog 12 #[.agg (c4 h l i n).toArray, .slice (some ⟨gi, 0, none⟩) len ci, .agg (c2 na nb).toArray] V fun r w' => r = .returned (.tuple #[.agg (u8s ds).toArray, .int .i64 e]) ∧ Below V.heap.size V w') := hide (fun V hV h4 => C1.out _ _ _ (HPRE.out.below h4) (HK.out.below hV HK.out.lt))
  have D2 : Hid (∀ V : World, Below w.heap.size w V → Calls Tryd.prog 13 #[.agg (c4 h l i n).toArray, .slice a len cap, .agg (c2 na nb).toArray] V fun r w' => r = .returned (.tuple #[.agg (u8s ds).toArray, .int .i64 e]) ∧ Below V.heap.size V w') := hide (fun V hV => C2.out _ _ _ (HS.out.below hV))
  have D3 : Hid (∀ V : World, Below w.heap.size w V → Below w4.heap.size w4 V → Calls Tryd.prog 14 #[.agg (c4 h l i n).toArray, .slice (some ⟨gi, 0, none⟩) len ci] V fun r w' => r = .returned (.tuple #[.agg (u8s rs).toArray, .int .i64 f]) ∧ Below V.heap.size V w') := hide (fun V hV h4 => C3.out _ _ _ (HPRE.out.below h4) (HK.out.below hV HK.out.lt))
  have D4 : Hid (∀ V : World, Below w.heap.size w V → Calls Tryd.prog 15 #[.agg (c4 h l i n).toArray, .slice a len cap] V fun r w' => r = .returned (.tuple #[.agg (u8s rs).toArray, .int .i64 f]) ∧ Below V.heap.size V w') := hide (fun V hV => C4.out _ _ _ (HS.out.below hV))
  clear C1 C2 C3 C4
  go_wp2_with fail
  refine joinG (fun g W => Hid (Blk W g 40 (u8s ds)) ∧ Hid (Below w4.heap.size w4 W)) ?act ?tail (fun hjoin => ?_)
  rotate_left
  rotate_left
  · refine wp_region_noPanic ?_
    have Y0 := hide ((Below.refl w4.heap.size w4).drew)
    have HI1 : Hid ((Tryd.prog.info? 23).map (·.size) = some (c4 h l i n).length) := hide (by rw [wT.size]; rfl)
    have HI2 : Hid ((Tryd.prog.info? 38).map (·.size) = some (c2 na nb).length) := hide (by rw [wN.size]; rfl)
    have HX0 : Hid (∀ v : World, Below w4.heap.size w4 v → v.rangeAt g1 0 (c4 h l i n)) := hide (fun v hv => (G41.out.on hv).range 0 _ (by simp))
    have HY0 : Hid (∀ v : World, Below w4.heap.size w4 v → v.rangeAt g2 0 (c2 na nb)) := hide (fun v hv => (G42.out.on hv).range 0 _ (by simp))
    refine wp_region_held_drew (S := fun v : World => Below w4.heap.size w4 v) (by kernel_rfl) Y0.out (fun hHeld => ?_)
    refine takeH 0 22 (.agg (c4 h l i n).toArray) hHeld rfl rfl (by kernel_rfl) (by kernel_rfl) (by kernel_rfl) (fun _ _ _ h => h) (yieldsIf_load_mid (by rfl) _ _ rfl g1 0 rfl _ _ (fun w h => HX0.out w h) Tryd.underlying23 rfl HI1.out) ?_
    simp only [Act.put, List.setIfInBounds_toArray, List.set_cons_zero, List.set_cons_succ]
    refine takeH 1 23 (.slice (some ⟨gi, 0, none⟩) (len + 1) ci) hHeld rfl rfl (by kernel_rfl) (by kernel_rfl) (by kernel_rfl) (fun _ _ _ h => h) (Or.inl ⟨by rfl, fun w _ => by go_simp⟩) ?_
    simp only [Act.put, List.setIfInBounds_toArray, List.set_cons_zero, List.set_cons_succ]
    refine takeH 2 24 (.slice a len cap) hHeld rfl rfl (by kernel_rfl) (by kernel_rfl) (by kernel_rfl) (fun _ _ _ h => h) (Or.inl ⟨by rfl, fun w _ => by go_simp⟩) ?_
    simp only [Act.put, List.setIfInBounds_toArray, List.set_cons_zero, List.set_cons_succ]
    refine takeH 3 25 (.int .i64 (len : Int)) hHeld rfl rfl (by kernel_rfl) (by kernel_rfl) (by kernel_rfl) (fun _ _ _ h => h) (Or.inl ⟨by rfl, fun w _ => by go_simp⟩) ?_
    simp only [Act.put, List.setIfInBounds_toArray, List.set_cons_zero, List.set_cons_succ]
    refine takeH 4 26 (.slice (some ⟨gi, 0, none⟩) len ci) hHeld rfl rfl (by kernel_rfl) (by kernel_rfl) (by kernel_rfl) (fun _ _ _ h => h) (Or.inl ⟨by rfl, fun w _ => run_op rfl (sl_to gi (len + 1) ci len (len : Int) rfl (by omega) w)⟩) ?_
    simp only [Act.put, List.setIfInBounds_toArray, List.set_cons_zero, List.set_cons_succ]
    refine takeH 5 27 (.agg (c2 na nb).toArray) hHeld rfl rfl (by kernel_rfl) (by kernel_rfl) (by kernel_rfl) (fun _ _ _ h => h) (yieldsIf_load_mid (by rfl) _ _ rfl g2 0 rfl _ _ (fun w h => HY0.out w h) Tryd.underlying38 rfl HI2.out) ?_
    simp only [Act.put, List.setIfInBounds_toArray, List.set_cons_zero, List.set_cons_succ]
    refine wpAnyH_ready (rs := [6, 10]) (by kernel_rfl) (by simp) (AllReadyH.cons rfl (fun K hK => ?_) (AllReadyH.cons rfl (fun K hK => ?_) AllReadyH.nil))
    · rw [if_pos (by rfl)]
      go_simp
      refine (D1.out _ (on_below B4.out Y0.out) Y0.out).mono ?_
      rintro r va ⟨rfl, hv⟩
      have Y1 := hide (on_below Y0.out hv)
      refine hK.out _ _ Y1.out (fun hHeld => ?_)
      clear hK K
      try simp only [Act.put, List.setIfInBounds_toArray, List.set_cons_zero, List.set_cons_succ]
      refine takeH 7 21 (.tuple #[.agg (u8s ds).toArray, .int .i64 e]) hHeld rfl rfl (by kernel_rfl) (by kernel_rfl) (by kernel_rfl) (fun _ _ _ h => h) (Or.inl ⟨by rfl, fun w _ => by go_simp⟩) ?_
      simp only [Act.put, List.setIfInBounds_toArray, List.set_cons_zero, List.set_cons_succ]
      refine takeH 8 29 (.agg (u8s ds).toArray) hHeld rfl rfl (by kernel_rfl) (by kernel_rfl) (by kernel_rfl) (fun _ _ _ h => h) (Or.inl ⟨by rfl, fun w _ => by go_simp⟩) ?_
      simp only [Act.put, List.setIfInBounds_toArray, List.set_cons_zero, List.set_cons_succ]
      refine takeH 9 30 (.int .i64 e) hHeld rfl rfl (by kernel_rfl) (by kernel_rfl) (by kernel_rfl) (fun _ _ _ h => h) (Or.inl ⟨by rfl, fun w _ => by go_simp⟩) ?_
      simp only [Act.put, List.setIfInBounds_toArray, List.set_cons_zero, List.set_cons_succ]
      refine wpAnyH_ready (rs := [10]) (by kernel_rfl) (by simp) (AllReadyH.cons rfl (fun K hK => ?_) AllReadyH.nil)
      rw [if_pos (by rfl)]
      refine wp_allocG zD ?_
      intro vb g8 hgn hln hbn
      have Y2 := hide (on_below Y1.out hbn)
      have GB := hide hgn
      have LE := hide (Nat.le_trans Y1.out.size hln)
      refine hK.out _ _ Y2.out (fun hHeld => ?_)
      clear hK K
      try simp only [Act.put, List.setIfInBounds_toArray, List.set_cons_zero, List.set_cons_succ]
      refine wpAnyH_ready (rs := [11]) (by kernel_rfl) (by simp) (AllReadyH.cons rfl (fun K hK => ?_) AllReadyH.nil)
      rw [if_pos (by rfl)]
      refine wp_storeGT wD rfl rfl GB.out HDU.out (One.u8 _) rfl ?_
      intro vz hgz hbutz
      have YZ := hide (Y2.out.trans (hbutz.below LE.out))
      refine hK.out _ _ YZ.out (fun hHeld => ?_)
      clear hK K
      try simp only [Act.put, List.setIfInBounds_toArray, List.set_cons_zero, List.set_cons_succ]
      refine takeH 12 9 (.int .i64 e) hHeld rfl rfl (by kernel_rfl) (by kernel_rfl) (by kernel_rfl) (fun _ _ _ h => h) (Or.inl ⟨by rfl, fun w _ => by go_simp⟩) ?_
      simp only [Act.put, List.setIfInBounds_toArray, List.set_cons_zero, List.set_cons_succ]
      refine wpAnyH_done (by kernel_rfl) ?_ _
      refine NoPanic.normal ?_
      exact hjoin g8 vz ⟨hide hgz, YZ⟩
    · rw [if_pos (by rfl)]
      refine wp_allocG zD ?_
      intro va g8 hgn hln hbn
      have Y1 := hide (on_below Y0.out hbn)
      have GA := hide hgn
      have LE := hide (Nat.le_trans Y0.out.size hln)
      refine hK.out _ _ Y1.out (fun hHeld => ?_)
      clear hK K
      try simp only [Act.put, List.setIfInBounds_toArray, List.set_cons_zero, List.set_cons_succ]
      refine wpAnyH_ready (rs := [6]) (by kernel_rfl) (by simp) (AllReadyH.cons rfl (fun K hK => ?_) AllReadyH.nil)
      rw [if_pos (by rfl)]
      go_simp
      refine (D1.out _ (on_below B4.out Y1.out) Y1.out).mono ?_
      rintro r vb ⟨rfl, hv⟩
      have Y2 := hide (on_below Y1.out hv)
      have GB := hide (GA.out.on hv)
      refine hK.out _ _ Y2.out (fun hHeld => ?_)
      clear hK K
      try simp only [Act.put, List.setIfInBounds_toArray, List.set_cons_zero, List.set_cons_succ]
      refine takeH 7 21 (.tuple #[.agg (u8s ds).toArray, .int .i64 e]) hHeld rfl rfl (by kernel_rfl) (by kernel_rfl) (by kernel_rfl) (fun _ _ _ h => h) (Or.inl ⟨by rfl, fun w _ => by go_simp⟩) ?_
      simp only [Act.put, List.setIfInBounds_toArray, List.set_cons_zero, List.set_cons_succ]
      refine takeH 8 29 (.agg (u8s ds).toArray) hHeld rfl rfl (by kernel_rfl) (by kernel_rfl) (by kernel_rfl) (fun _ _ _ h => h) (Or.inl ⟨by rfl, fun w _ => by go_simp⟩) ?_
      simp only [Act.put, List.setIfInBounds_toArray, List.set_cons_zero, List.set_cons_succ]
      refine takeH 9 30 (.int .i64 e) hHeld rfl rfl (by kernel_rfl) (by kernel_rfl) (by kernel_rfl) (fun _ _ _ h => h) (Or.inl ⟨by rfl, fun w _ => by go_simp⟩) ?_
      simp only [Act.put, List.setIfInBounds_toArray, List.set_cons_zero, List.set_cons_succ]
      refine wpAnyH_ready (rs := [11]) (by kernel_rfl) (by simp) (AllReadyH.cons rfl (fun K hK => ?_) AllReadyH.nil)
      rw [if_pos (by rfl)]
      refine wp_storeGT wD rfl rfl GB.out HDU.out (One.u8 _) rfl ?_
      intro vz hgz hbutz
      have YZ := hide (Y2.out.trans (hbutz.below LE.out))
      refine hK.out _ _ YZ.out (fun hHeld => ?_)
      clear hK K
      try simp only [Act.put, List.setIfInBounds_toArray, List.set_cons_zero, List.set_cons_succ]
      refine takeH 12 9 (.int .i64 e) hHeld rfl rfl (by kernel_rfl) (by kernel_rfl) (by kernel_rfl) (fun _ _ _ h => h) (Or.inl ⟨by rfl, fun w _ => by go_simp⟩) ?_
      simp only [Act.put, List.setIfInBounds_toArray, List.set_cons_zero, List.set_cons_succ]
      refine wpAnyH_done (by kernel_rfl) ?_ _
      refine NoPanic.normal ?_
      exact hjoin g8 vz ⟨hide hgz, YZ⟩
  · rintro g8 w5 ⟨G8, Y5⟩
    have B5 := hide (on_below B4.out Y5.out)
    have T5 := hide (G41.out.on Y5.out)
    have N5 := hide (G42.out.on Y5.out)
    clear D1
    go_wp2_with (first | (refine step_loadA wT rfl rfl T5.out rfl ?_) | (refine step_loadA wN rfl rfl N5.out rfl ?_))
    refine (D2.out _ B5.out).mono ?_
    rintro r w6 ⟨rfl, hb6⟩
    have Y6 := hide (on_below Y5.out hb6)
    have G86 := hide (G8.out.on hb6)
    clear hb6 Y5 B5 T5 N5 G8 D2
    go_wp2_with (first | (refine step_alloc zD rfl ?_; intro w7 g7 hg7 hle7 hb7; have HG7 := hide hg7; clear hg7) | (refine step_storeA wD rfl rfl rfl HG7.out HDU.out (One.u8 _) rfl ?_))
    intro w8 hg8' hbut8
    have hb8 : Below w6.heap.size w6 w8 := hb7.trans (hbut8.below hle7)
    have Y8 := hide (on_below Y6.out hb8)
    have G88 := hide (G86.out.on hb8)
    have GA8 := hide hg8'
    clear hb8 hb7 hbut8 hle7 HG7 hg8' Y6 G86
    have B8 := hide (on_below B4.out Y8.out)
    have T8 := hide (G41.out.on Y8.out)
    go_wp2_with fail
    refine joinG (fun g W => Hid (Blk W g 40 (u8s rs)) ∧ Hid (Below w8.heap.size w8 W)) ?act2 ?tail2 (fun hjoin => ?_)
    rotate_left
    rotate_left
    · refine wp_region_noPanic ?_
      have Y0 := hide ((Below.refl w8.heap.size w8).drew)
      have HI1 : Hid ((Tryd.prog.info? 23).map (·.size) = some (c4 h l i n).length) := hide (by rw [wT.size]; rfl)
      have HX0 : Hid (∀ v : World, Below w8.heap.size w8 v → v.rangeAt g1 0 (c4 h l i n)) := hide (fun v hv => (T8.out.on hv).range 0 _ (by simp))
      refine wp_region_held_drew (S := fun v : World => Below w8.heap.size w8 v) (by kernel_rfl) Y0.out (fun hHeld => ?_)
      refine takeH 0 39 (.agg (c4 h l i n).toArray) hHeld rfl rfl (by kernel_rfl) (by kernel_rfl) (by kernel_rfl) (fun _ _ _ h => h) (yieldsIf_load_mid (by rfl) _ _ rfl g1 0 rfl _ _ (fun w h => HX0.out w h) Tryd.underlying23 rfl HI1.out) ?_
      simp only [Act.put, List.setIfInBounds_toArray, List.set_cons_zero, List.set_cons_succ]
      refine takeH 1 40 (.slice (some ⟨gi, 0, none⟩) (len + 1) ci) hHeld rfl rfl (by kernel_rfl) (by kernel_rfl) (by kernel_rfl) (fun _ _ _ h => h) (Or.inl ⟨by rfl, fun w _ => by go_simp⟩) ?_
      simp only [Act.put, List.setIfInBounds_toArray, List.set_cons_zero, List.set_cons_succ]
      refine takeH 2 41 (.slice a len cap) hHeld rfl rfl (by kernel_rfl) (by kernel_rfl) (by kernel_rfl) (fun _ _ _ h => h) (Or.inl ⟨by rfl, fun w _ => by go_simp⟩) ?_
      simp only [Act.put, List.setIfInBounds_toArray, List.set_cons_zero, List.set_cons_succ]
      refine takeH 3 42 (.int .i64 (len : Int)) hHeld rfl rfl (by kernel_rfl) (by kernel_rfl) (by kernel_rfl) (fun _ _ _ h => h) (Or.inl ⟨by rfl, fun w _ => by go_simp⟩) ?_
      simp only [Act.put, List.setIfInBounds_toArray, List.set_cons_zero, List.set_cons_succ]
      refine takeH 4 43 (.slice (some ⟨gi, 0, none⟩) len ci) hHeld rfl rfl (by kernel_rfl) (by kernel_rfl) (by kernel_rfl) (fun _ _ _ h => h) (Or.inl ⟨by rfl, fun w _ => run_op rfl (sl_to gi (len + 1) ci len (len : Int) rfl (by omega) w)⟩) ?_
      simp only [Act.put, List.setIfInBounds_toArray, List.set_cons_zero, List.set_cons_succ]
      refine wpAnyH_ready (rs := [5, 9]) (by kernel_rfl) (by simp) (AllReadyH.cons rfl (fun K hK => ?_) (AllReadyH.cons rfl (fun K hK => ?_) AllReadyH.nil))
      · rw [if_pos (by rfl)]
        go_simp
        refine (D3.out _ (on_below B8.out Y0.out) (on_below Y8.out Y0.out)).mono ?_
        rintro r va ⟨rfl, hv⟩
        have Y1 := hide (on_below Y0.out hv)
        refine hK.out _ _ Y1.out (fun hHeld => ?_)
        clear hK K
        try simp only [Act.put, List.setIfInBounds_toArray, List.set_cons_zero, List.set_cons_succ]
        refine takeH 6 38 (.tuple #[.agg (u8s rs).toArray, .int .i64 f]) hHeld rfl rfl (by kernel_rfl) (by kernel_rfl) (by kernel_rfl) (fun _ _ _ h => h) (Or.inl ⟨by rfl, fun w _ => by go_simp⟩) ?_
        simp only [Act.put, List.setIfInBounds_toArray, List.set_cons_zero, List.set_cons_succ]
        refine takeH 7 45 (.agg (u8s rs).toArray) hHeld rfl rfl (by kernel_rfl) (by kernel_rfl) (by kernel_rfl) (fun _ _ _ h => h) (Or.inl ⟨by rfl, fun w _ => by go_simp⟩) ?_
        simp only [Act.put, List.setIfInBounds_toArray, List.set_cons_zero, List.set_cons_succ]
        refine takeH 8 46 (.int .i64 f) hHeld rfl rfl (by kernel_rfl) (by kernel_rfl) (by kernel_rfl) (fun _ _ _ h => h) (Or.inl ⟨by rfl, fun w _ => by go_simp⟩) ?_
        simp only [Act.put, List.setIfInBounds_toArray, List.set_cons_zero, List.set_cons_succ]
        refine wpAnyH_ready (rs := [9]) (by kernel_rfl) (by simp) (AllReadyH.cons rfl (fun K hK => ?_) AllReadyH.nil)
        rw [if_pos (by rfl)]
        refine wp_allocG zD ?_
        intro vb g12 hgn hln hbn
        have Y2 := hide (on_below Y1.out hbn)
        have GB := hide hgn
        have LE := hide (Nat.le_trans Y1.out.size hln)
        refine hK.out _ _ Y2.out (fun hHeld => ?_)
        clear hK K
        try simp only [Act.put, List.setIfInBounds_toArray, List.set_cons_zero, List.set_cons_succ]
        refine wpAnyH_ready (rs := [10]) (by kernel_rfl) (by simp) (AllReadyH.cons rfl (fun K hK => ?_) AllReadyH.nil)
        rw [if_pos (by rfl)]
        refine wp_storeGT wD rfl rfl GB.out HRU.out (One.u8 _) rfl ?_
        intro vz hgz hbutz
        have YZ := hide (Y2.out.trans (hbutz.below LE.out))
        refine hK.out _ _ YZ.out (fun hHeld => ?_)
        clear hK K
        try simp only [Act.put, List.setIfInBounds_toArray, List.set_cons_zero, List.set_cons_succ]
        refine takeH 11 13 (.int .i64 f) hHeld rfl rfl (by kernel_rfl) (by kernel_rfl) (by kernel_rfl) (fun _ _ _ h => h) (Or.inl ⟨by rfl, fun w _ => by go_simp⟩) ?_
        simp only [Act.put, List.setIfInBounds_toArray, List.set_cons_zero, List.set_cons_succ]
        refine wpAnyH_done (by kernel_rfl) ?_ _
        refine NoPanic.normal ?_
        exact hjoin g12 vz ⟨hide hgz, YZ⟩
      · rw [if_pos (by rfl)]
        refine wp_allocG zD ?_
        intro va g12 hgn hln hbn
        have Y1 := hide (on_below Y0.out hbn)
        have GA := hide hgn
        have LE := hide (Nat.le_trans Y0.out.size hln)
        refine hK.out _ _ Y1.out (fun hHeld => ?_)
        clear hK K
        try simp only [Act.put, List.setIfInBounds_toArray, List.set_cons_zero, List.set_cons_succ]
        refine wpAnyH_ready (rs := [5]) (by kernel_rfl) (by simp) (AllReadyH.cons rfl (fun K hK => ?_) AllReadyH.nil)
        rw [if_pos (by rfl)]
        go_simp
        refine (D3.out _ (on_below B8.out Y1.out) (on_below Y8.out Y1.out)).mono ?_
        rintro r vb ⟨rfl, hv⟩
        have Y2 := hide (on_below Y1.out hv)
        have GB := hide (GA.out.on hv)
        refine hK.out _ _ Y2.out (fun hHeld => ?_)
        clear hK K
        try simp only [Act.put, List.setIfInBounds_toArray, List.set_cons_zero, List.set_cons_succ]
        refine takeH 6 38 (.tuple #[.agg (u8s rs).toArray, .int .i64 f]) hHeld rfl rfl (by kernel_rfl) (by kernel_rfl) (by kernel_rfl) (fun _ _ _ h => h) (Or.inl ⟨by rfl, fun w _ => by go_simp⟩) ?_
        simp only [Act.put, List.setIfInBounds_toArray, List.set_cons_zero, List.set_cons_succ]
        refine takeH 7 45 (.agg (u8s rs).toArray) hHeld rfl rfl (by kernel_rfl) (by kernel_rfl) (by kernel_rfl) (fun _ _ _ h => h) (Or.inl ⟨by rfl, fun w _ => by go_simp⟩) ?_
        simp only [Act.put, List.setIfInBounds_toArray, List.set_cons_zero, List.set_cons_succ]
        refine takeH 8 46 (.int .i64 f) hHeld rfl rfl (by kernel_rfl) (by kernel_rfl) (by kernel_rfl) (fun _ _ _ h => h) (Or.inl ⟨by rfl, fun w _ => by go_simp⟩) ?_
        simp only [Act.put, List.setIfInBounds_toArray, List.set_cons_zero, List.set_cons_succ]
        refine wpAnyH_ready (rs := [10]) (by kernel_rfl) (by simp) (AllReadyH.cons rfl (fun K hK => ?_) AllReadyH.nil)
        rw [if_pos (by rfl)]
        refine wp_storeGT wD rfl rfl GB.out HRU.out (One.u8 _) rfl ?_
        intro vz hgz hbutz
        have YZ := hide (Y2.out.trans (hbutz.below LE.out))
        refine hK.out _ _ YZ.out (fun hHeld => ?_)
        clear hK K
        try simp only [Act.put, List.setIfInBounds_toArray, List.set_cons_zero, List.set_cons_succ]
        refine takeH 11 13 (.int .i64 f) hHeld rfl rfl (by kernel_rfl) (by kernel_rfl) (by kernel_rfl) (fun _ _ _ h => h) (Or.inl ⟨by rfl, fun w _ => by go_simp⟩) ?_
        simp only [Act.put, List.setIfInBounds_toArray, List.set_cons_zero, List.set_cons_succ]
        refine wpAnyH_done (by kernel_rfl) ?_ _
        refine NoPanic.normal ?_
        exact hjoin g12 vz ⟨hide hgz, YZ⟩
    · rintro g12 w9 ⟨GC9, Z9⟩
      have Y9 := hide (on_below Y8.out Z9.out)
      have B9 := hide (on_below B4.out Y9.out)
      have T9 := hide (G41.out.on Y9.out)
      have G89 := hide (G88.out.on Z9.out)
      have GA9 := hide (GA8.out.on Z9.out)
      clear D3 Y8 G88 GA8 B8 T8 Z9
      go_wp2_with (first | (refine step_loadA wT rfl rfl T9.out rfl ?_))
      refine (D4.out _ B9.out).mono ?_
      rintro r wa ⟨rfl, hba⟩
      have Ya := hide (on_below Y9.out hba)
      have G8a := hide (G89.out.on hba)
      have GAa := hide (GA9.out.on hba)
      have GCa := hide (GC9.out.on hba)
      clear hba Y9 B9 T9 G89 GA9 GC9 D4
      go_wp2_with (first | (refine step_alloc zD rfl ?_; intro wb gb hgb hleb hbb; have HGb := hide hgb; clear hgb) | (refine step_storeA wD rfl rfl rfl HGb.out HRU.out (One.u8 _) rfl ?_))
      intro wc hgc hbutc
      have hbc : Below wa.heap.size wa wc := hbb.trans (hbutc.below hleb)
      have Yc := hide (on_below Ya.out hbc)
      have G8c := hide (G8a.out.on hbc)
      have GAc := hide (GAa.out.on hbc)
      have GCc := hide (GCa.out.on hbc)
      have GDc := hide hgc
      have Bc := hide (on_below B4.out Yc.out)
      have SC := hide (HS.out.below Bc.out)
      have IC := hide (HIN.out.below Yc.out)
      have hse := HSE.out
      clear hbc hbb hbutc hleb HGb hgc Ya G8a GAa GCa
      go_wp2_with (first | (refine step_loadA wD rfl rfl G8c.out HDU.out ?_) | (refine step_loadA wD rfl rfl GAc.out HDU.out ?_) | (refine step_loadA wD rfl rfl GCc.out HRU.out ?_) | (refine step_loadA wD rfl rfl GDc.out HRU.out ?_) | (refine step_eqA aD rfl rfl rfl HDL.out HDL.out ?_) | (refine step_eqA aD rfl rfl rfl HRL.out HRL.out ?_) | (refine step_toStr rfl rfl IC.out ?_) | (refine step_toStr rfl rfl SC.out ?_) | (go_at_call 11; refine (names10D_any _).mono ?_; rintro e w' ⟨rfl, rfl⟩))
      go_ret
      exact ⟨rfl, Bc.out⟩

end Go.Proofs.YtnlpgkfmjlljdaaDoor
