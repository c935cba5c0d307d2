/-
  The law's done: a raw write, done by a call.
-/
import Derived.Test.YtnkjdoghfdnlaaaKmk
import Derived.Test.YtnkjdoghfdnlaaaKrb
namespace Go.Proofs.Ytnkjdoghfdnlaaa
open Go.RowKit
set_option linter.unusedVariables false

theorem DkAt.val {w : World} {d s : Nat} {rs : List Rw} {D : Dm} (h : DkAt w d s rs D) : Val s (fun _ => none) rs := by
  have := h.rok.val h.s1 (D.es.map (·.1)).length (Nat.le_refl _)
  rw [List.take_length, h.raw] at this
  exact this
theorem Lraw.few {s : Nat} {f : (ByteArray → Option (List Int))} {r : Rw} (h : Lraw s f r) : r.b.length ≤ s := by
  by_cases hk : r.k = 2
  · have := h.2 hk; omega
  · rw [h.1.b0 hk]; exact Nat.zero_le _

set_option maxRecDepth 100000 in
theorem done_any (d s : Nat) (rs : List Rw) (D : Dm) (r : Rw) (a : Option Addr) (l c : Nat) (w : World) (h : DkAt w d s rs D) (hr : Lraw s (play rs) r) (hb : Sl w a l c r.b) (hwt : wt rs + 2 * r.b.length + 1 ≤ 16777216) :
    Calls Try.prog 35 #[.pointer (some ⟨d, 0, none⟩), .agg (rwC r.k r.n (.slice a l c) r.s r.t).toArray] w fun e w' => e = .returned (.bool true) ∧ OpR w w' d s D (rs ++ [r]) := by
  have HH := hide h
  have HS := hide hb
  have HW := hide hwt
  have hex := expd_raw h.s1 hr rs.length
  clear h hb hwt
  obtain ⟨hr, _⟩ := hr
  rcases hr with ⟨n, rfl, hn, hf⟩ | ⟨n, b, xs, rfl, hn, hf, hb, hB⟩ | ⟨n, q, xs, rfl, hn, hf, h0, h1⟩ | ⟨n, xs, rfl, hn, hf⟩ | ⟨n, t, xs, rfl, hn, ht, hf, hne⟩
  · have EE : Hid (crE rs n = 0) := hide (by simp [crE, hn, hf])
    have ES : Hid (crS rs n = rs ++ [rCr n]) := hide (by rw [crS, if_pos EE.out])
    clear hex hf hn
    show Calls Try.prog 35 #[.pointer (some ⟨d, 0, none⟩), .agg (rwC 1 n (.slice a l c) 0 ByteArray.empty).toArray] w _
    go_enter Try.func35, Try.ntmps35
    go_wp2_with (refine step_box (cs := rwC 1 n (.slice a l c) 0 ByteArray.empty) rfl rfl ?_)
    intro w1 g hg hle hb
    have k0 : w1.cell? ⟨g, 0, none⟩ = some (.int .i64 1) := by rw [hg.cell]; rfl
    have k1 : w1.cell? ⟨g, 1, none⟩ = some (.string n) := by rw [hg.cell]; rfl
    have k2 : w1.cell? ⟨g, 2, none⟩ = some (.slice a l c) := by rw [hg.cell]; rfl
    have k3 : w1.cell? ⟨g, 3, none⟩ = some (.int .i64 0) := by rw [hg.cell]; rfl
    have k4 : w1.cell? ⟨g, 4, none⟩ = some (.string ByteArray.empty) := by rw [hg.cell]; rfl
    have HB := hide hb
    have H1 := hide (HH.out.below hb)
    clear hg hle hb
    go_wp2_with fail
    refine (create_any d s rs D _ H1.out n (by have := HW.out; omega)).mono ?_
    rintro e w2 ⟨rfl, hop⟩
    rw [EE.out]
    go_wp2
    go_ret
    refine ⟨rfl, ?_⟩
    rw [ES.out] at hop
    exact OpR.step (Chs.of_below _ HB.out) (fun k hk => .inl hk) (fun k hk => .inl hk) hop
  · have EE : Hid (fE rs n = 0) := hide (by simp [fE, hn, hf])
    have ES : Hid (apS s rs n b = rs ++ [rAp n b]) := hide (by
      rw [apS, if_pos ⟨EE.out, hb⟩]
      exact congrArg (rs ++ ·) hex)
    clear hex hf hn
    show Calls Try.prog 35 #[.pointer (some ⟨d, 0, none⟩), .agg (rwC 2 n (.slice a l c) 0 ByteArray.empty).toArray] w _
    go_enter Try.func35, Try.ntmps35
    go_wp2_with (refine step_box (cs := rwC 2 n (.slice a l c) 0 ByteArray.empty) rfl rfl ?_)
    intro w1 g hg hle hb
    have k0 : w1.cell? ⟨g, 0, none⟩ = some (.int .i64 2) := by rw [hg.cell]; rfl
    have k1 : w1.cell? ⟨g, 1, none⟩ = some (.string n) := by rw [hg.cell]; rfl
    have k2 : w1.cell? ⟨g, 2, none⟩ = some (.slice a l c) := by rw [hg.cell]; rfl
    have k3 : w1.cell? ⟨g, 3, none⟩ = some (.int .i64 0) := by rw [hg.cell]; rfl
    have k4 : w1.cell? ⟨g, 4, none⟩ = some (.string ByteArray.empty) := by rw [hg.cell]; rfl
    have HB := hide hb
    have H1 := hide (HH.out.below hb)
    clear hg hle hb
    go_wp2_with fail
    refine (append_any d s rs D _ H1.out n a l c b (HS.out.below HB.out) (by have := HW.out; exact this)).mono ?_
    rintro e w2 ⟨rfl, hop⟩
    rw [EE.out]
    go_wp2
    go_ret
    refine ⟨rfl, ?_⟩
    rw [ES.out] at hop
    exact OpR.step (Chs.of_below _ HB.out) (fun k hk => .inl hk) (fun k hk => .inl hk) hop
  · have ex : fl (play rs) n = xs := by simp [fl, hf]
    have EE : Hid (cuE rs n q = 0) := hide (by
      have e0 : fE rs n = 0 := by simp [fE, hn, hf]
      simp only [cuE, e0, ex, if_true]
      rw [if_neg (by omega)])
    have ES : Hid (cuS rs n q = rs ++ [rCu n q]) := hide (by rw [cuS, if_pos ⟨EE.out, by rw [ex]; exact h1⟩])
    clear hex hf hn ex h0 h1
    show Calls Try.prog 35 #[.pointer (some ⟨d, 0, none⟩), .agg (rwC 3 n (.slice a l c) q ByteArray.empty).toArray] w _
    go_enter Try.func35, Try.ntmps35
    go_wp2_with (refine step_box (cs := rwC 3 n (.slice a l c) q ByteArray.empty) rfl rfl ?_)
    intro w1 g hg hle hb
    have k0 : w1.cell? ⟨g, 0, none⟩ = some (.int .i64 3) := by rw [hg.cell]; rfl
    have k1 : w1.cell? ⟨g, 1, none⟩ = some (.string n) := by rw [hg.cell]; rfl
    have k2 : w1.cell? ⟨g, 2, none⟩ = some (.slice a l c) := by rw [hg.cell]; rfl
    have k3 : w1.cell? ⟨g, 3, none⟩ = some (.int .i64 q) := by rw [hg.cell]; rfl
    have k4 : w1.cell? ⟨g, 4, none⟩ = some (.string ByteArray.empty) := by rw [hg.cell]; rfl
    have HB := hide hb
    have H1 := hide (HH.out.below hb)
    clear hg hle hb
    go_wp2_with fail
    refine (cut_any d s rs D _ H1.out n q (by have := HW.out; omega)).mono ?_
    rintro e w2 ⟨rfl, hop⟩
    rw [EE.out]
    go_wp2
    go_ret
    refine ⟨rfl, ?_⟩
    rw [ES.out] at hop
    exact OpR.step (Chs.of_below _ HB.out) (fun k hk => .inl hk) (fun k hk => .inl hk) hop
  · have EE : Hid (fE rs n = 0) := hide (by simp [fE, hn, hf])
    have ES : Hid (rmS rs n = rs ++ [rRm n]) := hide (by rw [rmS, if_pos EE.out])
    clear hex hf hn
    show Calls Try.prog 35 #[.pointer (some ⟨d, 0, none⟩), .agg (rwC 4 n (.slice a l c) 0 ByteArray.empty).toArray] w _
    go_enter Try.func35, Try.ntmps35
    go_wp2_with (refine step_box (cs := rwC 4 n (.slice a l c) 0 ByteArray.empty) rfl rfl ?_)
    intro w1 g hg hle hb
    have k0 : w1.cell? ⟨g, 0, none⟩ = some (.int .i64 4) := by rw [hg.cell]; rfl
    have k1 : w1.cell? ⟨g, 1, none⟩ = some (.string n) := by rw [hg.cell]; rfl
    have k2 : w1.cell? ⟨g, 2, none⟩ = some (.slice a l c) := by rw [hg.cell]; rfl
    have k3 : w1.cell? ⟨g, 3, none⟩ = some (.int .i64 0) := by rw [hg.cell]; rfl
    have k4 : w1.cell? ⟨g, 4, none⟩ = some (.string ByteArray.empty) := by rw [hg.cell]; rfl
    have HB := hide hb
    have H1 := hide (HH.out.below hb)
    clear hg hle hb
    go_wp2_with fail
    refine (remove_any d s rs D _ H1.out n (by have := HW.out; omega)).mono ?_
    rintro e w2 ⟨rfl, hop⟩
    rw [EE.out]
    go_wp2
    go_ret
    refine ⟨rfl, ?_⟩
    rw [ES.out] at hop
    exact OpR.step (Chs.of_below _ HB.out) (fun k hk => .inl hk) (fun k hk => .inl hk) hop
  · have EE : Hid (rnE rs n t = 0) := hide (by simp [rnE, ht, fE, hn, hf])
    have ES : Hid (rnS rs n t = rs ++ [rRn n t]) := hide (by rw [rnS, if_pos ⟨EE.out, hne⟩])
    clear hex hf hn ht hne
    show Calls Try.prog 35 #[.pointer (some ⟨d, 0, none⟩), .agg (rwC 5 n (.slice a l c) 0 t).toArray] w _
    go_enter Try.func35, Try.ntmps35
    go_wp2_with (refine step_box (cs := rwC 5 n (.slice a l c) 0 t) rfl rfl ?_)
    intro w1 g hg hle hb
    have k0 : w1.cell? ⟨g, 0, none⟩ = some (.int .i64 5) := by rw [hg.cell]; rfl
    have k1 : w1.cell? ⟨g, 1, none⟩ = some (.string n) := by rw [hg.cell]; rfl
    have k2 : w1.cell? ⟨g, 2, none⟩ = some (.slice a l c) := by rw [hg.cell]; rfl
    have k3 : w1.cell? ⟨g, 3, none⟩ = some (.int .i64 0) := by rw [hg.cell]; rfl
    have k4 : w1.cell? ⟨g, 4, none⟩ = some (.string t) := by rw [hg.cell]; rfl
    have HB := hide hb
    have H1 := hide (HH.out.below hb)
    clear hg hle hb
    go_wp2_with fail
    refine (rename_any d s rs D _ H1.out n t (by have := HW.out; omega)).mono ?_
    rintro e w2 ⟨rfl, hop⟩
    rw [EE.out]
    go_wp2
    go_ret
    refine ⟨rfl, ?_⟩
    rw [ES.out] at hop
    exact OpR.step (Chs.of_below _ HB.out) (fun k hk => .inl hk) (fun k hk => .inl hk) hop

end Go.Proofs.Ytnkjdoghfdnlaaa
