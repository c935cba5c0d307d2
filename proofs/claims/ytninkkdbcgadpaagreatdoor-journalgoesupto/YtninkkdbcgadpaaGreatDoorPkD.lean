/-
  Texts one behind the other: Jci Jcz Jgp Jgq JgsLaw.
-/
import Derived.Test.YtninkkdbcgadpaaGreatDoorPkC
import Derived.Test.YtninkkdbcgadpaaGreatDoorJaj
import Derived.Test.YtninkkdbcgadpaaGreatDoorKqb
import Derived.Test.YtninkkdbcgadpaaGreatDoorKmj
import Derived.Deep.Cut
import Derived.Deep.CutRange
import Derived.Deep.CutBlock

/-
  JournalCrashes: what stands ahead of each act, and what an act leaves.
-/
namespace Go.Proofs.YtninkkdbcgadpaaGreatDoor
open Go.RowKit Go.Shelf
set_option linter.unusedVariables false
set_option linter.unusedSimpArgs false
set_option maxRecDepth 100000

theorem four_mul (x y : Nat) : 4 * (x * y) ≤ (x + y) * (x + y) := by
  rcases Nat.le_total x y with h | h
  · obtain ⟨t, rfl⟩ := Nat.exists_eq_add_of_le h
    have e1 : 4 * (x * (x + t)) = 4 * (x * x) + 4 * (x * t) := by rw [Nat.mul_add, Nat.mul_add]
    have e2 : (x + (x + t)) * (x + (x + t)) = 4 * (x * x) + 4 * (x * t) + t * t := by
      have : x + (x + t) = 2 * x + t := by omega
      rw [this, Nat.add_mul, Nat.mul_add, Nat.mul_add]
      have a1 : 2 * x * (2 * x) = 4 * (x * x) := by rw [Nat.mul_assoc, Nat.mul_left_comm x 2 x, ← Nat.mul_assoc]
      have a2 : 2 * x * t = 2 * (x * t) := Nat.mul_assoc _ _ _
      have a3 : t * (2 * x) = 2 * (x * t) := by rw [Nat.mul_comm]; exact a2
      omega
    omega
  · obtain ⟨t, rfl⟩ := Nat.exists_eq_add_of_le h
    have e1 : 4 * ((y + t) * y) = 4 * (y * y) + 4 * (y * t) := by rw [Nat.add_mul, Nat.mul_add, Nat.mul_comm t y]
    have e2 : (y + t + y) * (y + t + y) = 4 * (y * y) + 4 * (y * t) + t * t := by
      have : y + t + y = 2 * y + t := by omega
      rw [this, Nat.add_mul, Nat.mul_add, Nat.mul_add]
      have a1 : 2 * y * (2 * y) = 4 * (y * y) := by rw [Nat.mul_assoc, Nat.mul_left_comm y 2 y, ← Nat.mul_assoc]
      have a2 : 2 * y * t = 2 * (y * t) := Nat.mul_assoc _ _ _
      have a3 : t * (2 * y) = 2 * (y * t) := by rw [Nat.mul_comm]; exact a2
      omega
    omega
/-- How much acts that weigh m can have made: x raw weight, f bytes of file, l leaves. -/
def Bd (m x f l : Nat) : Prop := ∃ a c, a + 4 * c ≤ m ∧ x ≤ 1 + 5 * a + c * (4 * a + 3) ∧ f ≤ 2 * a ∧ 4 * l ≤ a
theorem Bd.zero : Bd 0 1 0 0 := ⟨0, 0, by omega, by omega, by omega, by omega⟩
theorem Bd.mono {m m' x x' f f' l l' : Nat} (h : Bd m x f l) (hm : m ≤ m') (hx : x' ≤ x) (hf : f' ≤ f) (hl : l' ≤ l) : Bd m' x' f' l' := by
  obtain ⟨a, c, h1, h2, h3, h4⟩ := h
  exact ⟨a, c, by omega, by omega, by omega, by omega⟩
theorem Bd.add {m x f l : Nat} (h : Bd m x f l) (n : Nat) : Bd (m + (n + 4)) (x + 2 * (8 + n) + 1) (f + (8 + n)) (l + 1) := by
  obtain ⟨a, c, h1, h2, h3, h4⟩ := h
  have h5 : c * (4 * a + 3) ≤ c * (4 * (a + (n + 4)) + 3) := Nat.mul_le_mul_left _ (by omega)
  exact ⟨a + (n + 4), c, by omega, by omega, by omega, by omega⟩
theorem Bd.clear {m x f l f' l' : Nat} (h : Bd m x f l) (hf : f' ≤ f) (hl : l' ≤ l) : Bd (m + 4) (x + 2 * f + 3) f' l' := by
  obtain ⟨a, c, h1, h2, h3, h4⟩ := h
  have h5 : (c + 1) * (4 * a + 3) = c * (4 * a + 3) + (4 * a + 3) := Nat.succ_mul _ _
  exact ⟨a, c + 1, by omega, by rw [h5]; omega, by omega, by omega⟩
theorem Bd.out {m x f l : Nat} (h : Bd m x f l) (hm : m ≤ 1048576) : x ≤ 300000000000 ∧ f ≤ 2097152 ∧ l ≤ 262144 := by
  obtain ⟨a, c, h1, h2, h3, h4⟩ := h
  have h5 := four_mul a (4 * c)
  have h6 : (a + 4 * c) * (a + 4 * c) ≤ 1048576 * 1048576 := Nat.mul_le_mul (by omega) (by omega)
  have h7 : a * (4 * c) = 4 * (c * a) := by rw [Nat.mul_left_comm, Nat.mul_comm a c]
  have h8 : c * (4 * a + 3) = 4 * (c * a) + 3 * c := by rw [Nat.mul_add, Nat.mul_left_comm, Nat.mul_comm c 3]
  refine ⟨by omega, by omega, by omega⟩
/-- What stands ahead of an act. -/
structure CI (w0 wr : World) (d j s m : Nat) (rs : List Rw) (g : Nat) (D : Dm) (ls : List (List Int)) (M : Jm) : Prop where
  pj : PJ wr d j s rs D g ls M
  solo : Solo (play rs) g (fmA ls)
  g1 : 1 ≤ g
  g2 : g ≤ 2147483647
  own : ∀ k, JF d j D M k → w0.heap.size ≤ k
  bel : Below w0.heap.size w0 wr
  bd : Bd m (wt rs) (fmA ls).length ls.length
/-- What an act leaves. -/
def Nx (w0 w w' : World) (d j s m : Nat) (rs : List Rw) (D : Dm) (ls : List (List Int)) (M : Jm) (ls' : List (List Int)) : Prop :=
  Chs (JF d j D M) w w' ∧ ∃ rs' g' D' M', CI w0 w' d j s m rs' g' D' ls' M' ∧ rs.length ≤ rs'.length ∧ ∀ q, rs.length ≤ q → q ≤ rs'.length → CrK (play (rs'.take q)) ls ls' (q = rs'.length)
section
variable {w0 wr w' : World} {d j s m : Nat} {rs : List Rw} {g : Nat} {D : Dm} {ls : List (List Int)} {M : Jm}
theorem CI.below (h : CI w0 wr d j s m rs g D ls M) (hb : Below wr.heap.size wr w') : CI w0 w' d j s m rs g D ls M := ⟨h.pj.below hb, h.solo, h.g1, h.g2, h.own, on_below h.bel hb, h.bd⟩
theorem CI.tt (h : CI w0 wr d j s m rs g D ls M) (ht : TT w0) : TT wr := ht.under h.bel ht.kt.lt ht.pt.lt
theorem CI.mono {m' : Nat} (h : CI w0 wr d j s m rs g D ls M) (hm : m ≤ m') : CI w0 wr d j s m' rs g D ls M := ⟨h.pj, h.solo, h.g1, h.g2, h.own, h.bel, h.bd.mono hm (Nat.le_refl _) (Nat.le_refl _) (Nat.le_refl _)⟩
theorem CI.stay {m' : Nat} (h : CI w0 wr d j s m rs g D ls M) (hm : m ≤ m') : Nx w0 wr wr d j s m' rs D ls M ls :=
  ⟨Chs.refl _ _, rs, g, D, M, h.mono hm, Nat.le_refl _, fun q h1 h2 => by
    have e : q = rs.length := by omega
    rw [e, List.take_length]
    exact crk_same h.solo h.g1 h.g2 h.pj.jn.byt _⟩
theorem CI.next {rs' : List Rw} {g' m' : Nat} {ls' : List (List Int)} (h : CI w0 wr d j s m rs g D ls M) (hr : JR wr w' d j s D M rs' g' ls') (hs : Solo (play rs') g' (fmA ls')) (h1 : 1 ≤ g') (h2 : g' ≤ 2147483647) (hb : Bd m' (wt rs') (fmA ls').length ls'.length) (hl : rs.length ≤ rs'.length) (hq : ∀ q, rs.length ≤ q → q ≤ rs'.length → CrK (play (rs'.take q)) ls ls' (q = rs'.length)) : Nx w0 wr w' d j s m' rs D ls M ls' := by
  obtain ⟨D', M', r1, r2, r3⟩ := hr
  refine ⟨r2, rs', g', D', M', ⟨r1, hs, h1, h2, fun k hk => ?_, ?_, hb⟩, hl, hq⟩
  · rcases r3 k hk with h5 | h5
    · exact h.own k h5
    · exact Nat.le_trans h.bel.size h5
  · exact h.bel.trans (r2.below (fun k hk hf => by have := h.own k hf; omega) h.bel.size)
end
theorem apS_len (s : Nat) (rs : List Rw) (n : ByteArray) (b : List Int) : rs.length ≤ (apS s rs n b).length := by
  unfold apS
  split
  · rw [List.length_append]; omega
  · exact Nat.le_refl _
theorem crS_len (rs : List Rw) (n : ByteArray) : rs.length ≤ (crS rs n).length := by
  unfold crS
  split
  · rw [List.length_append]; omega
  · exact Nat.le_refl _
theorem rmS_len (rs : List Rw) (n : ByteArray) : rs.length ≤ (rmS rs n).length := by
  unfold rmS
  split
  · rw [List.length_append]; omega
  · exact Nat.le_refl _
theorem clS_len (s : Nat) (rs : List Rw) (g : Nat) (b : List Int) : rs.length ≤ (clS s rs g b).length :=
  Nat.le_trans (crS_len _ _) (Nat.le_trans (apS_len _ _ _ _) (rmS_len _ _))
theorem wt_apS13 {s : Nat} (hs : 1 ≤ s) (rs : List Rw) (n : ByteArray) (b : List Int) : wt (apS s rs n b) ≤ wt rs + 2 * b.length + 1 := by
  unfold apS
  split
  · rw [wt_app]
    have := expd_wt hs ⟨rAp n b, rs.length, (fl (play rs) n).length⟩
    have e : (rAp n b).b = b := rfl
    simp only [e] at this
    omega
  · omega
section
variable (w0 wr : World) (d j s m : Nat) (rs : List Rw) (g : Nat) (D : Dm) (ls : List (List Int)) (M : Jm) (h : CI w0 wr d j s m rs g D ls M) (ht : TT w0)
include h ht
theorem jclear_ci (k : Int) (m' : Nat) (hm : m + 4 ≤ m') (hmm : m' ≤ 1048576) :
    Calls Tryz.prog 12 #[.pointer (some ⟨j, 0, none⟩), .int .i64 k] wr fun e w' => ∃ v ls', e = .returned (.int .i64 v) ∧ Nx w0 wr w' d j s m' rs D ls M ls' := by
  obtain ⟨b1, b2, b3⟩ := h.bd.out (by omega)
  by_cases hb : k < 0 ∨ (ls.length : Int) < k
  · refine (jclear_bad h.pj.jn k hb).mono ?_
    rintro e w' ⟨rfl, rfl⟩
    exact ⟨_, ls, rfl, h.stay (by omega)⟩
  by_cases h0 : k = 0
  · subst h0
    refine (jclear_0 h.pj.jn).mono ?_
    rintro e w' ⟨rfl, rfl⟩
    exact ⟨_, ls, rfl, h.stay (by omega)⟩
  obtain ⟨n, rfl⟩ : ∃ n : Nat, k = (n : Int) := ⟨k.toNat, by omega⟩
  have hn0 : 0 < n := by omega
  have hnl : n ≤ ls.length := by omega
  by_cases hg : g = 2147483647
  · refine (jclear_top h.pj.jn n hn0 hnl hg).mono ?_
    rintro e w' ⟨rfl, rfl⟩
    exact ⟨_, ls, rfl, h.stay (by omega)⟩
  have hg2 : g < 2147483647 := by have := h.g2; omega
  refine (jclear_ok d j s rs D g ls M wr h.pj (h.tt ht) (h.solo.gens h.g1 h.g2) hg2 n hn0 hnl (by omega) (by omega)).mono ?_
  rintro e w' ⟨rfl, hr⟩
  have hs1 := h.pj.dk.s1
  have hbyt := h.pj.jn.byt
  have hbyt' : ∀ p ∈ ls.drop n, isB p ∧ p.length ≤ 65535 := fun p hp => hbyt p (List.mem_of_mem_drop hp)
  have hB := fmA_isB (ls.drop n) (fun p hp => (hbyt' p hp).1)
  have hfl : (fmA (ls.drop n)).length ≤ (fmA ls).length := by
    have e : fmA ls = fmA (ls.take n) ++ fmA (ls.drop n) := by rw [← fmA_app, List.take_append_drop]
    rw [e, List.length_append]; omega
  refine ⟨_, _, rfl, h.next hr (h.solo.clear hs1 h.g1 hg2 hB) (by omega) (by omega) ?_ (clS_len _ _ _ _) (fun q q1 q2 => crk_clear hs1 h.solo h.g1 hg2 hbyt hbyt' q1 q2)⟩
  have hw := wt_clS hs1 rs g (fmA (ls.drop n))
  exact (h.bd.clear hfl (f' := (fmA (ls.drop n)).length) (l' := (ls.drop n).length) (by rw [List.length_drop]; omega)).mono hm (by omega) (Nat.le_refl _) (Nat.le_refl _)
theorem jadd_ci (a : Option Addr) (n c : Nat) (xs : List Int) (hx : Sl wr a n c xs) (hn : n ≤ 65535) (hoff : 0 < n → ∀ x, a = some x → ¬ D.own d x.block) (hmm : m + (n + 4) ≤ 1048576) :
    Calls Tryz.prog 14 #[.pointer (some ⟨j, 0, none⟩), .slice a n c] wr fun e w' => e = .returned (.int .i64 0) ∧ Nx w0 wr w' d j s (m + (n + 4)) rs D ls M (ls ++ [xs]) := by
  obtain ⟨b1, b2, b3⟩ := h.bd.out (by omega)
  refine (jadd_ok d j s rs D g ls M wr h.pj (h.tt ht) a n c xs hx hn h.g2 (h.solo.fE h.g2) (by omega) hoff (by omega)).mono ?_
  rintro e w' ⟨rfl, hr⟩
  have hs1 := h.pj.dk.s1
  have hxb : isB xs := hx.hbyte
  have hok : ∀ p ∈ ls ++ [xs], isB p ∧ p.length ≤ 65535 := fun p hp => by
    rcases List.mem_append.1 hp with hp | hp
    · exact h.pj.jn.byt p hp
    · have e : p = xs := by simpa using hp
      subst e
      exact ⟨hxb, by rw [hx.hlen]; exact hn⟩
  refine ⟨rfl, h.next hr (h.solo.add hs1 h.g2 hxb) h.g1 h.g2 ?_ (apS_len _ _ _ _) (fun q q1 q2 => crk_add hs1 h.solo h.g1 h.g2 hok q1 q2)⟩
  have hw := wt_apS13 hs1 rs (jN g) (fmB xs)
  have hl := fmB_length xs
  have hxl := hx.hlen
  have e1 : (fmA (ls ++ [xs])).length = (fmA ls).length + (8 + n) := by
    rw [fmA_app, List.length_append]
    have : fmA [xs] = fmB xs := by simp [fmA]
    rw [this, hl, hxl]
  exact (h.bd.add n).mono (Nat.le_refl _) (by omega) (by omega) (by simp)
end
/-- Behind an act: what was listed ahead of it still lies there. -/
theorem OwnV.nx {w0 w w' : World} {d j s m B : Nat} {rs : List Rw} {D : Dm} {ls ls' : List (List Int)} {M : Jm} {v : Value} {ns : List Value} (h : OwnV 9 w B v ns) (hf : ∀ k, JF d j D M k → k < B) (hn : Nx w0 w w' d j s m rs D ls M ls') : OwnV 9 w' B v ns :=
  h.same (fun k hk => hn.1.block k (h.lt k hk).2 (fun hj => by have h1 := hf k hj; have h2 := (h.lt k hk).1; omega))
theorem mod_cut13 (q : Int) (N : Nat) (hN : N ≤ 300000000000) : ∃ c : Nat, (wrap64 (q.tmod ((N + 1 : Nat) : Int) + ((N + 1 : Nat) : Int))).tmod ((N + 1 : Nat) : Int) = (c : Int) ∧ c ≤ N := by
  have h1 : q.tmod ((N + 1 : Nat) : Int) < ((N + 1 : Nat) : Int) := Int.tmod_lt_of_pos q (by omega)
  have h2 : -((N + 1 : Nat) : Int) < q.tmod ((N + 1 : Nat) : Int) := Int.lt_tmod_of_pos q (by omega)
  generalize q.tmod ((N + 1 : Nat) : Int) = r at *
  have h3 : wrap64 (r + ((N + 1 : Nat) : Int)) = r + ((N + 1 : Nat) : Int) := by unfold wrap64; omega
  rw [h3]
  have h4 : 0 ≤ (r + ((N + 1 : Nat) : Int)).tmod ((N + 1 : Nat) : Int) := Int.tmod_nonneg _ (by omega)
  have h5 : (r + ((N + 1 : Nat) : Int)).tmod ((N + 1 : Nat) : Int) < ((N + 1 : Nat) : Int) := Int.tmod_lt_of_pos _ (by omega)
  exact ⟨((r + ((N + 1 : Nat) : Int)).tmod ((N + 1 : Nat) : Int)).toNat, by omega, by omega⟩
theorem aj_at (b o n cap i : Nat) (hi : i < n) (v : World) : (Instr.indexAt 25 (.slice (some ⟨b, o, none⟩) n cap) (.int .i64 (i : Int))).run Tryz.prog v = .ok (.pointer (some ⟨b, o + i * 3, none⟩)) v := by
  have hu : Tryz.prog.underlying 25 = some (.slice (Tryz.prog.elem 25)) := by kernel_rfl
  have he : Tryz.prog.elem 25 = 41 := by kernel_rfl
  have hz : ∀ v : World, (sizeOf 41).run Tryz.prog v = .ok 3 v := fun _ => by kernel_rfl
  rw [run_indexAt_slice v _ _ _ _ .i64 i hu, if_pos ⟨by omega, by omega⟩, he, hz]
  simp only [Result.andThen_ok, Int.toNat_natCast]
  rw [Addr.add_lit]

end Go.Proofs.YtninkkdbcgadpaaGreatDoor

/-
  JournalCrashes: a disk behind a loss of power, beside what was there.
-/
namespace Go.Proofs.YtninkkdbcgadpaaGreatDoor
open Go.RowKit Go.Shelf
set_option linter.unusedVariables false
set_option linter.unusedSimpArgs false
set_option maxRecDepth 100000

theorem gens_new : Gens (play []) [] := ⟨List.Pairwise.nil, fun g => ⟨fun h => (by cases h), fun h => by
  have := h.2.2
  have e : play [] (jN g) = none := rfl
  rw [e] at this
  cases this⟩⟩
theorem files_new : ∀ l, FL (play []) l → l.length ≤ 1000000 := fun l hl => by
  cases l with
  | nil => simp
  | cons x r =>
    have h := (hl.mem x.1 x.2).2 (by simp)
    have e : play [] x.1 = none := rfl
    rw [e] at h
    cases h
theorem wt_new : wt (crS [] (jN 1)) ≤ 1 := by
  unfold crS
  split
  · rw [wt_app]; simp [wt, rCr]
  · simp [wt]
/-- The first journal on a new disk. -/
theorem CI.new {w w1 w2 : World} {d m j s : Nat} (hN : New0 w w1 d m (s : Int)) (ho : OpnR w1 w2 d j s ⟨m, .slice none 0 0, [], []⟩ (crS [] (jN 1)) 1 []) : ∃ D M, CI w w2 d j s 0 (crS [] (jN 1)) 1 D [] M := by
  obtain ⟨D, M, h1, h2, h3, h4, h5⟩ := ho
  refine ⟨D, M, h1, Solo.new, by omega, by omega, fun k hk => ?_, ?_, ?_⟩
  · rcases h5 k hk with (h | h) | h
    · exact hN.own k h
    · obtain ⟨x, hx, _⟩ := h
      cases hx
    · exact Nat.le_trans hN.bel.size h
  · exact hN.bel.trans (h2.below (fun k hk hf => by have := hN.own k hf; omega) hN.bel.size)
  · exact Bd.zero.mono (Nat.le_refl _) wt_new (by simp [fmA]) (by simp)
/-- The disk behind a loss of power: all its own memory is new. -/
structure CZ (w5 wz : World) (o s : Nat) (R : List Rw) (D : Dm) : Prop where
  dk : DkAt wz o s R D
  bel : Below w5.heap.size w5 wz
  own : ∀ k, D.own o k → w5.heap.size ≤ k
theorem CZ.below {w5 wz w' : World} {o s : Nat} {R : List Rw} {D : Dm} (h : CZ w5 wz o s R D) (hb : Below wz.heap.size wz w') : CZ w5 w' o s R D := ⟨h.dk.below hb, on_below h.bel hb, h.own⟩
theorem CZ.tt {w w5 wz : World} {o s : Nat} {R : List Rw} {D : Dm} (h : CZ w5 wz o s R D) (ht : TT w) (hb : Below w.heap.size w w5) : TT wz := ht.under (on_below hb h.bel) ht.kt.lt ht.pt.lt
theorem CZ.after {w w' : World} {o s : Nat} {D Do : Dm} {R : List Rw} (h : AfR w w' o s D R Do) : CZ w w' o s R Do := ⟨h.dk, h.bel, h.own⟩
theorem reopen_cz {w w5 wz : World} {o s : Nat} {R : List Rw} {D : Dm} (h : CZ w5 wz o s R D) (ht : TT w) (hb : Below w.heap.size w w5) (g : Nat) (t : List Nat) (ps : List (List Int)) (c : Nat) (hc : Crs (play R) g t ps c) (hps : (fmA ps).length ≤ 8000000) (hwt : wt R ≤ 1000000000000) :
    Calls Tryz.prog 8 #[.pointer (some ⟨o, 0, none⟩)] wz fun e w' => ∃ j K R' D' M', e = .returned (.tuple #[.pointer (some ⟨j, 0, none⟩), .int .i64 0]) ∧ K ≤ ps.length ∧ qL ps K ≤ c ∧ (K = ps.length ∨ c < qL ps (K + 1)) ∧ CZ w5 w' o s R' D' ∧ JnAt w' j o g (ps.take K) M' ∧ Solo (play R') g (fmA (ps.take K)) ∧ wt R' ≤ wt R + 2 ∧ (t = [] → c = (fmA ps).length → R' = R) ∧ Chs (D.own o) wz w' := by
  refine (reopen_any o s R D wz h.dk (h.tt ht hb) (fun W hW => ?_) g t ps c hc hps hwt).mono ?_
  · have h1 : Below w5.heap.size w5 W := h.bel.trans (hW.below (fun k hk hf => by have := h.own k hf; omega) h.bel.size)
    exact ht.under (on_below hb h1) ht.kt.lt ht.pt.lt
  · rintro e w' ⟨j, K, R', rfl, k1, k2, k3, ⟨D', M', p1, p2, p3, p4, p5⟩, k5, k6, k7⟩
    refine ⟨j, K, R', D', M', rfl, k1, k2, k3, ⟨p1.dk, ?_, fun k hk => ?_⟩, p1.jn, k5, k6, k7, p2⟩
    · exact h.bel.trans (p2.below (fun k hk hf => by have := h.own k hf; omega) h.bel.size)
    · rcases p4 k hk with hk | hk
      · exact h.own k hk
      · exact Nat.le_trans h.bel.size hk
theorem OwnV.over {w5 wz w' : World} {o s B : Nat} {R : List Rw} {D : Dm} {v : Value} {ns : List Value} (h : OwnV 9 w' B v ns) {wy : World} (hz : CZ w5 wz o s R D) (hB : wz.heap.size ≤ B) (hc : Chs (D.own o) w' wy) : OwnV 9 wy B v ns :=
  h.same (fun k hk => hc.block k (h.lt k hk).2 (fun hj => by have h1 := hz.dk.lt (.inl hj); have h2 := (h.lt k hk).1; omega))
theorem sec_ok (sec : Int) : ∃ s : Nat, wrap64 (1 + (wrap64 (sec.tmod 64 + 64)).tmod 64) = (s : Int) ∧ 1 ≤ s ∧ s ≤ 64 := by
  obtain ⟨c, h1, h2⟩ := mod_cut13 sec 63 (by omega)
  have e : ((63 + 1 : Nat) : Int) = 64 := rfl
  rw [e] at h1
  rw [h1]
  exact ⟨c + 1, by unfold wrap64; omega, by omega, by omega⟩

end Go.Proofs.YtninkkdbcgadpaaGreatDoor

/-
  Append of acts; two journals beside each other.
-/
namespace Go.Proofs.YtninkkdbcgadpaaGreatDoor
open Go.RowKit Go.Shelf
set_option linter.unusedVariables false
set_option linter.unusedSimpArgs false
set_option maxRecDepth 100000

/-- Acts, as cells. -/
def ajC (L : List Aj) : List Value := (L.map Aj.cells).flatten
theorem ajC_app (L M : List Aj) : ajC (L ++ M) = ajC L ++ ajC M := by simp [ajC]
theorem ajC_length (L : List Aj) : (ajC L).length = L.length * 3 := by
  induction L with
  | nil => rfl
  | cons x r ih => simp only [ajC, List.map_cons, List.flatten_cons, List.length_append] at ih ⊢; rw [ih]; simp [Aj.cells]; omega
theorem ajC_get (L : List Aj) : ∀ (i j : Nat) (x : Aj) (v : Value), L[i]? = some x → x.cells[j]? = some v → (ajC L)[i * 3 + j]? = some v := by
  induction L with
  | nil => intro i j x v h; simp at h
  | cons y r ih =>
    intro i j x v h hv
    have e : ajC (y :: r) = y.cells ++ ajC r := by simp [ajC]
    rw [e]
    have hj : j < 3 := by
      have := (List.getElem?_eq_some_iff.1 hv).1
      simpa [Aj.cells] using this
    cases i with
    | zero =>
      have hx : y = x := by simpa using h
      subst hx
      rw [List.getElem?_append_left (by simp [Aj.cells]; omega)]
      simpa using hv
    | succ i =>
      rw [List.getElem?_append_right (by simp [Aj.cells]; omega)]
      have e2 : (i + 1) * 3 + j - y.cells.length = i * 3 + j := by simp [Aj.cells]; omega
      rw [e2]
      exact ih i j x v (by simpa using h) hv
theorem ajC_back (L : List Aj) (p : Nat) (v : Value) (h : (ajC L)[p]? = some v) : ∃ x, L[p / 3]? = some x ∧ x.cells[p % 3]? = some v := by
  have hp : p < L.length * 3 := by
    have := (List.getElem?_eq_some_iff.1 h).1
    rwa [ajC_length] at this
  have hi : p / 3 < L.length := by omega
  have hj : p % 3 < 3 := by omega
  refine ⟨L[p / 3], List.getElem?_eq_getElem hi, ?_⟩
  have hl : p % 3 < (L[p / 3]).cells.length := by simp [Aj.cells]; omega
  have := ajC_get L (p / 3) (p % 3) _ _ (List.getElem?_eq_getElem hi) (List.getElem?_eq_getElem hl)
  have e : p / 3 * 3 + p % 3 = p := by omega
  rw [e, h] at this
  rw [List.getElem?_eq_getElem hl]
  exact this.symm
theorem ajC_one (L : List Aj) : ∀ u ∈ ajC L, u.oneCell' = true := fun u hu => by
  obtain ⟨l, hl, hul⟩ := List.mem_flatten.1 hu
  obtain ⟨x, _, rfl⟩ := List.mem_map.1 hl
  exact x.one u hul
theorem roJ : Ro 25 41 3 40 (.agg #[.bool false, .int .i64 0, .slice none 0 0]) := ⟨by kernel_rfl, by kernel_rfl, by kernel_rfl, rfl, by decide, by decide, fun _ => by kernel_rfl⟩
/-- Append of the acts of an argument. -/
theorem run_appJ {w : World} {B : Nat} {v : Value} {n : Nat} {xs : List Value} {a : Option Addr} {len cap : Nat} {L : List Aj} (hown : w.ownsRow B 41 3 v n xs) (hA : Ajs w a len cap L) (hlen : n ≤ 1048576) (hB : B ≤ w.heap.size) (ty : TypeId) :
    ∃ v' w', (Builtin.append_ #[25, 25] ty #[v, .slice a len cap]).run Tryz.prog w = .ok v' w' ∧ w'.ownsRow B 41 3 v' (n + len) (xs ++ ajC L) ∧ w.grownBy w' v.ownBlock ∧ (v'.ownBlock = v.ownBlock ∨ v'.ownBlock = some w.heap.size) := by
  by_cases h0 : len = 0
  · subst h0
    have hL : L = [] := List.eq_nil_of_length_eq_zero hA.hlen
    subst hL
    exact run_appV roJ (u := .slice a 0 cap) (m := 0) (ys := []) hown ⟨rfl, a, cap, rfl, Nat.zero_le _, fun h => absurd rfl h⟩ (fun _ h => by cases h) (by omega) hB ty
  · obtain ⟨i0, hi, hz0, hz1, hz2⟩ := info_parts roJ.info
    have hll : len ≤ 1048576 := by have h1 := len_jbulk L; have h2 := hA.hsum; have h3 := hA.hlen; omega
    obtain ⟨x0, hx0⟩ : ∃ x, L[0]? = some x := ⟨_, List.getElem?_eq_getElem (by rw [hA.hlen]; omega)⟩
    obtain ⟨b, off, rfl, _⟩ := hA.hcell 0 x0 hx0
    obtain ⟨v', w', hr, ho, hg, _, hat'⟩ := run_append_own_at (P := Tryz.prog) w B 25 ty 41 i0 _ 3 40 roJ.und hi hz0 hz1 hz2 roJ.zs roJ.q0 v _ _ hown ⟨b, off, none⟩ len cap (ajC L) (by rw [ajC_length, hA.hlen]) (fun p u hu => by
      obtain ⟨x, hx, hc⟩ := ajC_back L p u hu
      obtain ⟨b', off', e, hr⟩ := hA.hcell _ x hx
      cases e
      have := hr _ _ hc
      rw [Addr.add_lit]
      have e2 : off + p / 3 * 3 + p % 3 = off + p := by omega
      rw [e2] at this
      exact this) (ajC_one L) (by unfold maxLen; omega) (by omega) hB
    exact ⟨v', w', hr, ho, hg, hat'⟩
section
variable {dst : Option Tmp} {ty : TypeId} {pos : String} {aft : Array Edge} {gd : Option (Nat × Bool)} {ops : Array Oper} {rest : List Oper} {a : Act} {w : World} {Q : Exit → Act → World → Prop}
theorem step_appJ {s x : Operand} (hw : Region.wanted ⟨dst, .call { callee := .builtin .append, args := #[s, x], argTypes := #[25, 25] }, ty, pos, aft, gd⟩ (yielded ops a.tmps) = true) {B : Nat} {v : Value} {n : Nat} {xs : List Value} {ar : Option Addr} {len cap : Nat} {L : List Aj}
    (hs : a.eval s = v) (hx : a.eval x = .slice ar len cap) (hown : w.ownsRow B 41 3 v n xs) (hA : Ajs w ar len cap L) (hlen : n ≤ 1048576) (hB : B ≤ w.heap.size)
    (h : ∀ v' w', w'.ownsRow B 41 3 v' (n + len) (xs ++ ajC L) → w.grownBy w' v.ownBlock → (v'.ownBlock = v.ownBlock ∨ v'.ownBlock = some w.heap.size) → wpList Tryz.prog ops Q rest (a.put dst v') w') :
    wpList Tryz.prog ops Q (⟨dst, .call { callee := .builtin .append, args := #[s, x], argTypes := #[25, 25] }, ty, pos, aft, gd⟩ :: rest) a w := by
  obtain ⟨v', w', hr, h2, h3, h4⟩ := run_appJ hown hA hlen hB ty
  refine step_run hw v' w' ?_ (h v' w' h2 h3 h4)
  unfold execOp
  simp only [resolve, invoke, builtin, Sem.run_bind, Sem.run_pure, Result.andThen_ok, List.map_toArray, List.map_cons, List.map_nil, hs, hx, hr]
end
/-- A cell of a row of acts. -/
theorem row_aj {w : World} {B n : Nat} {a : Option Addr} {n' c : Nat} {L : List Aj} (h : w.ownsRow B 41 3 (.slice a n' c) n (ajC L)) (i : Nat) (x : Aj) (hx : L[i]? = some x) : ∃ g, a = some ⟨g, 0, none⟩ ∧ B ≤ g ∧ n' = n ∧ w.rangeAt g (i * 3) x.cells := by
  obtain ⟨h1, h2⟩ := h
  have hi := (List.getElem?_eq_some_iff.1 hx).1
  rw [ajC_length] at h1
  rcases h2 with ⟨_, rfl⟩ | ⟨g, cap, cur, e, hg, hh, _, _, _, hc⟩
  · omega
  · injection e with e1 e2 e3
    refine ⟨g, e1, hg, e2, fun j v hv => ?_⟩
    have h3 := ajC_get L i j x v hx hv
    have hb : Blk w g 41 cur.toList := by unfold Blk; simpa using hh
    rw [hb.cell]
    rw [← hc, List.getElem?_take] at h3
    split at h3
    · exact h3
    · cases h3
/-- The one journal and the other, over disks with the same raw writes. -/
structure GO (w0 wr : World) (d j o q s m : Nat) (rs : List Rw) (g : Nat) (D : Dm) (ls : List (List Int)) (M : Jm) (D2 : Dm) (M2 : Jm) (wl : World) (gl : Option Nat) : Prop where
  c1 : CI w0 wr d j s m rs g D ls M
  c2 : CI w0 wr o q s m rs g D2 ls M2
  ap : ∀ k, JF d j D M k → ¬ JF o q D2 M2 k
  nl : ∀ k, gl = some k → k < wr.heap.size ∧ ¬ JF d j D M k ∧ ¬ JF o q D2 M2 k
  lk : ∀ k, gl = some k → wr.heap[k]? = wl.heap[k]?
/-- What a call of the one leaves. -/
def NY (w0 w w' : World) (d j s m : Nat) (D : Dm) (M : Jm) (rs' : List Rw) (g' : Nat) (ls' : List (List Int)) : Prop :=
  ∃ D' M', CI w0 w' d j s m rs' g' D' ls' M' ∧ Chs (JF d j D M) w w' ∧ ∀ k, JF d j D' M' k → JF d j D M k ∨ w.heap.size ≤ k
section
variable {w0 wr w' : World} {d j s m : Nat} {rs : List Rw} {g : Nat} {D : Dm} {ls : List (List Int)} {M : Jm}
theorem CI.stayY {m' : Nat} (h : CI w0 wr d j s m rs g D ls M) (hm : m ≤ m') : NY w0 wr wr d j s m' D M rs g ls := ⟨D, M, h.mono hm, Chs.refl _ _, fun k hk => .inl hk⟩
theorem CI.nextY {rs' : List Rw} {g' m' : Nat} {ls' : List (List Int)} (h : CI w0 wr d j s m rs g D ls M) (hr : JR wr w' d j s D M rs' g' ls') (hs : Solo (play rs') g' (fmA ls')) (h1 : 1 ≤ g') (h2 : g' ≤ 2147483647) (hb : Bd m' (wt rs') (fmA ls').length ls'.length) : NY w0 wr w' d j s m' D M rs' g' ls' := by
  obtain ⟨D', M', r1, r2, r3⟩ := hr
  refine ⟨D', M', ⟨r1, hs, h1, h2, fun k hk => ?_, ?_, hb⟩, r2, r3⟩
  · rcases r3 k hk with h5 | h5
    · exact h.own k h5
    · exact Nat.le_trans h.bel.size h5
  · exact h.bel.trans (r2.below (fun k hk hf => by have := h.own k hf; omega) h.bel.size)
theorem CI.chs {S : Nat → Prop} (h : CI w0 wr d j s m rs g D ls M) (hc : Chs S wr w') (hn : ∀ k, JF d j D M k → ¬ S k) (hS : ∀ k, k < w0.heap.size → ¬ S k) : CI w0 w' d j s m rs g D ls M :=
  ⟨h.pj.chs hc hn, h.solo, h.g1, h.g2, h.own, h.bel.trans (hc.below hS h.bel.size), h.bd⟩
end
/-- One call on each of two journals, one behind the other. -/
theorem GO.both {w0 w wa wb : World} {d j o q s m m' : Nat} {rs rs' : List Rw} {g g' : Nat} {D D2 : Dm} {ls ls' : List (List Int)} {M M2 : Jm} {wl : World} {gl : Option Nat} (h : GO w0 w d j o q s m rs g D ls M D2 M2 wl gl) (h1 : NY w0 w wa d j s m' D M rs' g' ls') (h2 : NY w0 wa wb o q s m' D2 M2 rs' g' ls') :
    ∃ D' M' D2' M2', GO w0 wb d j o q s m' rs' g' D' ls' M' D2' M2' wl gl := by
  obtain ⟨D', M', a1, a2, a3⟩ := h1
  obtain ⟨D2', M2', b1, b2, b3⟩ := h2
  have hsz := a2.size
  have hsz2 := b2.size
  have hap : ∀ k, JF d j D' M' k → ¬ JF o q D2 M2 k := fun k hk h2 => by
    rcases a3 k hk with h3 | h3
    · exact h.ap k h3 h2
    · have := h.c2.pj.lt h2; omega
  refine ⟨D', M', D2', M2', a1.chs b2 hap (fun k hk hf => by have := h.c2.own k hf; omega), b1, fun k hk h2 => ?_, fun k hk => ?_, fun k hk => ?_⟩
  · rcases b3 k h2 with h3 | h3
    · exact hap k hk h3
    · have := a1.pj.lt hk; omega
  · obtain ⟨n1, n2, n3⟩ := h.nl k hk
    refine ⟨by omega, fun h4 => ?_, fun h4 => ?_⟩
    · rcases a3 k h4 with h5 | h5
      · exact n2 h5
      · omega
    · rcases b3 k h4 with h5 | h5
      · exact n3 h5
      · omega
  · obtain ⟨n1, n2, n3⟩ := h.nl k hk
    rw [b2.block k (by omega) n3, a2.block k n1 n2]
    exact h.lk k hk
theorem GO.one {w0 w wa : World} {d j o q s m m' : Nat} {rs rs' : List Rw} {g g' : Nat} {D D2 : Dm} {ls ls' : List (List Int)} {M M2 : Jm} {wl : World} {gl : Option Nat} (h : GO w0 w d j o q s m rs g D ls M D2 M2 wl gl) (h1 : NY w0 w wa d j s m' D M rs' g' ls') : CI w0 wa o q s m rs g D2 ls M2 := by
  obtain ⟨D', M', a1, a2, a3⟩ := h1
  exact h.c2.chs a2 (fun k hk hf => h.ap k hf hk) (fun k hk hf => by have := h.c1.own k hf; omega)
theorem GO.below {w0 w w' : World} {d j o q s m : Nat} {rs : List Rw} {g : Nat} {D D2 : Dm} {ls : List (List Int)} {M M2 : Jm} {wl : World} {gl : Option Nat} (h : GO w0 w d j o q s m rs g D ls M D2 M2 wl gl) (hb : Below w.heap.size w w') : GO w0 w' d j o q s m rs g D ls M D2 M2 wl gl :=
  ⟨h.c1.below hb, h.c2.below hb, h.ap, fun k hk => ⟨Nat.lt_of_lt_of_le (h.nl k hk).1 hb.size, (h.nl k hk).2⟩, fun k hk => by rw [hb.block k (h.nl k hk).1]; exact h.lk k hk⟩
/-- Where a row was laid. -/
theorem GO.lay {w0 w w' : World} {d j o q s m : Nat} {rs : List Rw} {g : Nat} {D D2 : Dm} {ls : List (List Int)} {M M2 : Jm} {wl : World} {gl gl' : Option Nat} (h : GO w0 w d j o q s m rs g D ls M D2 M2 wl gl) (hb : Below w.heap.size w w') (hl : ∀ k, gl' = some k → w.heap.size ≤ k ∧ k < w'.heap.size) : GO w0 w' d j o q s m rs g D ls M D2 M2 w' gl' :=
  ⟨h.c1.below hb, h.c2.below hb, h.ap, fun k hk => ⟨(hl k hk).2, fun h4 => by have h1 := (hl k hk).1; have h2 := h.c1.pj.lt h4; omega, fun h4 => by have h1 := (hl k hk).1; have h2 := h.c2.pj.lt h4; omega⟩, fun k hk => rfl⟩

end Go.Proofs.YtninkkdbcgadpaaGreatDoor

/-
  JournalGoes: an act on either journal; the other opened again.
-/
namespace Go.Proofs.YtninkkdbcgadpaaGreatDoor
open Go.RowKit Go.Shelf
set_option linter.unusedVariables false
set_option linter.unusedSimpArgs false
set_option maxRecDepth 100000

section
variable {w0 W0 : World} {d0 j0 s m : Nat} {rs : List Rw} {g : Nat} {D0 : Dm} {ls : List (List Int)} {M0 : Jm} (h0 : CI w0 W0 d0 j0 s m rs g D0 ls M0) (ht : TT w0)
include h0 ht
theorem clear_go (k : Int) (m' : Nat) (hm : m + 4 ≤ m') (hmm : m' ≤ 1048576) :
    ∃ E rs' g' ls', ∀ W d j D M, CI w0 W d j s m rs g D ls M → Calls Tryz.prog 12 #[.pointer (some ⟨j, 0, none⟩), .int .i64 k] W fun e w' => e = .returned (.int .i64 E) ∧ NY w0 W w' d j s m' D M rs' g' ls' := by
  obtain ⟨b1, b2, b3⟩ := h0.bd.out (by omega)
  by_cases hb : k < 0 ∨ (ls.length : Int) < k
  · refine ⟨2, rs, g, ls, fun W d j D M h => (jclear_bad h.pj.jn k hb).mono ?_⟩
    rintro e w' ⟨rfl, rfl⟩
    exact ⟨rfl, h.stayY (by omega)⟩
  by_cases hk0 : k = 0
  · subst hk0
    refine ⟨0, rs, g, ls, fun W d j D M h => (jclear_0 h.pj.jn).mono ?_⟩
    rintro e w' ⟨rfl, rfl⟩
    exact ⟨rfl, h.stayY (by omega)⟩
  obtain ⟨n, rfl⟩ : ∃ n : Nat, k = (n : Int) := ⟨k.toNat, by omega⟩
  have hn0 : 0 < n := by omega
  have hnl : n ≤ ls.length := by omega
  by_cases hg : g = 2147483647
  · refine ⟨3, rs, g, ls, fun W d j D M h => (jclear_top h.pj.jn n hn0 hnl hg).mono ?_⟩
    rintro e w' ⟨rfl, rfl⟩
    exact ⟨rfl, h.stayY (by omega)⟩
  have hg2 : g < 2147483647 := by have := h0.g2; omega
  refine ⟨0, clS s rs g (fmA (ls.drop n)), g + 1, ls.drop n, fun W d j D M h => (jclear_ok d j s rs D g ls M W h.pj (h.tt ht) (h.solo.gens h.g1 h.g2) hg2 n hn0 hnl (by omega) (by omega)).mono ?_⟩
  rintro e w' ⟨rfl, hr⟩
  have hs1 := h.pj.dk.s1
  have hbyt := h.pj.jn.byt
  have hbyt' : ∀ p ∈ ls.drop n, isB p ∧ p.length ≤ 65535 := fun p hp => hbyt p (List.mem_of_mem_drop hp)
  have hB := fmA_isB (ls.drop n) (fun p hp => (hbyt' p hp).1)
  have hfl : (fmA (ls.drop n)).length ≤ (fmA ls).length := by
    have e : fmA ls = fmA (ls.take n) ++ fmA (ls.drop n) := by rw [← fmA_app, List.take_append_drop]
    rw [e, List.length_append]; omega
  refine ⟨rfl, h.nextY hr (h.solo.clear hs1 h.g1 hg2 hB) (by omega) (by omega) ?_⟩
  have hw := wt_clS hs1 rs g (fmA (ls.drop n))
  exact (h.bd.clear hfl (f' := (fmA (ls.drop n)).length) (l' := (ls.drop n).length) (by rw [List.length_drop]; omega)).mono hm (by omega) (Nat.le_refl _) (Nat.le_refl _)
theorem add_go (a : Option Addr) (n c : Nat) (xs : List Int) (hx : Sl w0 a n c xs) (hmm : m + (n + 4) ≤ 1048576) :
    ∃ E rs' g' ls', ∀ W d j D M, CI w0 W d j s m rs g D ls M → Calls Tryz.prog 14 #[.pointer (some ⟨j, 0, none⟩), .slice a n c] W fun e w' => e = .returned (.int .i64 E) ∧ NY w0 W w' d j s (m + (n + 4)) D M rs' g' ls' := by
  obtain ⟨b1, b2, b3⟩ := h0.bd.out (by omega)
  by_cases hn : n ≤ 65535
  · refine ⟨0, apS s rs (jN g) (fmB xs), g, ls ++ [xs], fun W d j D M h => (jadd_ok d j s rs D g ls M W h.pj (h.tt ht) a n c xs (hx.below h.bel) hn h.g2 (h.solo.fE h.g2) (by omega) (fun hp y hy hd => ?_) (by omega)).mono ?_⟩
    · obtain ⟨b, o, e, hc⟩ := hx.hcell hp
      have hb : y.block = b := by rw [hy] at e; cases e; rfl
      have h1 := World.block_lt_of_cell? w0 _ (hc 0 hp)
      have h2 := h.own y.block (.inl hd)
      rw [hb] at h2
      exact absurd h1 (by simp only [Nat.not_lt]; exact h2)
    · rintro e w' ⟨rfl, hr⟩
      have hs1 := h.pj.dk.s1
      have hxb : isB xs := hx.hbyte
      refine ⟨rfl, h.nextY hr (h.solo.add hs1 h.g2 hxb) h.g1 h.g2 ?_⟩
      have hw := wt_apS13 hs1 rs (jN g) (fmB xs)
      have hl := fmB_length xs
      have hxl := hx.hlen
      have e1 : (fmA (ls ++ [xs])).length = (fmA ls).length + (8 + n) := by
        rw [fmA_app, List.length_append]
        have : fmA [xs] = fmB xs := by simp [fmA]
        rw [this, hl, hxl]
      exact (h.bd.add n).mono (Nat.le_refl _) (by omega) (by omega) (by simp)
  · refine ⟨3, rs, g, ls, fun W d j D M h => (jadd_big h.pj.jn a n c (by omega)).mono ?_⟩
    rintro e w' ⟨rfl, rfl⟩
    exact ⟨rfl, h.stayY (by omega)⟩
end
theorem go_reopen {w0 w : World} {d j o q s m : Nat} {rs : List Rw} {g : Nat} {D D2 : Dm} {ls : List (List Int)} {M M2 : Jm} {wl : World} {gl : Option Nat} (h : GO w0 w d j o q s m rs g D ls M D2 M2 wl gl) (ht : TT w0) (hm : m ≤ 1048576) :
    Calls Tryz.prog 8 #[.pointer (some ⟨o, 0, none⟩)] w fun e w' => ∃ q' D2' M2', e = .returned (.tuple #[.pointer (some ⟨q', 0, none⟩), .int .i64 0]) ∧ GO w0 w' d j o q' s m rs g D ls M D2' M2' wl gl := by
  obtain ⟨b1, b2, b3⟩ := h.c2.bd.out hm
  have hS : ∀ k, k < w0.heap.size → ¬ D2.own o k := fun k hk hf => by have := h.c2.own k (.inl hf); omega
  refine (reopen_any o s rs D2 w h.c2.pj.dk (h.c2.tt ht) (fun W hW => ht.under (h.c2.bel.trans (hW.below hS h.c2.bel.size)) ht.kt.lt ht.pt.lt) g [] ls _ (h.c2.solo.crs h.c2.g1 h.c2.g2 h.c2.pj.jn.byt) (by omega) (by omega)).mono ?_
  rintro e w' ⟨q', K, R', rfl, k1, k2, k3, ⟨D', M', p1, p2, p3, p4, p5⟩, k5, k6, k7⟩
  obtain rfl := k7 rfl rfl
  have hK := full_K k1 k3
  rw [hK, List.take_length] at p1 k5
  have hsz := p2.size
  refine ⟨q', D', M', rfl, h.c1.chs p2 (fun k hk hf => h.ap k hk (.inl hf)) hS, ⟨p1, k5, h.c2.g1, h.c2.g2, fun k hk => ?_, h.c2.bel.trans (p2.below hS h.c2.bel.size), h.c2.bd⟩, fun k hk h2 => ?_, fun k hk => ?_, fun k hk => ?_⟩
  · rcases p5 k hk with (h5 | h5) | h5
    · exact h.c2.own k (.inl h5)
    · exact h.c2.own k (.inr (.inl h5))
    · exact Nat.le_trans h.c2.bel.size h5
  · rcases p5 k h2 with (h5 | h5) | h5
    · exact h.ap k hk (.inl h5)
    · exact h.ap k hk (.inr (.inl h5))
    · have := h.c1.pj.lt hk; omega
  · obtain ⟨n1, n2, n3⟩ := h.nl k hk
    refine ⟨by omega, n2, fun h4 => ?_⟩
    rcases p5 k h4 with (h5 | h5) | h5
    · exact n3 (.inl h5)
    · exact n3 (.inr (.inl h5))
    · omega
  · obtain ⟨n1, n2, n3⟩ := h.nl k hk
    rw [p2.block k n1 (fun hf => n3 (.inl hf))]
    exact h.lk k hk
/-- The two of the start. -/
theorem GO.new {w w1 w2 w3 w4 : World} {d m j o m2 q s : Nat} (hN : New0 w w1 d m (s : Int)) (ho : OpnR w1 w2 d j s ⟨m, .slice none 0 0, [], []⟩ (crS [] (jN 1)) 1 []) (hN2 : New0 w2 w3 o m2 (s : Int)) (ho2 : OpnR w3 w4 o q s ⟨m2, .slice none 0 0, [], []⟩ (crS [] (jN 1)) 1 []) : ∃ D M D2 M2, GO w w4 d j o q s 0 (crS [] (jN 1)) 1 D [] M D2 M2 w none := by
  obtain ⟨D, M, h1⟩ := CI.new hN ho
  obtain ⟨D2, M2, h2⟩ := CI.new hN2 ho2
  have hs2 := h1.bel.size
  refine ⟨D, M, D2, M2, h1.below h2.bel, ⟨h2.pj, h2.solo, h2.g1, h2.g2, fun k hk => Nat.le_trans hs2 (h2.own k hk), on_below h1.bel h2.bel, h2.bd⟩, fun k hk hk2 => ?_, (fun k hk => by cases hk), (fun k hk => by cases hk)⟩
  have := h1.pj.lt hk
  have := h2.own k hk2
  omega

end Go.Proofs.YtninkkdbcgadpaaGreatDoor

/-
  The walk of JournalGoes.
-/
namespace Go.Proofs.YtninkkdbcgadpaaGreatDoor
open Go.RowKit Go.Shelf
set_option linter.unusedVariables false
set_option linter.unusedSimpArgs false

theorem own_sl2 {w : World} {B : Nat} {v : Value} {ls : List (List Int)} (h : OwnV 9 w B v (lsC ls)) : ∃ a c, v = .slice a ls.length c := by
  obtain ⟨a, c, e⟩ := h.slice
  rw [lsC_length] at e
  exact ⟨a, c, e⟩
theorem row_new (w : World) : (w.alloc (.cells #[] 41)).ownsRow w.heap.size 41 3 (.slice (some ⟨w.heap.size, 0, none⟩) 0 0) 0 [] := by
  refine ⟨rfl, .inr ⟨w.heap.size, 0, #[], rfl, Nat.le_refl _, ?_, Nat.le_refl _, by unfold maxLen; omega, rfl, rfl⟩⟩
  have := Blk.made w 41 []
  unfold Blk at this
  simpa using this
set_option maxRecDepth 100000 in
set_option maxHeartbeats 4000000 in
theorem jgoes_walk (a1 : Option Addr) (n1 c1 : Nat) (L1 : List Aj) (a2 : Option Addr) (n2 c2 : Nat) (L2 : List Aj) (w : World) (hL1 : Ajs w a1 n1 c1 L1) (hL2 : Ajs w a2 n2 c2 L2) (hsum : jbulk L1 + jbulk L2 ≤ 1048576) (ht : TT w) :
    Calls Tryz.prog 6 #[.slice a1 n1 c1, .slice a2 n2 c2] w fun e w' => e = .returned (.bool true) ∧ Below w.heap.size w w' := by
  have H1 := hide hL1
  have H2 := hide hL2
  have HT := hide ht
  have HSM := hide hsum
  clear hL1 hL2 ht hsum
  obtain ⟨s, HS⟩ : ∃ s : Nat, Hid (s = 16) := ⟨16, hide rfl⟩
  go_enter Tryz.func6, Tryz.ntmps6
  go_wp2_with fail
  refine (new_ok 16 _ (by decide) (by decide)).mono ?_
  rintro e w1 ⟨d, m, rfl, hN⟩
  have HN : Hid (New0 w w1 d m (s : Int)) := hide (by rw [HS.out]; exact hN)
  clear hN
  go_wp2_with fail
  refine (jopen_new d s [] _ w1 (HN.out.dkAt (by have := HS.out; omega) (by have := HS.out; omega)) (HT.out.on HN.out.bel) gens_new files_new (by simp [wt])).mono ?_
  rintro e w2 ⟨j, rfl, ho⟩
  have HO := hide ho
  have BB2 : Hid (Below w.heap.size w w2) := hide (by obtain ⟨D0, M0, hc⟩ := CI.new HN.out ho; exact hc.bel)
  clear ho
  go_wp2_with fail
  refine (new_ok 16 _ (by decide) (by decide)).mono ?_
  rintro e w3 ⟨o, m2, rfl, hN2⟩
  have HN2 : Hid (New0 w2 w3 o m2 (s : Int)) := hide (by rw [HS.out]; exact hN2)
  clear hN2
  go_wp2_with fail
  refine (jopen_new o s [] _ w3 (HN2.out.dkAt (by have := HS.out; omega) (by have := HS.out; omega)) (HT.out.on (on_below BB2.out HN2.out.bel)) gens_new files_new (by simp [wt])).mono ?_
  rintro e w4 ⟨q, rfl, ho2⟩
  obtain ⟨D0, M0, E0, F0, hgo⟩ := GO.new HN.out HO.out HN2.out ho2
  have G4 := hide hgo
  clear hgo ho2 HN HO HN2 BB2
  have R0 := hide (row_new w4)
  have B5 : Hid (Below w4.heap.size w4 (w4.alloc (.cells #[] 41))) := hide ((Below.refl _ _).alloc (Nat.le_refl _) _)
  have A5 := hide (H1.out.below (on_below G4.out.c1.bel B5.out))
  go_wp2_with (refine step_appJ rfl rfl rfl R0.out A5.out (by omega) B5.out.size ?_)
  intro v6 w6 hr6 hg6 _
  have R6 := hide hr6
  have hg6' : (w4.alloc (.cells #[] 41)).grownBy w6 (Value.slice (some ⟨w4.heap.size, 0, none⟩) 0 0).ownBlock := hg6
  have B6 := hide (B5.out.trans (Below.of_grown hg6' B5.out.size (fun k hk => (World.ownsRow.lt R0.out k hk).1)))
  have A6 := hide (H2.out.below (on_below G4.out.c1.bel B6.out))
  clear hr6 hg6 hg6' R0 B5 A5
  go_wp2_with (refine step_appJ rfl rfl rfl R6.out A6.out (by have h1 := len_jbulk L1; have h2 := HSM.out; have h3 := H1.out.hlen; omega) B6.out.size ?_)
  intro v7 w7 hr7 hg7 _
  have hg7' : w6.grownBy w7 v6.ownBlock := hg7
  have B7 := hide (B6.out.trans (Below.of_grown hg7' B6.out.size (fun k hk => (World.ownsRow.lt R6.out k hk).1)))
  clear R6 B6 A6 hg7 hg7'
  obtain ⟨L, HL⟩ : ∃ L, Hid (L1 ++ L2 = L) := ⟨_, hide rfl⟩
  obtain ⟨N, HNN⟩ : ∃ N, Hid (n1 + n2 = N) := ⟨_, hide rfl⟩
  rw [List.nil_append, ← ajC_app, HL.out, Nat.zero_add, HNN.out] at hr7
  have HLN : Hid (L.length = N ∧ jbulk L ≤ 1048576) := hide (by
    rw [← HL.out, List.length_append, jbulk_app, H1.out.hlen, H2.out.hlen]
    exact ⟨HNN.out, HSM.out⟩)
  have HXI : Hid (∀ (i : Nat) x, L[i]? = some x → x.In w) := hide (fun i x hx => by
    rw [← HL.out] at hx
    by_cases hi : i < L1.length
    · rw [List.getElem?_append_left hi] at hx
      exact H1.out.hin i x hx
    · rw [List.getElem?_append_right (by omega)] at hx
      exact H2.out.hin _ x hx)
  obtain ⟨al, cl, rfl⟩ := row_slice hr7
  have R7 := hide hr7
  obtain ⟨gl, HGL⟩ : ∃ gl, Hid ((Value.slice al N cl).ownBlock = gl) := ⟨_, hide rfl⟩
  have G7 : Hid (GO w w7 d j o q s 0 (crS [] (jN 1)) 1 D0 [] M0 E0 F0 w7 gl) := hide (G4.out.lay B7.out (fun k hk => by rw [← HGL.out] at hk; exact World.ownsRow.lt hr7 k hk))
  clear hr7 G4 B7 HSM H1 H2
  go_wp2_with fail
  go_loopw [8, 11, 14] (fun e p i wr => ∃ (k q : Nat) (rs : List Rw) (g : Nat) (D : Dm) (ls : List (List Int)) (M : Jm) (D2 : Dm) (M2 : Jm), e = .int .i64 0 ∧ p = .pointer (some ⟨q, 0, none⟩) ∧ i = .int .i64 (k : Int) ∧ k ≤ N ∧ Hid (GO w wr d j o q s (jbulk (L.take k)) rs g D ls M D2 M2 w7 gl)) (fun _ _ i _ => N - (intOf i).toNat)
  case atStart => exact ⟨0, q, _, _, _, _, _, _, _, rfl, rfl, rfl, Nat.zero_le _, G7⟩
  case round =>
    clear G7
    obtain ⟨k, q, rs, g, D, ls, M, D2, M2, rfl, rfl, rfl, hkl, HG⟩ := hrel
    have HMB : Hid (jbulk (L.take k) ≤ 1048576) := hide (Nat.le_trans (jbulk_take L k) HLN.out.2)
    by_cases hlt : k < N
    · have hlti : (k : Int) < (N : Int) := by omega
      have hkb : k ≤ 1048576 := by have h1 := len_jbulk L; have h2 := HLN.out; omega
      obtain ⟨x, hx⟩ : ∃ x, L[k]? = some x := ⟨_, List.getElem?_eq_getElem (by rw [HLN.out.1]; exact hlt)⟩
      have HX := hide (HXI.out k x hx)
      obtain ⟨m0, HM0⟩ : ∃ m0, Hid (jbulk (L.take k) = m0) := ⟨_, hide rfl⟩
      have HM1 : Hid (jbulk (L.take (k + 1)) = m0 + (x.xs.length + 4) ∧ m0 + (x.xs.length + 4) ≤ 1048576) := hide (by
        have h1 := jbulk_succ L k x hx
        have h2 := jbulk_take L (k + 1)
        have h3 := HLN.out.2
        rw [HM0.out] at h1
        unfold Aj.bulk at h1
        exact ⟨h1, by omega⟩)
      rw [HM0.out] at HG HMB
      obtain ⟨gr, e1, hBg, _, hrg⟩ := row_aj R7.out k x hx
      subst e1
      obtain rfl : some gr = gl := HGL.out
      have HC : Hid (∀ W : World, W.heap[gr]? = w7.heap[gr]? → W.cell? ⟨gr, k * 3, none⟩ = some (.bool x.cl) ∧ W.cell? ⟨gr, k * 3 + 1, none⟩ = some (.int .i64 x.k) ∧ W.cell? ⟨gr, k * 3 + 2, none⟩ = some (.slice x.a x.l x.c)) := hide (fun W hW => by
        have e : ∀ off, W.cell? ⟨gr, off, none⟩ = w7.cell? ⟨gr, off, none⟩ := fun off => World.cell?_of_block (w := w7) hW
        rw [e, e, e]
        exact ⟨hrg 0 _ rfl, hrg 1 _ rfl, hrg 2 _ rfl⟩)
      have hix : ∀ v : World, (Instr.indexAt 25 (.slice (some ⟨gr, 0, none⟩) N cl) (.int .i64 (k : Int))).run Tryz.prog v = .ok (.pointer (some ⟨gr, k * 3, none⟩)) v := fun v => by
        have := aj_at gr 0 N cl k hlt v
        rwa [Nat.zero_add] at this
      clear hx hrg hBg
      go_upto_if 55 with fail
      go_cut [8, 11] from 46 to 98 (fun e p W => ∃ (V : World) (q : Nat) (D2 : Dm) (M2 : Jm), V = W ∧ e = .int .i64 0 ∧ p = .pointer (some ⟨q, 0, none⟩) ∧ Hid (GO w W d j o q s m0 rs g D ls M D2 M2 w7 (some gr)))
      case first =>
        by_cases hkn : k = n1
        · subst hkn
          go_wp2_with fail
          refine (go_reopen HG.out HT.out HMB.out).mono ?_
          rintro e w8 ⟨q', D2', M2', rfl, hg8⟩
          have HG8 := hide hg8
          clear hg8
          go_wp2_with fail
          go_meet
          case rel => exact ⟨_, _, _, _, rfl, rfl, rfl, HG8⟩
        · have hkn2 : ¬ (k : Int) = (n1 : Int) := by omega
          go_wp2_with fail
          go_meet
          case rel => exact ⟨_, _, _, _, rfl, rfl, rfl, HG⟩
      case rest =>
        obtain ⟨V, q, D2, M2, rfl, rfl, rfl, HG8⟩ := hcut
        clear HG
        obtain ⟨c0, c1', c2'⟩ := HC.out _ (HG8.out.lk gr rfl)
        go_upto_if 67 with fail
        go_cut [15, 16] from 46 to 98 (fun a b W => ∃ (E : Int) (rs : List Rw) (g : Nat) (D : Dm) (ls : List (List Int)) (M : Jm) (D2 : Dm) (M2 : Jm), a = .int .i64 E ∧ b = .int .i64 E ∧ Hid (GO w W d j o q s (jbulk (L.take (k + 1))) rs g D ls M D2 M2 w7 (some gr)))
        case first =>
          obtain ⟨xc, HCL⟩ : ∃ xc, Hid (x.cl = xc) := ⟨_, hide rfl⟩
          rw [HCL.out]
          cases xc
          · as_aux_lemma =>
            obtain ⟨E, rs', g', ls', hE⟩ := add_go HG8.out.c1 HT.out x.a x.l x.c x.xs HX.out.sl (by have h1 := HM1.out; have h2 := HX.out.sl.hlen; omega)
            have HME : Hid (m0 + (x.l + 4) = jbulk (L.take (k + 1))) := hide (by have h1 := HM1.out; have h2 := HX.out.sl.hlen; omega)
            rw [HME.out] at hE
            have HE := hide hE
            clear hE
            have PD := hide (HG8.out.below (Below.refl V.heap.size V).drew)
            have CN : Hid (∀ W : World, W.heap[gr]? = w7.heap[gr]? → W.cell? ⟨gr, k * 3 + 2, none⟩ = some (.slice x.a x.l x.c)) := hide (fun W hW => (HC.out W hW).2.2)
            clear c0 c1' c2'
            go_wp2_with fail
            refine wp_region_noPanic ?_
            refine wp_region_held_drew (S := fun v : World => v.cell? ⟨gr, k * 3 + 2, none⟩ = some (.slice x.a x.l x.c)) (by kernel_rfl) (CN.out _ (PD.out.lk gr rfl)) (fun hHeld => ?_)
            refine takeH 0 82 (.pointer (some ⟨j, 0, none⟩)) hHeld rfl rfl (by kernel_rfl) (by kernel_rfl) (by kernel_rfl) (fun _ _ _ h => h) (Or.inl ⟨by rfl, fun w _ => by go_simp⟩) ?_
            simp only [Act.put, List.setIfInBounds_toArray, List.set_cons_zero, List.set_cons_succ]
            refine takeH 1 83 (.slice (some ⟨gr, 0, none⟩) N cl) hHeld rfl rfl (by kernel_rfl) (by kernel_rfl) (by kernel_rfl) (fun _ _ _ h => h) (Or.inl ⟨by rfl, fun w _ => by go_simp⟩) ?_
            simp only [Act.put, List.setIfInBounds_toArray, List.set_cons_zero, List.set_cons_succ]
            refine takeH 2 84 (.int .i64 (k : Int)) hHeld rfl rfl (by kernel_rfl) (by kernel_rfl) (by kernel_rfl) (fun _ _ _ h => h) (Or.inl ⟨by rfl, fun w _ => by go_simp⟩) ?_
            simp only [Act.put, List.setIfInBounds_toArray, List.set_cons_zero, List.set_cons_succ]
            refine takeH 3 85 (.pointer (some ⟨gr, k * 3, none⟩)) hHeld rfl rfl (by kernel_rfl) (by kernel_rfl) (by kernel_rfl) (fun _ _ _ h => h) (Or.inl ⟨by rfl, fun w _ => run_op rfl (hix w)⟩) ?_
            simp only [Act.put, List.setIfInBounds_toArray, List.set_cons_zero, List.set_cons_succ]
            refine takeH 4 86 (.pointer (some ⟨gr, k * 3 + 2, none⟩)) hHeld rfl rfl (by kernel_rfl) (by kernel_rfl) (by kernel_rfl) (fun _ _ _ h => h) (Or.inl ⟨by rfl, fun w _ => by go_simp⟩) ?_
            simp only [Act.put, List.setIfInBounds_toArray, List.set_cons_zero, List.set_cons_succ]
            refine takeH 5 87 (.slice x.a x.l x.c) hHeld rfl rfl (by kernel_rfl) (by kernel_rfl) (by kernel_rfl) (fun _ _ _ h => h) (Or.inl ⟨by rfl, fun w hw => by have hw' : w.cell? ⟨gr, (k * 3 + 2), none⟩ = some (.slice x.a x.l x.c) := (fun h => h) hw; go_simp⟩) ?_
            simp only [Act.put, List.setIfInBounds_toArray, List.set_cons_zero, List.set_cons_succ]
            refine takeH 7 89 (.pointer (some ⟨q, 0, none⟩)) hHeld rfl rfl (by kernel_rfl) (by kernel_rfl) (by kernel_rfl) (fun _ _ _ h => h) (Or.inl ⟨by rfl, fun w _ => by go_simp⟩) ?_
            simp only [Act.put, List.setIfInBounds_toArray, List.set_cons_zero, List.set_cons_succ]
            refine takeH 8 90 (.slice (some ⟨gr, 0, none⟩) N cl) hHeld rfl rfl (by kernel_rfl) (by kernel_rfl) (by kernel_rfl) (fun _ _ _ h => h) (Or.inl ⟨by rfl, fun w _ => by go_simp⟩) ?_
            simp only [Act.put, List.setIfInBounds_toArray, List.set_cons_zero, List.set_cons_succ]
            refine takeH 9 91 (.int .i64 (k : Int)) hHeld rfl rfl (by kernel_rfl) (by kernel_rfl) (by kernel_rfl) (fun _ _ _ h => h) (Or.inl ⟨by rfl, fun w _ => by go_simp⟩) ?_
            simp only [Act.put, List.setIfInBounds_toArray, List.set_cons_zero, List.set_cons_succ]
            refine takeH 10 92 (.pointer (some ⟨gr, k * 3, none⟩)) hHeld rfl rfl (by kernel_rfl) (by kernel_rfl) (by kernel_rfl) (fun _ _ _ h => h) (Or.inl ⟨by rfl, fun w _ => run_op rfl (hix w)⟩) ?_
            simp only [Act.put, List.setIfInBounds_toArray, List.set_cons_zero, List.set_cons_succ]
            refine takeH 11 93 (.pointer (some ⟨gr, k * 3 + 2, none⟩)) hHeld rfl rfl (by kernel_rfl) (by kernel_rfl) (by kernel_rfl) (fun _ _ _ h => h) (Or.inl ⟨by rfl, fun w _ => by go_simp⟩) ?_
            simp only [Act.put, List.setIfInBounds_toArray, List.set_cons_zero, List.set_cons_succ]
            refine takeH 12 94 (.slice x.a x.l x.c) hHeld rfl rfl (by kernel_rfl) (by kernel_rfl) (by kernel_rfl) (fun _ _ _ h => h) (Or.inl ⟨by rfl, fun w hw => by have hw' : w.cell? ⟨gr, (k * 3 + 2), none⟩ = some (.slice x.a x.l x.c) := (fun h => h) hw; go_simp⟩) ?_
            simp only [Act.put, List.setIfInBounds_toArray, List.set_cons_zero, List.set_cons_succ]
            refine wpAnyH_ready (rs := [6]) (by kernel_rfl) (by simp) (AllReadyH.cons rfl (fun K hK => ?_) AllReadyH.nil)
            rw [if_pos (by rfl)]
            go_simp
            refine (HE.out _ d j D M PD.out.c1).mono ?_
            rintro e wa ⟨rfl, hy1⟩
            have HY1 := hide hy1
            have GA : Hid (wa.cell? ⟨gr, k * 3 + 2, none⟩ = some (.slice x.a x.l x.c)) := hide (CN.out _ (by
              obtain ⟨_, _, _, hc, _⟩ := HY1.out
              obtain ⟨n1', n2', _⟩ := PD.out.nl gr rfl
              rw [hc.block gr n1' n2']
              exact PD.out.lk gr rfl))
            clear hy1
            refine hK.out _ _ GA.out (fun hHeld => ?_)
            clear hK K
            try simp only [Act.put, List.setIfInBounds_toArray, List.set_cons_zero, List.set_cons_succ]
            refine wpAnyH_ready (rs := [13]) (by kernel_rfl) (by simp) (AllReadyH.cons rfl (fun K hK => ?_) AllReadyH.nil)
            rw [if_pos (by rfl)]
            go_simp
            refine (HE.out _ o q D2 M2 (PD.out.one HY1.out)).mono ?_
            rintro e wb ⟨rfl, hy2⟩
            obtain ⟨D', M', D2', M2', hgo⟩ := PD.out.both HY1.out hy2
            have HGF := hide hgo
            have GB : Hid (wb.cell? ⟨gr, k * 3 + 2, none⟩ = some (.slice x.a x.l x.c)) := hide (CN.out _ (HGF.out.lk gr rfl))
            clear hy2 hgo
            refine hK.out _ _ GB.out (fun hHeld => ?_)
            clear hK K
            try simp only [Act.put, List.setIfInBounds_toArray, List.set_cons_zero, List.set_cons_succ]
            refine takeH 14 15 (.int .i64 E) hHeld rfl rfl (by kernel_rfl) (by kernel_rfl) (by kernel_rfl) (fun _ _ _ h => h) (Or.inl ⟨by rfl, fun w _ => by go_simp⟩) ?_
            simp only [Act.put, List.setIfInBounds_toArray, List.set_cons_zero, List.set_cons_succ]
            refine takeH 15 16 (.int .i64 E) hHeld rfl rfl (by kernel_rfl) (by kernel_rfl) (by kernel_rfl) (fun _ _ _ h => h) (Or.inl ⟨by rfl, fun w _ => by go_simp⟩) ?_
            simp only [Act.put, List.setIfInBounds_toArray, List.set_cons_zero, List.set_cons_succ]
            refine wpAnyH_done (by kernel_rfl) ?_ _
            refine NoPanic.normal ?_
            clear PD CN HY1 GA GB hHeld
            go_wp2_with fail
            go_meet
            case rel => exact ⟨E, _, _, _, _, _, _, _, rfl, rfl, HGF⟩
          · as_aux_lemma =>
            obtain ⟨E, rs', g', ls', hE⟩ := clear_go HG8.out.c1 HT.out x.k (jbulk (L.take (k + 1))) (by have h1 := HM1.out; omega) (by have h1 := HM1.out; omega)
            have HE := hide hE
            clear hE
            have PD := hide (HG8.out.below (Below.refl V.heap.size V).drew)
            have CN : Hid (∀ W : World, W.heap[gr]? = w7.heap[gr]? → W.cell? ⟨gr, k * 3 + 1, none⟩ = some (.int .i64 x.k)) := hide (fun W hW => (HC.out W hW).2.1)
            clear c0 c1' c2'
            go_wp2_with fail
            refine wp_region_noPanic ?_
            refine wp_region_held_drew (S := fun v : World => v.cell? ⟨gr, k * 3 + 1, none⟩ = some (.int .i64 x.k)) (by kernel_rfl) (CN.out _ (PD.out.lk gr rfl)) (fun hHeld => ?_)
            refine takeH 0 68 (.pointer (some ⟨j, 0, none⟩)) hHeld rfl rfl (by kernel_rfl) (by kernel_rfl) (by kernel_rfl) (fun _ _ _ h => h) (Or.inl ⟨by rfl, fun w _ => by go_simp⟩) ?_
            simp only [Act.put, List.setIfInBounds_toArray, List.set_cons_zero, List.set_cons_succ]
            refine takeH 1 69 (.slice (some ⟨gr, 0, none⟩) N cl) hHeld rfl rfl (by kernel_rfl) (by kernel_rfl) (by kernel_rfl) (fun _ _ _ h => h) (Or.inl ⟨by rfl, fun w _ => by go_simp⟩) ?_
            simp only [Act.put, List.setIfInBounds_toArray, List.set_cons_zero, List.set_cons_succ]
            refine takeH 2 70 (.int .i64 (k : Int)) hHeld rfl rfl (by kernel_rfl) (by kernel_rfl) (by kernel_rfl) (fun _ _ _ h => h) (Or.inl ⟨by rfl, fun w _ => by go_simp⟩) ?_
            simp only [Act.put, List.setIfInBounds_toArray, List.set_cons_zero, List.set_cons_succ]
            refine takeH 3 71 (.pointer (some ⟨gr, k * 3, none⟩)) hHeld rfl rfl (by kernel_rfl) (by kernel_rfl) (by kernel_rfl) (fun _ _ _ h => h) (Or.inl ⟨by rfl, fun w _ => run_op rfl (hix w)⟩) ?_
            simp only [Act.put, List.setIfInBounds_toArray, List.set_cons_zero, List.set_cons_succ]
            refine takeH 4 72 (.pointer (some ⟨gr, k * 3 + 1, none⟩)) hHeld rfl rfl (by kernel_rfl) (by kernel_rfl) (by kernel_rfl) (fun _ _ _ h => h) (Or.inl ⟨by rfl, fun w _ => by go_simp⟩) ?_
            simp only [Act.put, List.setIfInBounds_toArray, List.set_cons_zero, List.set_cons_succ]
            refine takeH 5 73 (.int .i64 x.k) hHeld rfl rfl (by kernel_rfl) (by kernel_rfl) (by kernel_rfl) (fun _ _ _ h => h) (Or.inl ⟨by rfl, fun w hw => by have hw' : w.cell? ⟨gr, (k * 3 + 1), none⟩ = some (.int .i64 x.k) := (fun h => h) hw; go_simp⟩) ?_
            simp only [Act.put, List.setIfInBounds_toArray, List.set_cons_zero, List.set_cons_succ]
            refine takeH 7 75 (.pointer (some ⟨q, 0, none⟩)) hHeld rfl rfl (by kernel_rfl) (by kernel_rfl) (by kernel_rfl) (fun _ _ _ h => h) (Or.inl ⟨by rfl, fun w _ => by go_simp⟩) ?_
            simp only [Act.put, List.setIfInBounds_toArray, List.set_cons_zero, List.set_cons_succ]
            refine takeH 8 76 (.slice (some ⟨gr, 0, none⟩) N cl) hHeld rfl rfl (by kernel_rfl) (by kernel_rfl) (by kernel_rfl) (fun _ _ _ h => h) (Or.inl ⟨by rfl, fun w _ => by go_simp⟩) ?_
            simp only [Act.put, List.setIfInBounds_toArray, List.set_cons_zero, List.set_cons_succ]
            refine takeH 9 77 (.int .i64 (k : Int)) hHeld rfl rfl (by kernel_rfl) (by kernel_rfl) (by kernel_rfl) (fun _ _ _ h => h) (Or.inl ⟨by rfl, fun w _ => by go_simp⟩) ?_
            simp only [Act.put, List.setIfInBounds_toArray, List.set_cons_zero, List.set_cons_succ]
            refine takeH 10 78 (.pointer (some ⟨gr, k * 3, none⟩)) hHeld rfl rfl (by kernel_rfl) (by kernel_rfl) (by kernel_rfl) (fun _ _ _ h => h) (Or.inl ⟨by rfl, fun w _ => run_op rfl (hix w)⟩) ?_
            simp only [Act.put, List.setIfInBounds_toArray, List.set_cons_zero, List.set_cons_succ]
            refine takeH 11 79 (.pointer (some ⟨gr, k * 3 + 1, none⟩)) hHeld rfl rfl (by kernel_rfl) (by kernel_rfl) (by kernel_rfl) (fun _ _ _ h => h) (Or.inl ⟨by rfl, fun w _ => by go_simp⟩) ?_
            simp only [Act.put, List.setIfInBounds_toArray, List.set_cons_zero, List.set_cons_succ]
            refine takeH 12 80 (.int .i64 x.k) hHeld rfl rfl (by kernel_rfl) (by kernel_rfl) (by kernel_rfl) (fun _ _ _ h => h) (Or.inl ⟨by rfl, fun w hw => by have hw' : w.cell? ⟨gr, (k * 3 + 1), none⟩ = some (.int .i64 x.k) := (fun h => h) hw; go_simp⟩) ?_
            simp only [Act.put, List.setIfInBounds_toArray, List.set_cons_zero, List.set_cons_succ]
            refine wpAnyH_ready (rs := [6]) (by kernel_rfl) (by simp) (AllReadyH.cons rfl (fun K hK => ?_) AllReadyH.nil)
            rw [if_pos (by rfl)]
            go_simp
            refine (HE.out _ d j D M PD.out.c1).mono ?_
            rintro e wa ⟨rfl, hy1⟩
            have HY1 := hide hy1
            have GA : Hid (wa.cell? ⟨gr, k * 3 + 1, none⟩ = some (.int .i64 x.k)) := hide (CN.out _ (by
              obtain ⟨_, _, _, hc, _⟩ := HY1.out
              obtain ⟨n1', n2', _⟩ := PD.out.nl gr rfl
              rw [hc.block gr n1' n2']
              exact PD.out.lk gr rfl))
            clear hy1
            refine hK.out _ _ GA.out (fun hHeld => ?_)
            clear hK K
            try simp only [Act.put, List.setIfInBounds_toArray, List.set_cons_zero, List.set_cons_succ]
            refine wpAnyH_ready (rs := [13]) (by kernel_rfl) (by simp) (AllReadyH.cons rfl (fun K hK => ?_) AllReadyH.nil)
            rw [if_pos (by rfl)]
            go_simp
            refine (HE.out _ o q D2 M2 (PD.out.one HY1.out)).mono ?_
            rintro e wb ⟨rfl, hy2⟩
            obtain ⟨D', M', D2', M2', hgo⟩ := PD.out.both HY1.out hy2
            have HGF := hide hgo
            have GB : Hid (wb.cell? ⟨gr, k * 3 + 1, none⟩ = some (.int .i64 x.k)) := hide (CN.out _ (HGF.out.lk gr rfl))
            clear hy2 hgo
            refine hK.out _ _ GB.out (fun hHeld => ?_)
            clear hK K
            try simp only [Act.put, List.setIfInBounds_toArray, List.set_cons_zero, List.set_cons_succ]
            refine takeH 14 15 (.int .i64 E) hHeld rfl rfl (by kernel_rfl) (by kernel_rfl) (by kernel_rfl) (fun _ _ _ h => h) (Or.inl ⟨by rfl, fun w _ => by go_simp⟩) ?_
            simp only [Act.put, List.setIfInBounds_toArray, List.set_cons_zero, List.set_cons_succ]
            refine takeH 15 16 (.int .i64 E) hHeld rfl rfl (by kernel_rfl) (by kernel_rfl) (by kernel_rfl) (fun _ _ _ h => h) (Or.inl ⟨by rfl, fun w _ => by go_simp⟩) ?_
            simp only [Act.put, List.setIfInBounds_toArray, List.set_cons_zero, List.set_cons_succ]
            refine wpAnyH_done (by kernel_rfl) ?_ _
            refine NoPanic.normal ?_
            clear PD CN HY1 GA GB hHeld
            go_wp2_with fail
            go_meet
            case rel => exact ⟨E, _, _, _, _, _, _, _, rfl, rfl, HGF⟩
        case rest =>
          as_aux_lemma =>
          obtain ⟨E, rs, g, D, ls, M, D2, M2, rfl, rfl, HG9⟩ := hcut
          clear HG8 c0 c1' c2' hix HC HX
          go_wp2_with fail
          go_roundw
          case rel => exact ⟨k + 1, q, rs, g, D, ls, M, D2, M2, rfl, rfl, by go_num, by omega, HG9⟩
          case measure => simp [intOf]; omega
    · as_aux_lemma =>
      have hlti : ¬ (k : Int) < (N : Int) := by omega
      have HB := hide (HG.out.c1.bd.out HMB.out)
      go_wp2_with fail
      refine (listed_any j d g ls M _ HG.out.c1.pj.jn (by have := HB.out; omega)).mono ?_
      rintro e w8 ⟨v8, rfl, hv8, hb8⟩
      obtain ⟨va8, vc8, rfl⟩ := own_sl2 hv8
      have HG8 := hide (HG.out.below hb8)
      have HV8 := hide hv8
      clear hv8 hb8 HG
      obtain ⟨q0, HQ0⟩ : ∃ q0, Hid (ls.length = q0) := ⟨_, hide rfl⟩
      rw [HQ0.out] at HV8
      rw [HQ0.out]
      go_wp2_with fail
      refine (listed_any q o g ls M2 _ HG8.out.c2.pj.jn (by have := HB.out; omega)).mono ?_
      rintro e w9 ⟨v9, rfl, hv9, hb9⟩
      obtain ⟨va9, vc9, rfl⟩ := own_sl2 hv9
      rw [HQ0.out] at hv9
      rw [HQ0.out]
      have HG9 := hide (HG8.out.below hb9)
      have HV9 := hide hv9
      have HVA := hide (HV8.out.below hb9)
      clear hv9 hb9 HG8 HV8
      go_wp2_with fail
      refine (same13_any _ _ ls ls _ _ _ HVA.out HV9.out (by have := HB.out; omega)).mono ?_
      rintro e w10 ⟨b, rfl, hb, hb10⟩
      obtain rfl : b = true := hb rfl
      have HG10 := hide (HG9.out.below hb10)
      clear hb hb10 HG9 HVA HV9
      go_wp2_with fail
      refine (same_any d o s s rs rs D D2 true _ HG10.out.c1.pj.dk HG10.out.c2.pj.dk (by have := HB.out; omega) (by have := HB.out; omega) ⟨fun _ => rfl, fun _ => rfl⟩).mono ?_
      rintro e w11 ⟨rfl, hb11⟩
      have HG11 := hide (HG10.out.below hb11)
      clear hb11 HG10
      go_wp2_with fail
      refine (jgen_ok HG11.out.c1.pj.jn).mono ?_
      rintro e w12 ⟨rfl, rfl⟩
      go_wp2_with fail
      refine (jgen_ok HG11.out.c2.pj.jn).mono ?_
      rintro e w13 ⟨rfl, rfl⟩
      have BB := hide HG11.out.c1.bel
      clear HG11
      go_wp2
      go_ret
      exact ⟨rfl, BB.out⟩

end Go.Proofs.YtninkkdbcgadpaaGreatDoor
