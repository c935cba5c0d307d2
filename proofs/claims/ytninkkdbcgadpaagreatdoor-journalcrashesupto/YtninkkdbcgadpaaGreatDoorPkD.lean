/-
  Texts one behind the other: Jci Jcz JcrLaw.
-/
import Derived.Test.YtninkkdbcgadpaaGreatDoorPkC
import Derived.Test.YtninkkdbcgadpaaGreatDoorJaj
import Derived.Deep.Cut
import Derived.Deep.CutRange
import Derived.Deep.CutBlock

/-
  JournalCrashes: what stands ahead of each act, and what an act leaves.
-/
namespace Go.Proofs.YtninkkdbcgadpaaGreatDoor
open Go.RowKit Go.Shelf
set_option linter.unusedVariables false
set_option linter.unusedSimpArgs false
set_option maxRecDepth 100000

theorem four_mul (x y : Nat) : 4 * (x * y) ≤ (x + y) * (x + y) := by
  rcases Nat.le_total x y with h | h
  · obtain ⟨t, rfl⟩ := Nat.exists_eq_add_of_le h
    have e1 : 4 * (x * (x + t)) = 4 * (x * x) + 4 * (x * t) := by rw [Nat.mul_add, Nat.mul_add]
    have e2 : (x + (x + t)) * (x + (x + t)) = 4 * (x * x) + 4 * (x * t) + t * t := by
      have : x + (x + t) = 2 * x + t := by omega
      rw [this, Nat.add_mul, Nat.mul_add, Nat.mul_add]
      have a1 : 2 * x * (2 * x) = 4 * (x * x) := by rw [Nat.mul_assoc, Nat.mul_left_comm x 2 x, ← Nat.mul_assoc]
      have a2 : 2 * x * t = 2 * (x * t) := Nat.mul_assoc _ _ _
      have a3 : t * (2 * x) = 2 * (x * t) := by rw [Nat.mul_comm]; exact a2
      omega
    omega
  · obtain ⟨t, rfl⟩ := Nat.exists_eq_add_of_le h
    have e1 : 4 * ((y + t) * y) = 4 * (y * y) + 4 * (y * t) := by rw [Nat.add_mul, Nat.mul_add, Nat.mul_comm t y]
    have e2 : (y + t + y) * (y + t + y) = 4 * (y * y) + 4 * (y * t) + t * t := by
      have : y + t + y = 2 * y + t := by omega
      rw [this, Nat.add_mul, Nat.mul_add, Nat.mul_add]
      have a1 : 2 * y * (2 * y) = 4 * (y * y) := by rw [Nat.mul_assoc, Nat.mul_left_comm y 2 y, ← Nat.mul_assoc]
      have a2 : 2 * y * t = 2 * (y * t) := Nat.mul_assoc _ _ _
      have a3 : t * (2 * y) = 2 * (y * t) := by rw [Nat.mul_comm]; exact a2
      omega
    omega
/-- How much acts that weigh m can have made: x raw weight, f bytes of file, l leaves. -/
def Bd (m x f l : Nat) : Prop := ∃ a c, a + 4 * c ≤ m ∧ x ≤ 1 + 5 * a + c * (4 * a + 3) ∧ f ≤ 2 * a ∧ 4 * l ≤ a
theorem Bd.zero : Bd 0 1 0 0 := ⟨0, 0, by omega, by omega, by omega, by omega⟩
theorem Bd.mono {m m' x x' f f' l l' : Nat} (h : Bd m x f l) (hm : m ≤ m') (hx : x' ≤ x) (hf : f' ≤ f) (hl : l' ≤ l) : Bd m' x' f' l' := by
  obtain ⟨a, c, h1, h2, h3, h4⟩ := h
  exact ⟨a, c, by omega, by omega, by omega, by omega⟩
theorem Bd.add {m x f l : Nat} (h : Bd m x f l) (n : Nat) : Bd (m + (n + 4)) (x + 2 * (8 + n) + 1) (f + (8 + n)) (l + 1) := by
  obtain ⟨a, c, h1, h2, h3, h4⟩ := h
  have h5 : c * (4 * a + 3) ≤ c * (4 * (a + (n + 4)) + 3) := Nat.mul_le_mul_left _ (by omega)
  exact ⟨a + (n + 4), c, by omega, by omega, by omega, by omega⟩
theorem Bd.clear {m x f l f' l' : Nat} (h : Bd m x f l) (hf : f' ≤ f) (hl : l' ≤ l) : Bd (m + 4) (x + 2 * f + 3) f' l' := by
  obtain ⟨a, c, h1, h2, h3, h4⟩ := h
  have h5 : (c + 1) * (4 * a + 3) = c * (4 * a + 3) + (4 * a + 3) := Nat.succ_mul _ _
  exact ⟨a, c + 1, by omega, by rw [h5]; omega, by omega, by omega⟩
theorem Bd.out {m x f l : Nat} (h : Bd m x f l) (hm : m ≤ 1048576) : x ≤ 300000000000 ∧ f ≤ 2097152 ∧ l ≤ 262144 := by
  obtain ⟨a, c, h1, h2, h3, h4⟩ := h
  have h5 := four_mul a (4 * c)
  have h6 : (a + 4 * c) * (a + 4 * c) ≤ 1048576 * 1048576 := Nat.mul_le_mul (by omega) (by omega)
  have h7 : a * (4 * c) = 4 * (c * a) := by rw [Nat.mul_left_comm, Nat.mul_comm a c]
  have h8 : c * (4 * a + 3) = 4 * (c * a) + 3 * c := by rw [Nat.mul_add, Nat.mul_left_comm, Nat.mul_comm c 3]
  refine ⟨by omega, by omega, by omega⟩
/-- What stands ahead of an act. -/
structure CI (w0 wr : World) (d j s m : Nat) (rs : List Rw) (g : Nat) (D : Dm) (ls : List (List Int)) (M : Jm) : Prop where
  pj : PJ wr d j s rs D g ls M
  solo : Solo (play rs) g (fmA ls)
  g1 : 1 ≤ g
  g2 : g ≤ 2147483647
  own : ∀ k, JF d j D M k → w0.heap.size ≤ k
  bel : Below w0.heap.size w0 wr
  bd : Bd m (wt rs) (fmA ls).length ls.length
/-- What an act leaves. -/
def Nx (w0 w w' : World) (d j s m : Nat) (rs : List Rw) (D : Dm) (ls : List (List Int)) (M : Jm) (ls' : List (List Int)) : Prop :=
  Chs (JF d j D M) w w' ∧ ∃ rs' g' D' M', CI w0 w' d j s m rs' g' D' ls' M' ∧ rs.length ≤ rs'.length ∧ ∀ q, rs.length ≤ q → q ≤ rs'.length → CrK (play (rs'.take q)) ls ls' (q = rs'.length)
section
variable {w0 wr w' : World} {d j s m : Nat} {rs : List Rw} {g : Nat} {D : Dm} {ls : List (List Int)} {M : Jm}
theorem CI.below (h : CI w0 wr d j s m rs g D ls M) (hb : Below wr.heap.size wr w') : CI w0 w' d j s m rs g D ls M := ⟨h.pj.below hb, h.solo, h.g1, h.g2, h.own, on_below h.bel hb, h.bd⟩
theorem CI.tt (h : CI w0 wr d j s m rs g D ls M) (ht : TT w0) : TT wr := ht.under h.bel ht.kt.lt ht.pt.lt
theorem CI.mono {m' : Nat} (h : CI w0 wr d j s m rs g D ls M) (hm : m ≤ m') : CI w0 wr d j s m' rs g D ls M := ⟨h.pj, h.solo, h.g1, h.g2, h.own, h.bel, h.bd.mono hm (Nat.le_refl _) (Nat.le_refl _) (Nat.le_refl _)⟩
theorem CI.stay {m' : Nat} (h : CI w0 wr d j s m rs g D ls M) (hm : m ≤ m') : Nx w0 wr wr d j s m' rs D ls M ls :=
  ⟨Chs.refl _ _, rs, g, D, M, h.mono hm, Nat.le_refl _, fun q h1 h2 => by
    have e : q = rs.length := by omega
    rw [e, List.take_length]
    exact crk_same h.solo h.g1 h.g2 h.pj.jn.byt _⟩
theorem CI.next {rs' : List Rw} {g' m' : Nat} {ls' : List (List Int)} (h : CI w0 wr d j s m rs g D ls M) (hr : JR wr w' d j s D M rs' g' ls') (hs : Solo (play rs') g' (fmA ls')) (h1 : 1 ≤ g') (h2 : g' ≤ 2147483647) (hb : Bd m' (wt rs') (fmA ls').length ls'.length) (hl : rs.length ≤ rs'.length) (hq : ∀ q, rs.length ≤ q → q ≤ rs'.length → CrK (play (rs'.take q)) ls ls' (q = rs'.length)) : Nx w0 wr w' d j s m' rs D ls M ls' := by
  obtain ⟨D', M', r1, r2, r3⟩ := hr
  refine ⟨r2, rs', g', D', M', ⟨r1, hs, h1, h2, fun k hk => ?_, ?_, hb⟩, hl, hq⟩
  · rcases r3 k hk with h5 | h5
    · exact h.own k h5
    · exact Nat.le_trans h.bel.size h5
  · exact h.bel.trans (r2.below (fun k hk hf => by have := h.own k hf; omega) h.bel.size)
end
theorem apS_len (s : Nat) (rs : List Rw) (n : ByteArray) (b : List Int) : rs.length ≤ (apS s rs n b).length := by
  unfold apS
  split
  · rw [List.length_append]; omega
  · exact Nat.le_refl _
theorem crS_len (rs : List Rw) (n : ByteArray) : rs.length ≤ (crS rs n).length := by
  unfold crS
  split
  · rw [List.length_append]; omega
  · exact Nat.le_refl _
theorem rmS_len (rs : List Rw) (n : ByteArray) : rs.length ≤ (rmS rs n).length := by
  unfold rmS
  split
  · rw [List.length_append]; omega
  · exact Nat.le_refl _
theorem clS_len (s : Nat) (rs : List Rw) (g : Nat) (b : List Int) : rs.length ≤ (clS s rs g b).length :=
  Nat.le_trans (crS_len _ _) (Nat.le_trans (apS_len _ _ _ _) (rmS_len _ _))
theorem wt_apS13 {s : Nat} (hs : 1 ≤ s) (rs : List Rw) (n : ByteArray) (b : List Int) : wt (apS s rs n b) ≤ wt rs + 2 * b.length + 1 := by
  unfold apS
  split
  · rw [wt_app]
    have := expd_wt hs ⟨rAp n b, rs.length, (fl (play rs) n).length⟩
    have e : (rAp n b).b = b := rfl
    simp only [e] at this
    omega
  · omega
section
variable (w0 wr : World) (d j s m : Nat) (rs : List Rw) (g : Nat) (D : Dm) (ls : List (List Int)) (M : Jm) (h : CI w0 wr d j s m rs g D ls M) (ht : TT w0)
include h ht
theorem jclear_ci (k : Int) (m' : Nat) (hm : m + 4 ≤ m') (hmm : m' ≤ 1048576) :
    Calls Tryz.prog 12 #[.pointer (some ⟨j, 0, none⟩), .int .i64 k] wr fun e w' => ∃ v ls', e = .returned (.int .i64 v) ∧ Nx w0 wr w' d j s m' rs D ls M ls' := by
  obtain ⟨b1, b2, b3⟩ := h.bd.out (by omega)
  by_cases hb : k < 0 ∨ (ls.length : Int) < k
  · refine (jclear_bad h.pj.jn k hb).mono ?_
    rintro e w' ⟨rfl, rfl⟩
    exact ⟨_, ls, rfl, h.stay (by omega)⟩
  by_cases h0 : k = 0
  · subst h0
    refine (jclear_0 h.pj.jn).mono ?_
    rintro e w' ⟨rfl, rfl⟩
    exact ⟨_, ls, rfl, h.stay (by omega)⟩
  obtain ⟨n, rfl⟩ : ∃ n : Nat, k = (n : Int) := ⟨k.toNat, by omega⟩
  have hn0 : 0 < n := by omega
  have hnl : n ≤ ls.length := by omega
  by_cases hg : g = 2147483647
  · refine (jclear_top h.pj.jn n hn0 hnl hg).mono ?_
    rintro e w' ⟨rfl, rfl⟩
    exact ⟨_, ls, rfl, h.stay (by omega)⟩
  have hg2 : g < 2147483647 := by have := h.g2; omega
  refine (jclear_ok d j s rs D g ls M wr h.pj (h.tt ht) (h.solo.gens h.g1 h.g2) hg2 n hn0 hnl (by omega) (by omega)).mono ?_
  rintro e w' ⟨rfl, hr⟩
  have hs1 := h.pj.dk.s1
  have hbyt := h.pj.jn.byt
  have hbyt' : ∀ p ∈ ls.drop n, isB p ∧ p.length ≤ 65535 := fun p hp => hbyt p (List.mem_of_mem_drop hp)
  have hB := fmA_isB (ls.drop n) (fun p hp => (hbyt' p hp).1)
  have hfl : (fmA (ls.drop n)).length ≤ (fmA ls).length := by
    have e : fmA ls = fmA (ls.take n) ++ fmA (ls.drop n) := by rw [← fmA_app, List.take_append_drop]
    rw [e, List.length_append]; omega
  refine ⟨_, _, rfl, h.next hr (h.solo.clear hs1 h.g1 hg2 hB) (by omega) (by omega) ?_ (clS_len _ _ _ _) (fun q q1 q2 => crk_clear hs1 h.solo h.g1 hg2 hbyt hbyt' q1 q2)⟩
  have hw := wt_clS hs1 rs g (fmA (ls.drop n))
  exact (h.bd.clear hfl (f' := (fmA (ls.drop n)).length) (l' := (ls.drop n).length) (by rw [List.length_drop]; omega)).mono hm (by omega) (Nat.le_refl _) (Nat.le_refl _)
theorem jadd_ci (a : Option Addr) (n c : Nat) (xs : List Int) (hx : Sl wr a n c xs) (hn : n ≤ 65535) (hoff : 0 < n → ∀ x, a = some x → ¬ D.own d x.block) (hmm : m + (n + 4) ≤ 1048576) :
    Calls Tryz.prog 14 #[.pointer (some ⟨j, 0, none⟩), .slice a n c] wr fun e w' => e = .returned (.int .i64 0) ∧ Nx w0 wr w' d j s (m + (n + 4)) rs D ls M (ls ++ [xs]) := by
  obtain ⟨b1, b2, b3⟩ := h.bd.out (by omega)
  refine (jadd_ok d j s rs D g ls M wr h.pj (h.tt ht) a n c xs hx hn h.g2 (h.solo.fE h.g2) (by omega) hoff (by omega)).mono ?_
  rintro e w' ⟨rfl, hr⟩
  have hs1 := h.pj.dk.s1
  have hxb : isB xs := hx.hbyte
  have hok : ∀ p ∈ ls ++ [xs], isB p ∧ p.length ≤ 65535 := fun p hp => by
    rcases List.mem_append.1 hp with hp | hp
    · exact h.pj.jn.byt p hp
    · have e : p = xs := by simpa using hp
      subst e
      exact ⟨hxb, by rw [hx.hlen]; exact hn⟩
  refine ⟨rfl, h.next hr (h.solo.add hs1 h.g2 hxb) h.g1 h.g2 ?_ (apS_len _ _ _ _) (fun q q1 q2 => crk_add hs1 h.solo h.g1 h.g2 hok q1 q2)⟩
  have hw := wt_apS13 hs1 rs (jN g) (fmB xs)
  have hl := fmB_length xs
  have hxl := hx.hlen
  have e1 : (fmA (ls ++ [xs])).length = (fmA ls).length + (8 + n) := by
    rw [fmA_app, List.length_append]
    have : fmA [xs] = fmB xs := by simp [fmA]
    rw [this, hl, hxl]
  exact (h.bd.add n).mono (Nat.le_refl _) (by omega) (by omega) (by simp)
end
/-- Behind an act: what was listed ahead of it still lies there. -/
theorem OwnV.nx {w0 w w' : World} {d j s m B : Nat} {rs : List Rw} {D : Dm} {ls ls' : List (List Int)} {M : Jm} {v : Value} {ns : List Value} (h : OwnV 9 w B v ns) (hf : ∀ k, JF d j D M k → k < B) (hn : Nx w0 w w' d j s m rs D ls M ls') : OwnV 9 w' B v ns :=
  h.same (fun k hk => hn.1.block k (h.lt k hk).2 (fun hj => by have h1 := hf k hj; have h2 := (h.lt k hk).1; omega))
theorem mod_cut13 (q : Int) (N : Nat) (hN : N ≤ 300000000000) : ∃ c : Nat, (wrap64 (q.tmod ((N + 1 : Nat) : Int) + ((N + 1 : Nat) : Int))).tmod ((N + 1 : Nat) : Int) = (c : Int) ∧ c ≤ N := by
  have h1 : q.tmod ((N + 1 : Nat) : Int) < ((N + 1 : Nat) : Int) := Int.tmod_lt_of_pos q (by omega)
  have h2 : -((N + 1 : Nat) : Int) < q.tmod ((N + 1 : Nat) : Int) := Int.lt_tmod_of_pos q (by omega)
  generalize q.tmod ((N + 1 : Nat) : Int) = r at *
  have h3 : wrap64 (r + ((N + 1 : Nat) : Int)) = r + ((N + 1 : Nat) : Int) := by unfold wrap64; omega
  rw [h3]
  have h4 : 0 ≤ (r + ((N + 1 : Nat) : Int)).tmod ((N + 1 : Nat) : Int) := Int.tmod_nonneg _ (by omega)
  have h5 : (r + ((N + 1 : Nat) : Int)).tmod ((N + 1 : Nat) : Int) < ((N + 1 : Nat) : Int) := Int.tmod_lt_of_pos _ (by omega)
  exact ⟨((r + ((N + 1 : Nat) : Int)).tmod ((N + 1 : Nat) : Int)).toNat, by omega, by omega⟩
theorem aj_at (b o n cap i : Nat) (hi : i < n) (v : World) : (Instr.indexAt 25 (.slice (some ⟨b, o, none⟩) n cap) (.int .i64 (i : Int))).run Tryz.prog v = .ok (.pointer (some ⟨b, o + i * 3, none⟩)) v := by
  have hu : Tryz.prog.underlying 25 = some (.slice (Tryz.prog.elem 25)) := by kernel_rfl
  have he : Tryz.prog.elem 25 = 41 := by kernel_rfl
  have hz : ∀ v : World, (sizeOf 41).run Tryz.prog v = .ok 3 v := fun _ => by kernel_rfl
  rw [run_indexAt_slice v _ _ _ _ .i64 i hu, if_pos ⟨by omega, by omega⟩, he, hz]
  simp only [Result.andThen_ok, Int.toNat_natCast]
  rw [Addr.add_lit]

end Go.Proofs.YtninkkdbcgadpaaGreatDoor

/-
  JournalCrashes: a disk behind a loss of power, beside what was there.
-/
namespace Go.Proofs.YtninkkdbcgadpaaGreatDoor
open Go.RowKit Go.Shelf
set_option linter.unusedVariables false
set_option linter.unusedSimpArgs false
set_option maxRecDepth 100000

theorem gens_new : Gens (play []) [] := ⟨List.Pairwise.nil, fun g => ⟨fun h => (by cases h), fun h => by
  have := h.2.2
  have e : play [] (jN g) = none := rfl
  rw [e] at this
  cases this⟩⟩
theorem files_new : ∀ l, FL (play []) l → l.length ≤ 1000000 := fun l hl => by
  cases l with
  | nil => simp
  | cons x r =>
    have h := (hl.mem x.1 x.2).2 (by simp)
    have e : play [] x.1 = none := rfl
    rw [e] at h
    cases h
theorem wt_new : wt (crS [] (jN 1)) ≤ 1 := by
  unfold crS
  split
  · rw [wt_app]; simp [wt, rCr]
  · simp [wt]
/-- The first journal on a new disk. -/
theorem CI.new {w w1 w2 : World} {d m j s : Nat} (hN : New0 w w1 d m (s : Int)) (ho : OpnR w1 w2 d j s ⟨m, .slice none 0 0, [], []⟩ (crS [] (jN 1)) 1 []) : ∃ D M, CI w w2 d j s 0 (crS [] (jN 1)) 1 D [] M := by
  obtain ⟨D, M, h1, h2, h3, h4, h5⟩ := ho
  refine ⟨D, M, h1, Solo.new, by omega, by omega, fun k hk => ?_, ?_, ?_⟩
  · rcases h5 k hk with (h | h) | h
    · exact hN.own k h
    · obtain ⟨x, hx, _⟩ := h
      cases hx
    · exact Nat.le_trans hN.bel.size h
  · exact hN.bel.trans (h2.below (fun k hk hf => by have := hN.own k hf; omega) hN.bel.size)
  · exact Bd.zero.mono (Nat.le_refl _) wt_new (by simp [fmA]) (by simp)
/-- The disk behind a loss of power: all its own memory is new. -/
structure CZ (w5 wz : World) (o s : Nat) (R : List Rw) (D : Dm) : Prop where
  dk : DkAt wz o s R D
  bel : Below w5.heap.size w5 wz
  own : ∀ k, D.own o k → w5.heap.size ≤ k
theorem CZ.below {w5 wz w' : World} {o s : Nat} {R : List Rw} {D : Dm} (h : CZ w5 wz o s R D) (hb : Below wz.heap.size wz w') : CZ w5 w' o s R D := ⟨h.dk.below hb, on_below h.bel hb, h.own⟩
theorem CZ.tt {w w5 wz : World} {o s : Nat} {R : List Rw} {D : Dm} (h : CZ w5 wz o s R D) (ht : TT w) (hb : Below w.heap.size w w5) : TT wz := ht.under (on_below hb h.bel) ht.kt.lt ht.pt.lt
theorem CZ.after {w w' : World} {o s : Nat} {D Do : Dm} {R : List Rw} (h : AfR w w' o s D R Do) : CZ w w' o s R Do := ⟨h.dk, h.bel, h.own⟩
theorem reopen_cz {w w5 wz : World} {o s : Nat} {R : List Rw} {D : Dm} (h : CZ w5 wz o s R D) (ht : TT w) (hb : Below w.heap.size w w5) (g : Nat) (t : List Nat) (ps : List (List Int)) (c : Nat) (hc : Crs (play R) g t ps c) (hps : (fmA ps).length ≤ 8000000) (hwt : wt R ≤ 1000000000000) :
    Calls Tryz.prog 8 #[.pointer (some ⟨o, 0, none⟩)] wz fun e w' => ∃ j K R' D' M', e = .returned (.tuple #[.pointer (some ⟨j, 0, none⟩), .int .i64 0]) ∧ K ≤ ps.length ∧ qL ps K ≤ c ∧ (K = ps.length ∨ c < qL ps (K + 1)) ∧ CZ w5 w' o s R' D' ∧ JnAt w' j o g (ps.take K) M' ∧ Solo (play R') g (fmA (ps.take K)) ∧ wt R' ≤ wt R + 2 ∧ (t = [] → c = (fmA ps).length → R' = R) ∧ Chs (D.own o) wz w' := by
  refine (reopen_any o s R D wz h.dk (h.tt ht hb) (fun W hW => ?_) g t ps c hc hps hwt).mono ?_
  · have h1 : Below w5.heap.size w5 W := h.bel.trans (hW.below (fun k hk hf => by have := h.own k hf; omega) h.bel.size)
    exact ht.under (on_below hb h1) ht.kt.lt ht.pt.lt
  · rintro e w' ⟨j, K, R', rfl, k1, k2, k3, ⟨D', M', p1, p2, p3, p4, p5⟩, k5, k6, k7⟩
    refine ⟨j, K, R', D', M', rfl, k1, k2, k3, ⟨p1.dk, ?_, fun k hk => ?_⟩, p1.jn, k5, k6, k7, p2⟩
    · exact h.bel.trans (p2.below (fun k hk hf => by have := h.own k hf; omega) h.bel.size)
    · rcases p4 k hk with hk | hk
      · exact h.own k hk
      · exact Nat.le_trans h.bel.size hk
theorem OwnV.over {w5 wz w' : World} {o s B : Nat} {R : List Rw} {D : Dm} {v : Value} {ns : List Value} (h : OwnV 9 w' B v ns) {wy : World} (hz : CZ w5 wz o s R D) (hB : wz.heap.size ≤ B) (hc : Chs (D.own o) w' wy) : OwnV 9 wy B v ns :=
  h.same (fun k hk => hc.block k (h.lt k hk).2 (fun hj => by have h1 := hz.dk.lt (.inl hj); have h2 := (h.lt k hk).1; omega))
theorem sec_ok (sec : Int) : ∃ s : Nat, wrap64 (1 + (wrap64 (sec.tmod 64 + 64)).tmod 64) = (s : Int) ∧ 1 ≤ s ∧ s ≤ 64 := by
  obtain ⟨c, h1, h2⟩ := mod_cut13 sec 63 (by omega)
  have e : ((63 + 1 : Nat) : Int) = 64 := rfl
  rw [e] at h1
  rw [h1]
  exact ⟨c + 1, by unfold wrap64; omega, by omega, by omega⟩

end Go.Proofs.YtninkkdbcgadpaaGreatDoor

/-
  The walk of JournalCrashes.
-/
namespace Go.Proofs.YtninkkdbcgadpaaGreatDoor
open Go.RowKit Go.Shelf
set_option linter.unusedVariables false
set_option linter.unusedSimpArgs false

theorem own_sl {w : World} {B : Nat} {v : Value} {ls : List (List Int)} (h : OwnV 9 w B v (lsC ls)) : ∃ a c, v = .slice a ls.length c := by
  obtain ⟨a, c, e⟩ := h.slice
  rw [lsC_length] at e
  exact ⟨a, c, e⟩
set_option maxRecDepth 100000 in
set_option maxHeartbeats 4000000 in
theorem jcrash_walk (sec : Int) (a1 : Option Addr) (n1 c1 : Nat) (L : List Aj) (cut : Int) (w : World) (h0 : (Lit.int .i64 sec).wf = true) (hL : Ajs w a1 n1 c1 L) (h2 : (Lit.int .i64 cut).wf = true) (ht : TT w) :
    Calls Tryz.prog 5 #[.int .i64 sec, .slice a1 n1 c1, .int .i64 cut] w fun e w' => e = .returned (.bool true) ∧ Below w.heap.size w w' := by
  have HL := hide hL
  have HT := hide ht
  clear hL ht h0 h2
  obtain ⟨s, hs, hs1, hs2⟩ := sec_ok sec
  have HS := hide hs
  clear hs
  go_enter Tryz.func5, Tryz.ntmps5
  go_wp2_with fail
  rw [HS.out]
  refine (new_ok _ _ (by omega) (by omega)).mono ?_
  rintro e w1 ⟨d, m, rfl, hN⟩
  have HN := hide hN
  clear hN HS
  go_wp2_with fail
  refine (jopen_new d s [] _ w1 (HN.out.dkAt hs1 (by omega)) (HT.out.on HN.out.bel) gens_new files_new (by simp [wt])).mono ?_
  rintro e w2 ⟨j, rfl, ho⟩
  obtain ⟨D0, M0, hci0⟩ := CI.new HN.out ho
  have C0 := hide hci0
  clear hci0 ho HN hs1 hs2
  go_wp2_with fail
  go_loopw [11] (fun i wr => ∃ (k : Nat) (rs : List Rw) (g : Nat) (D : Dm) (ls : List (List Int)) (M : Jm), i = .int .i64 (k : Int) ∧ k ≤ L.length ∧ Hid (CI w wr d j s (jbulk (L.take k)) rs g D ls M)) (fun i _ => L.length - (intOf i).toNat)
  case atStart => exact ⟨0, _, _, _, _, _, rfl, Nat.zero_le _, C0⟩
  case round =>
    clear C0
    obtain ⟨k, rs, g, D, ls, M, rfl, hkl, HI⟩ := hrel
    by_cases hlt : k < L.length
    · obtain ⟨x, hx⟩ : ∃ x, L[k]? = some x := ⟨_, List.getElem?_eq_getElem hlt⟩
      obtain ⟨b0, o0, rfl, hrg⟩ := HL.out.hcell k x hx
      have hlen := HL.out.hlen
      have hix := aj_at b0 o0 n1 c1 k (by omega)
      have HRG : Hid (∀ W, Below w.heap.size w W → W.cell? ⟨b0, o0 + k * 3, none⟩ = some (.bool x.cl) ∧ W.cell? ⟨b0, o0 + k * 3 + 1, none⟩ = some (.int .i64 x.k) ∧ W.cell? ⟨b0, o0 + k * 3 + 2, none⟩ = some (.slice x.a x.l x.c)) := hide (fun W hW => by
        have h := rangeAt_below hrg hW
        exact ⟨h 0 _ rfl, h 1 _ rfl, h 2 _ rfl⟩)
      have HXI := hide (HL.out.hin k x hx)
      obtain ⟨m0, HM0⟩ : ∃ m0, Hid (jbulk (L.take k) = m0) := ⟨_, hide rfl⟩
      have HM1 : Hid (jbulk (L.take (k + 1)) = m0 + (x.xs.length + 4) ∧ m0 + (x.xs.length + 4) ≤ 1048576) := hide (by
        have h1 := jbulk_succ L k x hx
        have h2 := jbulk_take L (k + 1)
        have h3 := HL.out.hsum
        rw [HM0.out] at h1
        unfold Aj.bulk at h1
        exact ⟨h1, by omega⟩)
      rw [HM0.out] at HI
      have hkb : k ≤ 1048576 := by have h1 := len_jbulk L; have h2 := HL.out.hsum; omega
      have hlti : (k : Int) < (n1 : Int) := by omega
      have HB := hide (HI.out.bd.out (by have := HM1.out; omega))
      clear hrg hx hlen
      go_wp2_with fail
      refine (listed_any j d g ls M _ HI.out.pj.jn (by have := HB.out; omega)).mono ?_
      rintro e w3 ⟨v, rfl, hv, hb3⟩
      obtain ⟨va, vc, rfl⟩ := own_sl hv
      have HI3 := hide (HI.out.below hb3)
      have HV := hide hv
      have HF : Hid (∀ k, JF d j D M k → k < wr.heap.size) := hide (fun k hk => HI.out.pj.lt hk)
      clear HI hv hb3
      go_wp2_with fail
      refine (writes_any d s rs D _ HI3.out.pj.dk).mono ?_
      rintro e w3 ⟨rfl, rfl⟩
      obtain ⟨c3a, c3b, c3c⟩ := HRG.out _ HI3.out.bel
      obtain ⟨q0, HQ0⟩ : ∃ q0, Hid (ls.length = q0) := ⟨_, hide rfl⟩
      obtain ⟨p0, HP0⟩ : ∃ p0, Hid (rs.length = p0) := ⟨_, hide rfl⟩
      rw [HQ0.out, HP0.out]
      rw [HQ0.out] at HV
      go_upto_if 58 with fail
      go_cut [14] from 44 to 177 (fun _ W => ∃ ls', Hid (Nx w w3 W d j s (jbulk (L.take (k + 1))) rs D ls M ls'))
      case first =>
        obtain ⟨cl, HCL⟩ : ∃ cl, Hid (x.cl = cl) := ⟨_, hide rfl⟩
        rw [HCL.out] at c3a
        rw [HCL.out]
        cases cl
        · as_aux_lemma =>
          obtain ⟨xl, HXL⟩ : ∃ xl, Hid (x.l = xl) := ⟨_, hide rfl⟩
          have HXE : Hid (x.xs.length = xl) := hide (by rw [HXI.out.sl.hlen]; exact HXL.out)
          rw [HXL.out] at c3c HRG
          clear c3a c3b
          by_cases hn : xl ≤ 65535
          · have hni : (xl : Int) ≤ 65535 := by omega
            go_wp2_with fail
            refine (jadd_ci w w3 d j s m0 rs g D ls M HI3.out HT.out x.a xl x.c x.xs (by rw [← HXL.out]; exact HXI.out.sl.below HI3.out.bel) hn (fun h0 y hy hd => by
              obtain ⟨b, o, e, hc⟩ := HXI.out.sl.hcell (by rw [HXL.out]; exact h0)
              have hb : y.block = b := by rw [hy] at e; cases e; rfl
              have h1 := World.block_lt_of_cell? w _ (hc 0 (by rw [HXL.out]; exact h0))
              have h2 := HI3.out.own y.block (.inl hd)
              rw [hb] at h2
              exact absurd h1 (by simp only [Nat.not_lt]; exact h2)) (by have := HM1.out; have := HXE.out; omega)).mono ?_
            rintro e w4 ⟨rfl, hn4⟩
            have HN4 : Hid (Nx w w3 w4 d j s (jbulk (L.take (k + 1))) rs D ls M (ls ++ [x.xs])) := hide (by have := HM1.out.1; rw [HXE.out] at this; rw [this]; exact hn4)
            clear hn4 c3c
            obtain ⟨_, rs4, g4, D4, M4, hci4, _, _⟩ := HN4.out
            obtain ⟨_, _, c4c⟩ := HRG.out _ hci4.bel
            have HJ4 := hide hci4.pj.jn
            clear hci4
            have hl4 : (ls ++ [x.xs]).length = q0 + 1 := by rw [List.length_append, HQ0.out]; rfl
            have HB4 := hide (HB.out.2.2)
            rw [HQ0.out] at HB4
            have hw4 : wrap64 ((q0 : Int) + 1) = ((q0 + 1 : Nat) : Int) := by have := HB4.out; unfold wrap64; omega
            obtain ⟨q1, HQ1⟩ : ∃ q1, Hid (q0 + 1 = q1) := ⟨_, hide rfl⟩
            rw [HQ1.out] at hl4 hw4
            go_wp2_with fail
            refine (jlen_ok HJ4.out).mono ?_
            rintro e w4 ⟨rfl, rfl⟩
            rw [hl4]
            go_wp2_with fail
            go_meet
            case rel => exact ⟨_, HN4⟩
          · have hni : ¬ (xl : Int) ≤ 65535 := by omega
            go_wp2_with fail
            refine (jadd_big HI3.out.pj.jn x.a xl x.c (by omega)).mono ?_
            rintro e w4 ⟨rfl, rfl⟩
            go_wp2_with fail
            go_meet
            case rel => exact ⟨_, hide (HI3.out.stay (by have := HM1.out; omega))⟩
        · as_aux_lemma =>
          clear c3a c3c
          go_wp2_with fail
          refine (jclear_ci w w3 d j s m0 rs g D ls M HI3.out HT.out x.k (jbulk (L.take (k + 1))) (by have := HM1.out; omega) (by have := HM1.out; omega)).mono ?_
          rintro e w4 ⟨v4, ls4, rfl, hn4⟩
          have HN4 := hide hn4
          clear hn4 c3b
          go_wp2_with fail
          go_meet
          case rel => exact ⟨_, HN4⟩
      case rest =>
        as_aux_lemma =>
        obtain ⟨ls4, HN⟩ := hcut
        obtain ⟨hch, rs4, g4, D4, M4, hci, hrl, hq⟩ := HN.out
        have HI4 := hide hci
        have HV4 := hide (HV.out.nx HF.out HN.out)
        have HQ := hide hq
        have HRL := hide hrl
        have HB4 := hide (hci.bd.out (by have := HM1.out; omega))
        clear hch hci hrl hq HN HV HF HI3 c3a c3b c3c HXI hix HRG
        go_wp2_with fail
        refine (listed_any j d g4 ls4 M4 _ HI4.out.pj.jn (by have := HB4.out; omega)).mono ?_
        rintro e w5 ⟨v5, rfl, hv5, hb5⟩
        obtain ⟨va5, vc5, rfl⟩ := own_sl hv5
        have HI5 := hide (HI4.out.below hb5)
        have HVI := hide hv5
        have HVW := hide (HV4.out.below hb5)
        obtain ⟨q4, HQ4⟩ : ∃ q4, Hid (ls4.length = q4) := ⟨_, hide rfl⟩
        rw [HQ4.out] at HVI
        rw [HQ4.out]
        clear HI4 hv5 hb5 HV4
        go_wp2_with fail
        refine (writes_any d s rs4 D4 _ HI5.out.pj.dk).mono ?_
        rintro e w5 ⟨rfl, rfl⟩
        obtain ⟨p4, HP4⟩ : ∃ p4, Hid (rs4.length = p4) := ⟨_, hide rfl⟩
        have HP4B : Hid (p4 ≤ 300000000000 ∧ p0 ≤ p4) := hide (by
          have h1 := len_wt rs4
          have h2 := HB4.out.1
          have h3 := HRL.out
          rw [HP0.out, HP4.out] at h3
          have h4 := HP4.out
          omega)
        obtain ⟨N, HN⟩ : ∃ N, Hid (p4 = p0 + N) := ⟨p4 - p0, hide (by have := HP4B.out; omega)⟩
        obtain ⟨N1, HN1⟩ : ∃ N1, Hid (N + 1 = N1) := ⟨_, hide rfl⟩
        have hw1 : wrap64 (wrap64 ((p4 : Int) - (p0 : Int)) + 1) = (N1 : Int) := by
          have h1 := HN.out
          have h2 := HN1.out
          have h3 := HP4B.out
          unfold wrap64
          omega
        rw [HP4.out]
        go_upto_region 15 with fail
        rw [hw1]
        have hz1 : ¬ (N1 : Int) = 0 := by have := HN1.out; omega
        have hz2 : ((N1 : Int) == 0) = false := by rw [beq_eq_false_iff_ne]; exact hz1
        clear hw1
        go_wp2_with fail
        obtain ⟨c, hc, hcN⟩ := mod_cut13 (wrap64 (cut + (k : Int))) N (by have := HN.out; have := HP4B.out; omega)
        rw [HN1.out] at hc
        obtain ⟨q, HQE⟩ : ∃ q, Hid (p0 + c = q) := ⟨_, hide rfl⟩
        have hqe : wrap64 ((p0 : Int) + (c : Int)) = (q : Int) := by
          have h1 := HQE.out
          have h2 := HN.out
          have h3 := HP4B.out
          unfold wrap64
          omega
        rw [hc, hqe]
        have HQB : Hid (p0 ≤ q ∧ q ≤ p4) := hide (by have h1 := HQE.out; have h2 := HN.out; omega)
        refine (after_any d s rs4 D4 _ HI5.out.pj.dk q (by rw [HP4.out]; exact HQB.out.2) (by have := HB4.out; omega)).mono ?_
        rintro e w6 ⟨o, Do, rfl, hA⟩
        obtain ⟨g6, t6, ps, c6, hcr, hbd, hK⟩ := HQ.out q (by rw [HP0.out]; exact HQB.out.1) (by rw [HP4.out]; exact HQB.out.2)
        have HZ6 := hide (CZ.after hA)
        have HCR := hide hcr
        have HBD := hide hbd
        have HK := hide hK
        clear hA hcr hbd hK hc hqe hz1 hz2 hcN HQ HRL
        go_wp2_with fail
        refine (reopen_cz HZ6.out HT.out HI5.out.bel g6 t6 ps c6 HCR.out (by have h1 := HBD.out; have h2 := HB4.out; have h3 := HB.out; omega) (by have h1 := wt_take rs4 q; have h2 := HB4.out; omega)).mono ?_
        rintro e w7 ⟨jx, K, R7, D7, M7, rfl, k1, k2, k3, hz7, hj7, hs7, hw7, _, _⟩
        obtain ⟨lx, HLX⟩ : ∃ lx, Hid (ps.take K = lx) := ⟨_, hide rfl⟩
        rw [HLX.out] at hj7 hs7
        have HCS : Hid ((lx = ls ∨ lx = ls4) ∧ (q = p4 → lx = ls4)) := hide (by
          have h := HK.out K k1 k2 k3
          rw [HLX.out, HP4.out] at h
          exact h)
        have HOK : Hid (∀ p ∈ lx, isB p ∧ p.length ≤ 65535) := hide (fun p hp => HCR.out.ok p (by rw [← HLX.out] at hp; exact List.mem_of_mem_take hp))
        have HG6 : Hid (1 ≤ g6 ∧ g6 ≤ 2147483647) := hide (by have h := (HCR.out.gens.mem g6).1 (by simp); exact ⟨h.1, h.2.1⟩)
        have HLB : Hid (lx.length ≤ 1000000 ∧ (fmA lx).length ≤ 8000000) := hide (by
          have h2 := HB4.out
          have h3 := HB.out
          rcases HCS.out.1 with e | e
          · rw [e]; omega
          · rw [e]; omega)
        have HZ7 := hide hz7
        have HJ7 := hide hj7
        have HS7 := hide hs7
        have HW7 : Hid (wt R7 ≤ 1000000000000) := hide (by have h1 := wt_take rs4 q; have h2 := HB4.out; omega)
        clear k1 k2 k3 hz7 hj7 hs7 hw7 HK HCR HBD HZ6 HLX
        go_wp2_with fail
        refine (listed_any jx o g6 lx M7 _ HJ7.out HLB.out.1).mono ?_
        rintro e w8 ⟨v8, rfl, hv8, hb8⟩
        obtain ⟨va8, vc8, rfl⟩ := own_sl hv8
        have HZ8 := hide (HZ7.out.below hb8)
        have HVL := hide hv8
        obtain ⟨q8, HQ8⟩ : ∃ q8, Hid (lx.length = q8) := ⟨_, hide rfl⟩
        rw [HQ8.out] at HVL
        rw [HQ8.out]
        have HVW8 := hide (HVW.out.below HZ8.out.bel)
        have HVI8 := hide (HVI.out.below HZ8.out.bel)
        have HDK8 := hide (HI5.out.pj.dk.below HZ8.out.bel)
        clear hv8 hb8 HVW HVI HJ7
        go_upto_region 23 with fail
        go_cut [155] from 44 to 177 (fun r W => r = .bool false ∧ Hid (Below w8.heap.size w8 W))
        case first =>
          by_cases hA : lx = ls4
          · have HA := hide hA
            clear hA
            go_wp2_with fail
            refine (same13_any _ _ lx ls _ _ _ HVL.out HVW8.out HLB.out.1).mono ?_
            rintro e w9 ⟨b, rfl, _, hb9⟩
            have B9 := hide hb9
            clear hb9
            cases b
            · go_wp2_with fail
              refine (same13_any _ _ lx ls4 _ _ _ (HVL.out.below B9.out) (HVI8.out.below B9.out) HLB.out.1).mono ?_
              rintro e w10 ⟨b, rfl, hb, hb10⟩
              obtain rfl : b = true := hb HA.out
              have B10 := hide (on_below B9.out hb10)
              clear hb hb10 B9
              by_cases hqp : q = p4
              · subst hqp
                go_wp2_with fail
                refine (writes_any d s rs4 D4 _ (HDK8.out.below B10.out)).mono ?_
                rintro e w11 ⟨rfl, rfl⟩
                rw [HP4.out]
                go_wp2_with fail
                refine (same13_any _ _ lx ls4 _ _ _ (HVL.out.below B10.out) (HVI8.out.below B10.out) HLB.out.1).mono ?_
                rintro e w12 ⟨b, rfl, hb, hb12⟩
                obtain rfl : b = true := hb HA.out
                have B12 := hide (on_below B10.out hb12)
                clear hb hb12
                go_wp2_with fail
                go_meet
                case rel => exact ⟨rfl, B12⟩
              · have hqn : ¬ (q : Int) = (p4 : Int) := by omega
                go_wp2_with fail
                refine (writes_any d s rs4 D4 _ (HDK8.out.below B10.out)).mono ?_
                rintro e w11 ⟨rfl, rfl⟩
                rw [HP4.out]
                go_wp2_with fail
                go_meet
                case rel => exact ⟨rfl, B10⟩
            · skip
              by_cases hqp : q = p4
              · subst hqp
                go_wp2_with fail
                refine (writes_any d s rs4 D4 _ (HDK8.out.below B9.out)).mono ?_
                rintro e w11 ⟨rfl, rfl⟩
                rw [HP4.out]
                go_wp2_with fail
                refine (same13_any _ _ lx ls4 _ _ _ (HVL.out.below B9.out) (HVI8.out.below B9.out) HLB.out.1).mono ?_
                rintro e w12 ⟨b, rfl, hb, hb12⟩
                obtain rfl : b = true := hb HA.out
                have B12 := hide (on_below B9.out hb12)
                clear hb hb12
                go_wp2_with fail
                go_meet
                case rel => exact ⟨rfl, B12⟩
              · have hqn : ¬ (q : Int) = (p4 : Int) := by omega
                go_wp2_with fail
                refine (writes_any d s rs4 D4 _ (HDK8.out.below B9.out)).mono ?_
                rintro e w11 ⟨rfl, rfl⟩
                rw [HP4.out]
                go_wp2_with fail
                go_meet
                case rel => exact ⟨rfl, B9⟩
          · have HA : Hid (lx = ls) := hide (HCS.out.1.resolve_right hA)
            have hqn : ¬ (q : Int) = (p4 : Int) := fun e => hA (HCS.out.2 (by omega))
            clear hA
            go_wp2_with fail
            refine (same13_any _ _ lx ls _ _ _ HVL.out HVW8.out HLB.out.1).mono ?_
            rintro e w9 ⟨b, rfl, hb, hb9⟩
            obtain rfl : b = true := hb HA.out
            have B9 := hide hb9
            clear hb hb9
            go_wp2_with fail
            refine (writes_any d s rs4 D4 _ (HDK8.out.below B9.out)).mono ?_
            rintro e w11 ⟨rfl, rfl⟩
            rw [HP4.out]
            go_wp2_with fail
            go_meet
            case rel => exact ⟨rfl, B9⟩
        case rest =>
          obtain ⟨rfl, HB9⟩ := hcut
          have HZ9 := hide (HZ8.out.below HB9.out)
          have HVL9 := hide (HVL.out.below HB9.out)
          clear HB9 HVL HZ8 HVW8 HVI8 HDK8
          go_wp2_with fail
          refine (writes_any o s R7 D7 _ HZ9.out.dk).mono ?_
          rintro e w11 ⟨rfl, rfl⟩
          obtain ⟨r7, HR7⟩ : ∃ r7, Hid (R7.length = r7) := ⟨_, hide rfl⟩
          rw [HR7.out]
          go_wp2_with fail
          refine (reopen_cz HZ9.out HT.out HI5.out.bel g6 [] lx _ (HS7.out.crs HG6.out.1 HG6.out.2 HOK.out) HLB.out.2 HW7.out).mono ?_
          rintro e w12 ⟨jy, K2, R2, D12, M12, rfl, y1, y2, y3, hz12, hj12, hs12, _, hRR, hch12⟩
          obtain rfl := hRR rfl rfl
          have hK2 := full_K y1 y3
          rw [hK2, List.take_length] at hj12
          have HZ12 := hide hz12
          have HJ12 := hide hj12
          have HVL12 := hide (HVL9.out.over HZ7.out (Nat.le_refl _) hch12)
          clear y1 y2 y3 hz12 hj12 hs12 hRR hch12 hK2 HZ9 HVL9 HZ7
          go_wp2_with fail
          refine (listed_any jy o g6 lx M12 _ HJ12.out HLB.out.1).mono ?_
          rintro e w13 ⟨v13, rfl, hv13, hb13⟩
          obtain ⟨va13, vc13, rfl⟩ := own_sl hv13
          rw [HQ8.out] at hv13
          rw [HQ8.out]
          have HZ13 := hide (HZ12.out.below hb13)
          have HVL13 := hide (HVL12.out.below hb13)
          have HVY := hide hv13
          clear hv13 hb13 HZ12 HJ12 HVL12
          go_wp2_with fail
          refine (same13_any _ _ lx lx _ _ _ HVY.out HVL13.out HLB.out.1).mono ?_
          rintro e w14 ⟨b, rfl, hb, hb14⟩
          obtain rfl : b = true := hb rfl
          have HZ14 := hide (HZ13.out.below hb14)
          clear hb hb14 HZ13 HVL13 HVY
          go_wp2_with fail
          refine (writes_any o s _ D12 _ HZ14.out.dk).mono ?_
          rintro e w15 ⟨rfl, rfl⟩
          rw [HR7.out]
          have CE := hide (HI5.out.below HZ14.out.bel)
          clear HZ14 HI5
          go_wp2
          go_roundw
          case rel => exact ⟨k + 1, _, _, _, _, _, by go_num, by omega, CE⟩
          case measure => simp [intOf]; omega
    · have hkl2 : k = L.length := by omega
      have hlen := HL.out.hlen
      have hlti : ¬ (k : Int) < (n1 : Int) := by omega
      have BB := hide HI.out.bel
      clear hkl2 hlen HI
      go_wp2
      go_ret
      exact ⟨rfl, BB.out⟩

end Go.Proofs.YtninkkdbcgadpaaGreatDoor
