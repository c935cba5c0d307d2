/-
  Texts one behind the other: Kac Kmk Zfw FrZw Skb Skd Ske Frg Jrg Skf Fkr Sck Skr Scu Sal Srb Snb SnbLaw FrSa FrZa.
-/
import Derived.Test.YtlgcjdgcgnlcaaaGreatDoorMe
import Derived.Test.YtlgcjdgcgnlcaaaGreatDoorNw
import Derived.Test.YtlgcjdgcgnlcaaaGreatDoorKmj
import Derived.Test.YtlgcjdgcgnlcaaaGreatDoorSdg
import Derived.Test.YtlgcjdgcgnlcaaaGreatDoorFr
import Derived.Deep.Strs
import Derived.Deep.Slices
import Derived.Test.YtlgcjdgcgnlcaaaGreatDoorSka
import Derived.Test.YtlgcjdgcgnlcaaaGreatDoorKmh
import Derived.Test.YtlgcjdgcgnlcaaaGreatDoorTpb
import Derived.Test.YtlgcjdgcgnlcaaaGreatDoorKql
import Derived.Test.YtlgcjdgcgnlcaaaGreatDoorIs
import Derived.Test.YtlgcjdgcgnlcaaaGreatDoorOu
import Derived.Test.YtlgcjdgcgnlcaaaGreatDoorKnb
import Derived.Test.YtlgcjdgcgnlcaaaGreatDoorSfrD

/-
  Acts in memory: a call's kind, names, bytes and numbers.
-/
namespace Go.Proofs.YtlgcjdgcgnlcaaaGreatDoor
open Go.RowKit
set_option linter.unusedVariables false

/-- An act's cells. -/
def acC (k : Int) (n t : ByteArray) (v : Value) (p q : Int) : List Value := [.int .i64 k, .string n, .string t, v, .int .i64 p, .int .i64 q]
/-- An act. -/
structure Ac where
  k : Int
  n : ByteArray
  t : ByteArray
  a : Option Addr
  l : Nat
  c : Nat
  xs : List Int
  p : Int
  q : Int
def Ac.cells (x : Ac) : List Value := acC x.k x.n x.t (.slice x.a x.l x.c) x.p x.q
/-- How much an act weighs. -/
def Ac.bulk (x : Ac) : Nat := x.n.size + x.t.size + x.xs.length + 1
def bulks (L : List Ac) : Nat := (L.map Ac.bulk).sum
/-- Numbers that the machine has; its bytes lie in memory. -/
structure Ac.In (w : World) (x : Ac) : Prop where
  sl : Sl w x.a x.l x.c x.xs
  k : -9223372036854775808 ≤ x.k ∧ x.k ≤ 9223372036854775807
  p : -9223372036854775808 ≤ x.p ∧ x.p ≤ 9223372036854775807
  q : -9223372036854775808 ≤ x.q ∧ x.q ≤ 9223372036854775807
theorem Ac.In.below {w w' : World} {x : Ac} (h : x.In w) (hb : Below w.heap.size w w') : x.In w' := ⟨h.sl.below hb, h.k, h.p, h.q⟩
/-- A slice of acts. -/
structure Acts (w : World) (a : Option Addr) (len cap : Nat) (L : List Ac) : Prop where
  hlen : L.length = len
  hcap : len ≤ cap
  hmax : cap ≤ 9223372036854775807
  hsum : bulks L ≤ 1048576
  hin : ∀ (i : Nat) x, L[i]? = some x → x.In w
  hcell : ∀ (i : Nat) x, L[i]? = some x → ∃ b off, a = some ⟨b, off, none⟩ ∧ w.rangeAt b (off + i * 6) x.cells
theorem rangeAt_below {w w' : World} {b o : Nat} {vs : List Value} (h : w.rangeAt b o vs) (hb : Below w.heap.size w w') : w'.rangeAt b o vs := fun j v hv => by
  have := h j v hv
  exact cell_kept this hb
theorem Acts.below {w w' : World} {a : Option Addr} {len cap : Nat} {L : List Ac} (h : Acts w a len cap L) (hb : Below w.heap.size w w') : Acts w' a len cap L :=
  ⟨h.hlen, h.hcap, h.hmax, h.hsum, fun i x hx => (h.hin i x hx).below hb, fun i x hx => by
    obtain ⟨b, off, e, hr⟩ := h.hcell i x hx
    exact ⟨b, off, e, rangeAt_below hr hb⟩⟩
end Go.Proofs.YtlgcjdgcgnlcaaaGreatDoor

/-
  The law's call: one act done to a disk; acts one behind the other.
-/
namespace Go.Proofs.YtlgcjdgcgnlcaaaGreatDoor
open Go.RowKit
set_option linter.unusedVariables false

theorem OpR.step {a b c : World} {d s : Nat} {D D1 : Dm} {rs2 : List Rw} (h2 : Chs (D.own d) a b) (h3 : ∀ k, D1.own d k → D.own d k ∨ a.heap.size ≤ k) (h4 : ∀ k, D1.ro k → D.ro k ∨ a.heap.size ≤ k) (k : OpR b c d s D1 rs2) : OpR a c d s D rs2 := by
  obtain ⟨D2, k1, k2, k3, k4⟩ := k
  have hsz := h2.size
  refine ⟨D2, k1, h2.after k2 h3, fun z hz => ?_, fun z hz => ?_⟩
  · rcases k3 z hz with h | h
    · exact h3 z h
    · exact .inr (Nat.le_trans hsz h)
  · rcases k4 z hz with h | h
    · exact h4 z h
    · exact .inr (Nat.le_trans hsz h)
end Go.Proofs.YtlgcjdgcgnlcaaaGreatDoor

/-
  A world in memory: a slice of files.
-/
namespace Go.Proofs.YtlgcjdgcgnlcaaaGreatDoor
open Go.RowKit
set_option linter.unusedVariables false

/-- A file. -/
structure Fw where
  n : ByteArray
  a : Option Addr
  l : Nat
  c : Nat
  xs : List Int
def fwC (n : ByteArray) (v : Value) : List Value := [.string n, v]
def Fw.cells (x : Fw) : List Value := fwC x.n (.slice x.a x.l x.c)
theorem Fw.one (x : Fw) : One x.cells := by
  intro v hv
  simp [Fw.cells, fwC] at hv
  rcases hv with rfl | rfl <;> rfl
/-- How much a file weighs. -/
def Fw.bulk (x : Fw) : Nat := x.xs.length + 3
def fbulk (L : List Fw) : Nat := (L.map Fw.bulk).sum
/-- A slice of files. -/
structure Fws (w : World) (a : Option Addr) (len cap : Nat) (L : List Fw) : Prop where
  hlen : L.length = len
  hcap : len ≤ cap
  hmax : cap ≤ 9223372036854775807
  hsum : fbulk L ≤ 1048576
  hin : ∀ (i : Nat) x, L[i]? = some x → Sl w x.a x.l x.c x.xs
  hcell : ∀ (i : Nat) x, L[i]? = some x → ∃ b off, a = some ⟨b, off, none⟩ ∧ w.rangeAt b (off + i * 2) x.cells
theorem Fws.below {w w' : World} {a : Option Addr} {len cap : Nat} {L : List Fw} (h : Fws w a len cap L) (hb : Below w.heap.size w w') : Fws w' a len cap L :=
  ⟨h.hlen, h.hcap, h.hmax, h.hsum, fun i x hx => (h.hin i x hx).below hb, fun i x hx => by
    obtain ⟨b, off, e, hr⟩ := h.hcell i x hx
    exact ⟨b, off, e, rangeAt_below hr hb⟩⟩
theorem fbulk_app (L M : List Fw) : fbulk (L ++ M) = fbulk L + fbulk M := by simp [fbulk]
theorem fbulk_take (L : List Fw) : ∀ k, fbulk (L.take k) ≤ fbulk L := fun k => by
  have h := fbulk_app (L.take k) (L.drop k)
  rw [List.take_append_drop] at h
  omega
theorem fbulk_succ (L : List Fw) (k : Nat) (x : Fw) (h : L[k]? = some x) : fbulk (L.take (k + 1)) = fbulk (L.take k) + x.bulk := by
  obtain ⟨hk, rfl⟩ := List.getElem?_eq_some_iff.1 h
  rw [List.take_succ_eq_append_getElem hk, fbulk_app]
  simp [fbulk]
theorem len_fbulk (L : List Fw) : 3 * L.length ≤ fbulk L := by
  induction L with
  | nil => simp
  | cons x r ih => simp [fbulk, Fw.bulk] at ih ⊢; omega

end Go.Proofs.YtlgcjdgcgnlcaaaGreatDoor

/-
  From how an argument is read as data to what the walks are told of it: a world.
-/
namespace Go.Proofs.YtlgcjdgcgnlcaaaGreatDoor
open Go.ChangeShapes Go.WideShapes Go.ChangeAt Go.RowKit
set_option linter.unusedVariables false

theorem cbA : Tryz.prog.cellsOf 44 = 1 := by kernel_rfl
theorem ciA : Tryz.prog.cellsOf 3 = 1 := by kernel_rfl
theorem uiA : Tryz.prog.underlying 3 = some (.int .i64) := by kernel_rfl
theorem cutA {L x : List Value} {k n : Nat} (h : (L.drop k).take n = x) : L.drop k = x ++ L.drop (k + n) := by
  rw [← h, ← List.drop_drop, List.take_append_drop]
set_option maxRecDepth 100000 in
theorem slA_trod {H : Type} {enc : TypeId × Value → H} {W : World} {fuel : Nat} {cs : List Value} {x : DataW H × List MemPlace}
    (hf : DataW.trod enc Tryz.prog W 0 (fun _ => true) true fuel 44 cs = some x) :
    ∃ a len cap xs, cs = [.slice a len cap] ∧ xs.length = len ∧ (Rows.uptoBulk x.1 ≤ 1048576 → Sl W a len cap xs ∧ len + 1 ≤ Rows.uptoBulk x.1) := by
  rcases open_ints undBs undB (by kernel_rfl) hf with ⟨hcs, hx⟩ | ⟨x', l, c, zs, hcs, _, hl, hm, hz, hx, hcell, hwz⟩
  · refine ⟨none, 0, 0, [], hcs, rfl, fun _ => ⟨⟨rfl, Nat.le_refl _, by omega, by omega, (fun x hx => by simp at hx), fun _ => ⟨rfl, rfl⟩, fun h => absurd h (Nat.lt_irrefl 0)⟩, ?_⟩⟩
    rw [hx]
    simp [Rows.uptoBulk]
  · simp only [if_true] at hz
    have hb : Rows.uptoBulk x.1 = c + 1 := by
      rw [hx]
      simp only [Rows.uptoBulk, bulk_ints, List.length_take, List.length_drop]
      omega
    refine ⟨some x', l, c, zs.take l, hcs, by simp; omega, fun hb2 => ⟨⟨by simp; omega, hl, by omega, by omega, fun y hy => bounds_u8 (hwz y (List.mem_of_mem_take hy)), (fun e => by cases e), fun h0 => ?_⟩, by omega⟩⟩
    obtain ⟨b, off, spot⟩ := x'
    have hs : spot = none := by simpa [Addr.add] using World.cell?_spot (hcell 0 (by omega))
    subst hs
    refine ⟨b, off, rfl, fun i hi => ?_⟩
    have e := hcell i (by omega)
    rw [Addr.add_lit] at e
    rw [e]
    simp [List.getD, hi]

theorem bulk_each {H : Type} (D : Nat → DataW H) (f : Nat → Nat) : ∀ l : List Nat, (∀ i ∈ l, f i ≤ Rows.uptoBulk (D i)) → (l.map f).sum ≤ Rows.uptoBulkAll (l.map D)
  | [], _ => by simp [Rows.uptoBulkAll]
  | i :: r, h => by
    have h1 := h i (by simp)
    have h2 := bulk_each D f r (fun j hj => h j (by simp [hj]))
    simp only [List.map_cons, List.sum_cons, Rows.uptoBulkAll]
    omega
theorem bulk_le {H : Type} (D : Nat → DataW H) : ∀ l : List Nat, ∀ i ∈ l, Rows.uptoBulk (D i) ≤ Rows.uptoBulkAll (l.map D)
  | [], i, h => by cases h
  | j :: r, i, h => by
    simp only [List.map_cons, Rows.uptoBulkAll]
    rcases List.mem_cons.1 h with rfl | h
    · omega
    · have := bulk_le D r i h
      omega

theorem csW : Tryz.prog.cellsOf 9 = 1 := by kernel_rfl
theorem cfW : Tryz.prog.cellsOf 74 = 2 := by kernel_rfl
theorem cfsW : Tryz.prog.cellsOf 22 = 1 := by kernel_rfl
theorem cwW : Tryz.prog.cellsOf 24 = 2 := by kernel_rfl
theorem usW : Tryz.prog.underlying 9 = some .string := by kernel_rfl

set_option maxRecDepth 100000 in
set_option maxHeartbeats 1000000 in
theorem fw_trod {H : Type} {enc : TypeId × Value → H} {W : World} {fuel : Nat} {L : List Value} {x : DataW H × List MemPlace} (hL : L.length = 2)
    (hf : DataW.trod enc Tryz.prog W 0 (fun _ => true) true fuel 74 L = some x) :
    ∃ z : Fw, L = z.cells ∧ (Rows.uptoBulk x.1 ≤ 1048576 → Sl W z.a z.l z.c z.xs ∧ z.bulk ≤ Rows.uptoBulk x.1) := by
  have hu := Tryz.underlying74
  obtain ⟨xs, n, _, hx, _, hxl, hfs⟩ := DataW.trod_struct hu hf
  match xs, hxl with
  | [y0, y1], _ =>
    have h0 : DataW.trod enc Tryz.prog W 0 (fun _ => true) true n 9 ((L.drop 0).take (Tryz.prog.cellsOf 9)) = some y0 := hfs 0 _ rfl
    have h1 : DataW.trod enc Tryz.prog W 0 (fun _ => true) true n 44 ((L.drop 1).take (Tryz.prog.cellsOf 44)) = some y1 := hfs 1 _ rfl
    rw [csW] at h0
    rw [cbA] at h1
    obtain ⟨s1, e0, x0, _⟩ := DataW.trod_string usW h0
    obtain ⟨a, l, c, zs, e1, hzl, s2⟩ := slA_trod h1
    have hb : Rows.uptoBulk x.1 = (s1.size + 1) + Rows.uptoBulk y1.1 + 1 := by
      rw [hx]
      simp only [List.map_cons, List.map_nil, Rows.uptoBulk, Rows.uptoBulkAll, x0, Array.length_toList]
      have t1 : s1.data.size = s1.size := rfl
      omega
    refine ⟨⟨s1, a, l, c, zs⟩, ?_, fun hm => ?_⟩
    · have d0 := cutA e0
      have d1 := cutA e1
      have dd : L.drop 2 = [] := List.drop_of_length_le (by omega)
      simp only [Nat.reduceAdd] at d0 d1
      rw [← List.drop_zero (l := L), d0, d1, dd]
      rfl
    · obtain ⟨t1, t2⟩ := s2 (by omega)
      exact ⟨t1, by simp only [Fw.bulk, hzl]; omega⟩

set_option maxRecDepth 100000 in
theorem fws_trod {H : Type} {enc : TypeId × Value → H} {W : World} {fuel : Nat} {cs : List Value} {y : DataW H × List MemPlace}
    (hf : DataW.trod enc Tryz.prog W 0 (fun _ => true) true fuel 22 cs = some y) (hm : Rows.uptoBulk y.1 ≤ 1048576) :
    ∃ a len cap L, cs = [.slice a len cap] ∧ Fws W a len cap L ∧ fbulk L + 1 ≤ Rows.uptoBulk y.1 := by
  have hs : Tryz.prog.underlying 22 = some (.slice 74) := by kernel_rfl
  rcases Deep.open_slice hs hf with ⟨hcs, hx⟩ | ⟨x, len, cap, m, n, D, Pl, hcs, _, hl, hmx, hmm, hx, hel⟩
  · refine ⟨none, 0, 0, [], hcs, ⟨rfl, Nat.le_refl _, by omega, by simp [fbulk], fun i x hx => by simp at hx, fun i x hx => by simp at hx⟩, ?_⟩
    rw [hx]
    simp [fbulk, Rows.uptoBulk]
  · have hmc : m = cap := by simpa using hmm
    subst hmc
    have hb : Rows.uptoBulkAll ((List.range len).map D) + 1 ≤ Rows.uptoBulk y.1 := by
      rw [hx]
      simp only [Rows.uptoBulk]
      omega
    have hsp : 0 < len → x.spot = none := fun h0 => by
      obtain ⟨cs', h1, _⟩ := hel 0 (by omega)
      rw [cfW] at h1
      obtain ⟨_, hlen, hcell⟩ := World.cells?_some h1
      have := hcell 0 (by omega)
      rw [List.getElem?_eq_getElem (by omega)] at this
      simpa [Addr.add] using World.cell?_spot this
    have each : ∀ i, i < len → ∃ z : Fw, W.rangeAt x.block (x.off + i * 2) z.cells ∧ x.spot = none ∧ Sl W z.a z.l z.c z.xs ∧ z.bulk ≤ Rows.uptoBulk (D i) := by
      intro i hi
      obtain ⟨cs', h1, h2⟩ := hel i (by omega)
      rw [cfW] at h1
      obtain ⟨_, hlen, hcell⟩ := World.cells?_some h1
      obtain ⟨z, hz, hq⟩ := fw_trod hlen h2
      have hbi := bulk_le D (List.range len) i (List.mem_range.2 hi)
      obtain ⟨q1, q2⟩ := hq (by show Rows.uptoBulk (D i) ≤ 1048576; omega)
      obtain ⟨b, off, spot⟩ := x
      have hs : spot = none := hsp (by omega)
      subst hs
      refine ⟨z, fun j v hv => ?_, rfl, q1, q2⟩
      have hj : j < 2 := by
        have := (List.getElem?_eq_some_iff.1 hv).1
        rw [← hz, hlen] at this
        exact this
      have := hcell j hj
      rw [hz, hv, Addr.add_lit, Addr.add_lit] at this
      exact this
    have hI : Inhabited Fw := ⟨⟨ByteArray.empty, none, 0, 0, []⟩⟩
    obtain ⟨y', hy⟩ := Deep.choose_lt each
    have hL : ∀ i z, ((List.range len).map y')[i]? = some z → i < len ∧ z = y' i := by
      intro i z hz
      rw [List.getElem?_map] at hz
      obtain ⟨j, hj, rfl⟩ := Option.map_eq_some_iff.1 hz
      have h3 := List.getElem?_eq_some_iff.1 hj
      obtain ⟨h4, h5⟩ := h3
      simp at h4 h5
      exact ⟨h4, by rw [h5]⟩
    have hsum : fbulk ((List.range len).map y') ≤ Rows.uptoBulkAll ((List.range len).map D) := by
      unfold fbulk
      rw [List.map_map]
      exact bulk_each D _ _ (fun i hi => (hy i (List.mem_range.1 hi)).2.2.2)
    refine ⟨some x, len, m, (List.range len).map y', hcs, ⟨by simp, hl, by unfold maxLen at hmx; omega, by omega, fun i z hz => ?_, fun i z hz => ?_⟩, by omega⟩
    · obtain ⟨h1, rfl⟩ := hL i z hz
      exact (hy i h1).2.2.1
    · obtain ⟨h1, rfl⟩ := hL i z hz
      refine ⟨x.block, x.off, ?_, (hy i h1).1⟩
      have := (hy i h1).2.1
      obtain ⟨b, off, spot⟩ := x
      subst this
      rfl

set_option maxRecDepth 100000 in
theorem wld_upto {H : Type} {enc : TypeId × Value → H} {W : World} {base : Nat} {v : Value} {d : DataW H} {p : List MemPlace}
    (hv : Value.okWide Tryz.prog W .any base 24 v) (h : DataW.Trod enc Tryz.prog W 0 (fun _ => true) true 24 v d p) (hm : Rows.uptoBulk d ≤ 1048576) :
    ∃ (k : Int) (a : Option Addr) (len cap : Nat) (L : List Fw), v = .agg #[.int .i64 k, .slice a len cap] ∧ (-9223372036854775808 ≤ k ∧ k ≤ 9223372036854775807) ∧ Fws W a len cap L ∧ fbulk L ≤ Rows.uptoBulk d := by
  have hu := Tryz.underlying24
  obtain ⟨cs, rfl, hsz2⟩ := okWide_struct hu hv
  obtain ⟨L⟩ := cs
  have hL : L.length = 2 := by
    rw [cwW] at hsz2
    simpa using hsz2
  obtain ⟨fuel, hf⟩ := h
  obtain ⟨xs, n, _, hx, _, hxl, hfs⟩ := DataW.trod_struct hu hf
  match xs, hxl with
  | [y0, y1], _ =>
    have h0 : DataW.trod enc Tryz.prog W 0 (fun _ => true) true n 3 ((L.drop 0).take (Tryz.prog.cellsOf 3)) = some y0 := hfs 0 _ rfl
    have h1 : DataW.trod enc Tryz.prog W 0 (fun _ => true) true n 22 ((L.drop 1).take (Tryz.prog.cellsOf 22)) = some y1 := hfs 1 _ rfl
    rw [ciA] at h0
    rw [cfsW] at h1
    obtain ⟨k, e0, x0, w0⟩ := DataW.trod_int uiA h0
    have hb : Rows.uptoBulk d = 1 + Rows.uptoBulk y1.1 + 1 := by
      have hx' : d = .agg ([y0, y1].map (·.1)) := congrArg Prod.fst hx
      rw [hx']
      simp only [List.map_cons, List.map_nil, Rows.uptoBulk, Rows.uptoBulkAll, x0]
      omega
    obtain ⟨a, l, c, zs, e1, s1, s2⟩ := fws_trod h1 (by omega)
    refine ⟨k, a, l, c, zs, ?_, bounds_i64 w0, s1, by omega⟩
    have d0 := cutA e0
    have d1 := cutA e1
    have dd : L.drop 2 = [] := List.drop_of_length_le (by omega)
    simp only [Nat.reduceAdd] at d0 d1
    have : L = [.int .i64 k, .slice a l c] := by
      rw [← List.drop_zero (l := L), d0, d1, dd]
      rfl
    rw [this]

end Go.Proofs.YtlgcjdgcgnlcaaaGreatDoor

/-
  What Put leaves of a level, without any program: a level that was filled from nothing, digest by digest; what a loss of power leaves of it.
-/
namespace Go.Proofs.YtlgcjdgcgnlcaaaGreatDoor
open Go.RowKit
set_option linter.unusedVariables false
set_option linter.unusedSimpArgs false

/-- What Put writes: a file where there is none, and a digest. -/
def puW (s : Nat) (rs : List Rw) (n : ByteArray) (x : List Int) : List Rw := apS s (crS rs n) n x
/-- Digests have 32 bytes each. -/
def D32 (xs : List (List Int)) : Prop := ∀ x ∈ xs, x.length = 32
theorem D32.take {xs : List (List Int)} (k : D32 xs) (n : Nat) : D32 (xs.take n) := fun x hx => k x (List.mem_of_mem_take hx)
theorem D32.drop {xs : List (List Int)} (k : D32 xs) (n : Nat) : D32 (xs.drop n) := fun x hx => k x (List.mem_of_mem_drop hx)
section
variable {F : ByteArray → Option (List Int)} {h : Nat} {xs : List (List Int)}
/-- The digest j. -/
theorem flat_at : ∀ (ys : List (List Int)) (j : Nat), D32 ys → j < ys.length → (ys.flatten.drop (j * 32)).take 32 = ys.getD j []
  | [], j, _, hj => by simp at hj
  | y :: t, 0, k, _ => by
    have h1 := k y (by simp)
    simp [List.take_append_of_le_length (Nat.le_of_eq h1.symm), List.take_of_length_le (Nat.le_of_eq h1)]
  | y :: t, j + 1, k, hj => by
    have h1 := k y (by simp)
    have ih := flat_at t j (fun z hz => k z (List.mem_cons_of_mem _ hz)) (by simpa using hj)
    rw [List.flatten_cons, Nat.add_mul, Nat.one_mul, List.drop_append, List.drop_of_length_le (by omega), List.nil_append, show j * 32 + 32 - y.length = j * 32 by omega, ih]
    simp
end

/-! ### the raw writes of a Put -/
theorem crS_is {rs : List Rw} {n : ByteArray} (hn : nmB n = true) : crS rs n = if play rs n = none then rs ++ [rCr n] else rs := by
  unfold crS crE
  rw [if_pos hn]
  cases hf : play rs n with
  | none => simp
  | some xs => simp
/-- What Put's raw writes make, and those of a beginning of them. -/
theorem puW_play {s : Nat} {rs : List Rw} (hs : 1 ≤ s) (hv : Val s (fun _ => none) rs) {n : ByteArray} (hn : nmB n = true) {x : List Int} (h0 : x ≠ []) (hB : isB x) :
    Val s (fun _ => none) (puW s rs n x) ∧ play (puW s rs n x) = upd (play rs) n (some (fl (play rs) n ++ x)) ∧ wt (puW s rs n x) ≤ wt rs + 2 * x.length + 2 := by
  have key : ∀ qs : List Rw, Val s (fun _ => none) qs → (∃ ys, play qs n = some ys) → Val s (fun _ => none) (apS s qs n x) ∧ play (apS s qs n x) = upd (play qs) n (some (fl (play qs) n ++ x)) ∧ wt (apS s qs n x) ≤ wt qs + 2 * x.length + 1 := by
    rintro qs hq ⟨ys, hys⟩
    have e0 : fE qs n = 0 := by simp [fE, hn, hys]
    have e1 : apS s qs n x = qs ++ expd s ⟨rAp n x, qs.length, (fl (play qs) n).length⟩ := by unfold apS; rw [if_pos ⟨e0, h0⟩]
    have hl : Leg (play qs) (rAp n x) := .inr (.inl ⟨n, x, ys, rfl, hn, hys, h0, hB⟩)
    obtain ⟨d1, d2⟩ := expd_does hs (e := ⟨rAp n x, qs.length, (fl (play qs) n).length⟩) hl rfl
    rw [e1]
    refine ⟨(Val_app s qs _ _).2 ⟨hq, d2⟩, ?_, ?_⟩
    · rw [play_app]
      show List.foldl doR (play qs) _ = _
      rw [d1]
      exact do_ap _ _ _
    · rw [wt_app]
      have := expd_wt hs ⟨rAp n x, qs.length, (fl (play qs) n).length⟩
      change _ ≤ 2 * x.length + 1 at this
      omega
  unfold puW
  rw [crS_is hn]
  by_cases hf : play rs n = none
  · rw [if_pos hf]
    have e2 : play (rs ++ [rCr n]) = upd (play rs) n (some []) := by rw [play_snoc, do_cr]
    have hv2 : Val s (fun _ => none) (rs ++ [rCr n]) := (Val_app s rs _ _).2 ⟨hv, ⟨.inl ⟨n, rfl, hn, hf⟩, fun h => by simp [rCr] at h⟩, trivial⟩
    obtain ⟨a, b, c⟩ := key _ hv2 ⟨[], by rw [e2, upd_same]⟩
    refine ⟨a, ?_, ?_⟩
    · rw [b, e2, upd_upd, fl_upS]
      simp [fl_none hf]
    · rw [wt_app] at c
      have e : wt [rCr n] = 1 := rfl
      omega
  · rw [if_neg hf]
    obtain ⟨ys, hys⟩ : ∃ ys, play rs n = some ys := by
      cases h : play rs n with
      | none => exact absurd h hf
      | some ys => exact ⟨ys, rfl⟩
    obtain ⟨a, b, c⟩ := key _ hv ⟨ys, hys⟩
    exact ⟨a, b, by omega⟩

end Go.Proofs.YtlgcjdgcgnlcaaaGreatDoor

/-
  The names of tiles' files: the program's Name; isMade, check.
-/
namespace Go.Proofs.YtlgcjdgcgnlcaaaGreatDoor
open Go.RowKit
set_option linter.unusedVariables false
set_option linter.unusedSimpArgs false

/-- May the full tile of these numbers be? -/
def smB (h l i : Int) : Bool := decide (0 ≤ h) && decide (0 ≤ l) && decide (0 ≤ i) && tFB h.toNat l.toNat i.toNat
def smP (h l i : Int) : List UInt8 := if smB h l i = true then sP h.toNat l.toNat i.toNat else []
def smE (h l i : Int) : Int := if smB h l i = true then 0 else 2
theorem smB_nat (h l i : Nat) : smB (h : Int) (l : Int) (i : Int) = tFB h l i := by
  unfold smB
  simp only [Int.toNat_natCast]
  have a : decide ((0 : Int) ≤ (h : Int)) = true := by simp
  have b : decide ((0 : Int) ≤ (l : Int)) = true := by simp
  have c : decide ((0 : Int) ≤ (i : Int)) = true := by simp
  rw [a, b, c]
  simp
theorem smP_nat (h l i : Nat) : bA (smP (h : Int) (l : Int) (i : Int)) = sN h l i := by
  unfold smP sN
  rw [smB_nat]
  simp only [Int.toNat_natCast]
  by_cases k : tFB h l i = true
  · rw [if_pos k]
  · rw [if_neg k, sP_no (by simpa using k)]
theorem smB_nats {h l i : Int} (k : smB h l i = true) : ∃ H L I : Nat, h = H ∧ l = L ∧ i = I ∧ tFB H L I = true := by
  unfold smB at k
  simp only [Bool.and_eq_true, decide_eq_true_eq] at k
  exact ⟨h.toNat, l.toNat, i.toNat, by omega, by omega, by omega, k.2⟩
theorem smB_tOK {h l i : Int} {H : Nat} (e : h = (H : Int)) : smB h l i = true ↔ tOK h l i ((2 ^ H : Nat) : Int) := by
  constructor
  · intro k
    obtain ⟨H', L, I, e1, rfl, rfl, k⟩ := smB_nats k
    obtain rfl : H = H' := by omega
    rw [e]
    exact tFB_ok k
  · intro k
    obtain ⟨H', L, I, N, e1, rfl, rfl, e4, k1, k2, k3⟩ := k
    obtain rfl : H = H' := by omega
    rw [e, smB_nat]
    refine tFB_of k1 ?_
    have : 2 ^ H = N := Int.ofNat.inj e4
    omega
theorem smB_h {h l i : Int} (k : h < 1 ∨ 8 < h) : smB h l i = false := by
  cases e : smB h l i with
  | false => rfl
  | true =>
    obtain ⟨H, L, I, rfl, _, _, q⟩ := smB_nats e
    have := (tFB_is q).1
    have := this.1
    have := (tFB_is q).1.2
    omega
section
variable {dst : Option Tmp} {ty : TypeId} {pos : String} {aft : Array Edge} {gd : Option (Nat × Bool)} {ops : Array Oper} {rest : List Oper} {a : Act} {w : World} {Q : Exit → Act → World → Prop}
theorem step_buildT4 {x y z u : Operand} {h l i n : Int} (hw : Region.wanted ⟨dst, .build 43 #[(0, x), (1, y), (2, z), (3, u)], ty, pos, aft, gd⟩ (yielded ops a.tmps) = true) (hx : a.eval x = .int .i64 h) (hy : a.eval y = .int .i64 l) (hz : a.eval z = .int .i64 i) (hu : a.eval u = .int .i64 n)
    (k : wpList Tryz.prog ops Q rest (a.put dst (.agg (c4 h l i n).toArray)) w) : wpList Tryz.prog ops Q (⟨dst, .build 43 #[(0, x), (1, y), (2, z), (3, u)], ty, pos, aft, gd⟩ :: rest) a w :=
  step_run hw _ w (run_op (M := Instr.build 43 #[(0, .int .i64 h), (1, .int .i64 l), (2, .int .i64 i), (3, .int .i64 n)]) (by simp [execOp, hx, hy, hz, hu]) (by kernel_rfl)) k
end
theorem wrap_pow {H P : Nat} (hh : isH H) (hP : 2 ^ H = P) : wrap64 (2 ^ H) = (P : Int) := by
  have e : ((2 : Int) ^ H) = (P : Int) := by rw [← hP]; simp [Int.natCast_pow]
  have := hh.pow
  rw [e]
  unfold wrap64
  omega
set_option maxHeartbeats 1000000 in
theorem fullT_any (H P : Nat) (l i : Int) (w : World) (hh : isH H) (hP : 2 ^ H = P) : Calls Tryz.prog 67 #[.int .i64 (H : Int), .int .i64 l, .int .i64 i] w fun r w' => r = .returned (.agg (c4 (H : Int) l i (P : Int)).toArray) ∧ Below w.heap.size w w' := by
  obtain ⟨h1, h8⟩ := hh.ints
  have HW := hide (wrap_pow hh hP)
  clear hP hh
  go_enter Tryz.func67, Tryz.ntmps67
  go_wp2_with (refine step_alloc zT rfl ?_)
  intro w1 g1 hg1 hle1 hb1
  have HG := hide hg1
  clear hg1
  go_wp2_with (first | (rw [HW.out]) | (refine step_buildT4 rfl rfl rfl rfl rfl ?_) | (refine step_storeA wT rfl rfl rfl HG.out rfl (One.c4 _ _ _ _) rfl ?_; intro w2 hg2 hbut))
  refine bodyPost_ret (results_wide rfl wT _ _ rfl hg2 rfl) rfl ⟨rfl, ?_⟩
  exact hb1.trans (hbut.below hle1)
set_option maxHeartbeats 1000000 in
theorem sname_any (h l i : Int) (w : World) (hl : l ≤ 9223372036854775807) (hi : i ≤ 9223372036854775807) (ht : PT w) :
    Calls Tryz.prog 32 #[.int .i64 h, .int .i64 l, .int .i64 i] w fun r w' => r = .returned (.tuple #[.string (bA (smP h l i)), .int .i64 (smE h l i)]) ∧ Below w.heap.size w w' := by
  by_cases hb : h < 1 ∨ 8 < h
  · have e1 : smP h l i = [] := by unfold smP; rw [smB_h hb]; rfl
    have e2 : smE h l i = 2 := by unfold smE; rw [smB_h hb]; rfl
    rw [e1, e2]
    clear e1 e2 ht
    by_cases h1 : h < 1
    · clear hb
      go_enter Tryz.func32, Tryz.ntmps32
      go_wp2
      go_ret2
      exact ⟨rfl, Below.refl _ _⟩
    · have h8 : 8 < h := by omega
      clear hb
      go_enter Tryz.func32, Tryz.ntmps32
      go_wp2
      go_ret2
      exact ⟨rfl, Below.refl _ _⟩
  · obtain ⟨H, hH⟩ : ∃ H : Nat, h = (H : Int) := ⟨h.toNat, by omega⟩
    have hh : isH H := ⟨by omega, by omega⟩
    have hf1 : ¬ h < 1 := by omega
    have hf8 : ¬ 8 < h := by omega
    have hf : ∀ W : World, Calls Tryz.prog 67 #[.int .i64 h, .int .i64 l, .int .i64 i] W fun r w' => r = .returned (.agg (c4 h l i ((2 ^ H : Nat) : Int)).toArray) ∧ Below W.heap.size W w' := fun W => by
      rw [hH]
      exact fullT_any H (2 ^ H) l i W hh rfl
    obtain ⟨p, e, hpe, hp⟩ := path_any h l i ((2 ^ H : Nat) : Int) hl hi
    have e1 : p = smP h l i ∧ e = smE h l i := by
      rcases hpe with ⟨rfl, k, rfl⟩ | ⟨rfl, k, rfl⟩
      · have kb := (smB_tOK hH).2 k
        unfold smP smE
        rw [if_pos kb, if_pos kb]
        obtain ⟨H', L, I, e1, rfl, rfl, k2⟩ := smB_nats kb
        obtain rfl : H = H' := by omega
        refine ⟨?_, rfl⟩
        rw [hH]
        simp only [Int.toNat_natCast]
        rw [sP_ok k2]
      · have kb : ¬ smB h l i = true := fun kb => k ((smB_tOK hH).1 kb)
        unfold smP smE
        rw [if_neg kb, if_neg kb]
        exact ⟨rfl, rfl⟩
    obtain ⟨rfl, rfl⟩ := e1
    have HF := hide hf
    have HP := hide hp
    have HT := hide ht
    clear hf hp ht hpe hb hl hi hH
    generalize smP h l i = p at *
    generalize smE h l i = e at *
    generalize ((2 ^ H : Nat) : Int) = q at *
    go_enter Tryz.func32, Tryz.ntmps32
    go_wp2_with fail
    refine (HF.out _).mono ?_
    rintro r w1 ⟨rfl, hb1⟩
    have T1 := HT.out.below hb1
    go_wp2_with fail
    refine (HP.out _ T1).mono ?_
    rintro r w2 ⟨rfl, hb2⟩
    have q2 := on_below hb1 hb2
    clear hb1 hb2 T1
    go_wp2
    go_ret2
    exact ⟨rfl, q2⟩
section
variable (d s : Nat) (rs : List Rw) (D : Dm) (w : World) (hd : DkAt w d s rs D)
include hd
theorem madeS_any : Calls Tryz.prog 45 #[.pointer (some ⟨d, 0, none⟩)] w fun r w' => r = .returned (.bool true) ∧ w' = w := by
  have HH := hide hd
  have h1 : (0 : Int) < (s : Int) := by have := hd.s1; omega
  clear hd
  go_enter Tryz.func45, Tryz.ntmps45
  go_wp2_with (go_at_call 77; refine (sector_any d s rs D _ HH.out).mono ?_; rintro e w ⟨rfl, rfl⟩)
  go_ret
  exact ⟨by simp; omega, rfl⟩
theorem scheck_any (h l : Int) (hl : l ≤ 9223372036854775807) (ht : PT w) : Calls Tryz.prog 51 #[.pointer (some ⟨d, 0, none⟩), .int .i64 h, .int .i64 l] w fun r w' => r = .returned (.int .i64 (smE h l 0)) ∧ Below w.heap.size w w' := by
  have HM := hide (madeS_any d s rs D w hd)
  have HN := hide (sname_any h l 0 w hl (by decide) ht)
  clear hd ht hl
  generalize smE h l 0 = e at *
  generalize smP h l 0 = p at *
  go_enter Tryz.func51, Tryz.ntmps51
  go_wp2_with (go_at_call 45; refine HM.out.mono ?_; rintro r w' ⟨rfl, rfl⟩)
  refine HN.out.mono ?_
  rintro r w1 ⟨rfl, hb1⟩
  go_wp2
  go_ret
  exact ⟨rfl, hb1⟩
end

end Go.Proofs.YtlgcjdgcgnlcaaaGreatDoor

/-
  A digest read, a file made ready; Put where the number of digests is known.
-/
namespace Go.Proofs.YtlgcjdgcgnlcaaaGreatDoor
open Go.RowKit
set_option linter.unusedVariables false
set_option linter.unusedSimpArgs false
set_option maxRecDepth 100000

theorem zDs : Zeroed 32 (u8s (zer 32)) := fun _ _ _ _ _ _ _ => by kernel_rfl
theorem wDs : Wide 32 32 := ⟨by kernel_rfl, by kernel_rfl⟩
theorem slice_Ds (g : Nat) (v : World) : (Instr.sliceAt 32 (.pointer (some ⟨g, 0, none⟩)) none none none).run Tryz.prog v = .ok (.slice (some ⟨g, 0, none⟩) 32 32) v := by kernel_rfl
theorem spl_fullS {cs vs : List Value} (h : vs.length = cs.length) : spl cs vs 0 = vs := by
  unfold spl
  rw [List.drop_of_length_le (by omega)]
  simp
theorem DkAt.valS {w : World} {d s : Nat} {rs : List Rw} {D : Dm} (h : DkAt w d s rs D) : Val s (fun _ => none) rs := by
  have := h.rok.val h.s1 (D.es.map (·.1)).length (Nat.le_refl _)
  rwa [List.take_length, h.raw] at this
theorem DkAt.byB {w : World} {d s : Nat} {rs : List Rw} {D : Dm} (h : DkAt w d s rs D) (n : ByteArray) : isB (fl (play rs) n) := by
  cases hf : play rs n with
  | none => simp only [fl, hf]; intro x hx; cases hx
  | some xs =>
    obtain ⟨v, _, _, hb⟩ := h.fil.get hf
    simp only [fl, hf]
    exact hb
theorem isB.dropS {xs : List Int} (h : isB xs) (n : Nat) : isB (xs.drop n) := fun x hx => h x (List.mem_of_mem_drop hx)
theorem isB.takeS {xs : List Int} (h : isB xs) (n : Nat) : isB (xs.take n) := fun x hx => h x (List.mem_of_mem_take hx)
section
variable (d s : Nat) (rs : List Rw) (D : Dm) (w : World) (hd : DkAt w d s rs D)
include hd
set_option maxHeartbeats 1000000 in
theorem digest_any (n : ByteArray) (p : Nat) (hn : nmB n = true) (hp : p + 32 ≤ (fl (play rs) n).length) (hwt : wt rs ≤ 1099511000000) :
    Calls Tryz.prog 54 #[.pointer (some ⟨d, 0, none⟩), .string n, .int .i64 (p : Int)] w fun r w' => r = .returned (.agg (u8s (((fl (play rs) n).drop p).take 32)).toArray) ∧ Below w.heap.size w w' := by
  have hex : ∃ xs, play rs n = some xs := by
    cases hf : play rs n with
    | none => simp [fl, hf] at hp
    | some xs => exact ⟨xs, rfl⟩
  obtain ⟨xs, hxs⟩ := hex
  have hfe : fE rs n = 0 := by simp [fE, hn, hxs]
  have e1 : rqE rs n (p : Int) 32 = 0 := by unfold rqE; rw [if_pos hfe, if_neg (by omega)]
  have e2 : rqB rs n (p : Int) 32 = ((fl (play rs) n).drop p).take 32 := by
    unfold rqB
    rw [if_pos e1]
    show ((fl (play rs) n).drop p).take (min 32 ((fl (play rs) n).length - p)) = _
    rw [Nat.min_eq_left (by omega)]
  have hB : isB (((fl (play rs) n).drop p).take 32) := ((hd.byB n).dropS p).takeS 32
  have hL : (((fl (play rs) n).drop p).take 32).length = 32 := by rw [List.length_take, List.length_drop]; omega
  have HH := hide hd
  have HW := hide hwt
  have hrd := fun (W : World) (hW : DkAt W d s rs D) => read_any d s rs D W hW n (p : Int) 32 hwt
  rw [e1, e2] at hrd
  have HR := hide hrd
  generalize ((fl (play rs) n).drop p).take 32 = ys at *
  have HB := hide hB
  have HL := hide hL
  have HUL : Hid ((u8s ys).length = 32) := hide (by rw [u8s_length, hL])
  clear hrd hd hB hL e1 e2 hfe hxs hp hwt hn
  go_enter Tryz.func54, Tryz.ntmps54
  go_wp2_with (refine step_alloc zDs rfl ?_)
  intro w1 g1 hg1 hle1 hb1
  have HG1 := hide hg1
  have HB1 := hide hb1
  clear hg1
  go_wp2_with fail
  refine (HR.out _ (HH.out.below hb1)).mono ?_
  rintro r w2 ⟨v, rfl, ho2, hb2⟩
  obtain ⟨va, vc, rfl, hs2⟩ := ho2.sl' HB.out (by rw [HL.out]; omega)
  rw [HL.out] at hs2 ⊢
  have HS2 := hide hs2
  have HG2 := hide (HG1.out.on hb2)
  have HB2 := hide (on_below HB1.out hb2)
  have hsa := slice_Ds g1
  have hle2 : w.heap.size ≤ g1 := hle1
  clear hs2 ho2 hb2 hb1 HG1 HB1
  go_wp2_with (first | (refine step_copy rfl rfl rfl HS2.out g1 0 32 rfl HG2.out (fun _ => rfl) (by rw [u8s_length, zer_length]; decide) ?_; intro w3 hg3 hbut3; rw [List.take_of_length_le (Nat.le_of_eq HL.out), spl_fullS (by rw [HUL.out, u8s_length, zer_length])] at hg3; have HG3 := hide hg3; clear hg3) | (refine step_loadA wDs rfl rfl HG3.out HUL.out ?_) | (refine step_storeA wDs rfl rfl rfl HG3.out HUL.out (One.u8 _) HUL.out ?_; intro w4 hg4 hbut4))
  refine bodyPost_ret (results_wide rfl wDs _ _ rfl hg4 HUL.out) rfl ⟨rfl, ?_⟩
  exact (HB2.out.trans (hbut3.below hle2)).trans (hbut4.below hle2)
/-- Is something torn at the end of a file? -/
def reE (rs : List Rw) (n : ByteArray) : Int := if (fl (play rs) n).length % 32 = 0 then 0 else 130
def reS (rs : List Rw) (n : ByteArray) : List Rw := if (fl (play rs) n).length % 32 = 0 then crS rs n else rs
omit hd in
theorem crS_some {rs : List Rw} {n : ByteArray} {xs : List Int} (hn : nmB n = true) (h : play rs n = some xs) : crS rs n = rs := by
  have e : crE rs n = 120 := by simp [crE, hn, h]
  simp [crS, e]
set_option maxHeartbeats 1000000 in
theorem ready_any (n : ByteArray) (hn : nmB n = true) (hwt : wt rs + 1 ≤ 1099511000000) :
    Calls Tryz.prog 33 #[.pointer (some ⟨d, 0, none⟩), .string n] w fun r w' => r = .returned (.int .i64 (reE rs n)) ∧ OpR w w' d s D (reS rs n) := by
  have HH := hide hd
  have HSZ := hide (size_any d s rs D w hd n)
  cases hf : play rs n with
  | none =>
    have hfe : fE rs n = 121 := by simp [fE, hn, hf]
    have hcr : crE rs n = 0 := by simp [crE, hn, hf]
    have hfl : fl (play rs) n = [] := by simp [fl, hf]
    have e1 : reE rs n = 0 := by simp [reE, hfl]
    have e2 : reS rs n = crS rs n := by simp [reS, hfl]
    have hc := create_any d s rs D w hd n hwt
    rw [hcr] at hc
    have HC := hide hc
    rw [e1, e2]
    rw [hfe] at HSZ
    clear hd hc hfe hcr hfl e1 e2 hf hwt hn
    go_enter Tryz.func33, Tryz.ntmps33
    go_wp2_with (go_at_call 68; refine HSZ.out.mono ?_; rintro r w' ⟨rfl, rfl⟩; simp only [show ¬ ((121 : Int) = 0) by decide, if_false])
    refine HC.out.mono ?_
    rintro r w1 ⟨rfl, ho⟩
    go_wp2
    go_ret
    exact ⟨rfl, ho⟩
  | some xs =>
    have hfe : fE rs n = 0 := by simp [fE, hn, hf]
    have hfl : fl (play rs) n = xs := by simp [fl, hf]
    rw [hfe, hfl] at HSZ
    have hxl : xs.length ≤ 1099511000000 := by
      have := play_wt rs n
      rw [hfl] at this
      omega
    have hm : ((xs.length : Int).tmod 32) = ((xs.length % 32 : Nat) : Int) := by rw [Int.tmod_eq_emod_of_nonneg (by omega)]; omega
    have hm2 : ((xs.length : Int) % 32) = ((xs.length % 32 : Nat) : Int) := by omega
    by_cases h0 : xs.length % 32 = 0
    · have e1 : reE rs n = 0 := by simp [reE, hfl, h0]
      have e2 : reS rs n = rs := by simp [reS, hfl, h0, crS_some hn hf]
      rw [e1, e2]
      rw [h0] at hm hm2
      generalize xs.length = L at *
      clear hd hfe hfl e1 e2 hf hwt hn h0
      go_enter Tryz.func33, Tryz.ntmps33
      go_wp2_with (go_at_call 68; refine HSZ.out.mono ?_; rintro r w' ⟨rfl, rfl⟩; simp only [if_true])
      go_ret
      exact ⟨rfl, OpR.refl HH.out⟩
    · have e1 : reE rs n = 130 := by simp [reE, hfl, h0]
      have e2 : reS rs n = rs := by simp [reS, hfl, h0]
      rw [e1, e2]
      have h0' : ¬ ((xs.length % 32 : Nat) : Int) = 0 := by omega
      generalize xs.length % 32 = q at *
      generalize xs.length = L at *
      clear hd hfe hfl e1 e2 hf hwt hn h0
      go_enter Tryz.func33, Tryz.ntmps33
      go_wp2_with (go_at_call 68; refine HSZ.out.mono ?_; rintro r w' ⟨rfl, rfl⟩; simp only [if_true])
      go_ret
      exact ⟨rfl, OpR.refl HH.out⟩
end

end Go.Proofs.YtlgcjdgcgnlcaaaGreatDoor

/-
  A range over a function that hands out what lies in memory: at each round the body is told what lies there, and the function what the body has left as it was.
-/
namespace Go.Proofs.YtlgcjdgcgnlcaaaGreatDoor
open Go.RowKit Go.Shelf
set_option linter.unusedVariables false

section
variable {F : Fence} {n : Nat} {P : Program}
/-- What a function that is ranged over does: R: what it sees to when it hands out x behind pre; Kp: what it asks of a round that goes on. -/
def SeqR {α : Type} (F : Fence) (n : Nat) (P : Program) (g : Nat) (lb : Array Value) (encs : α → Array Value) (R : List α → α → World → Prop) (Kp : α → World → World → Prop) (S Sp : List α → Prop) (w : World) : Prop :=
  ∀ (l : Nat) (J Jx : List α → World → Prop) (W : World), Below w.heap.size w W → AbidesFrom W.heap.size J → AbidesFrom W.heap.size Jx →
    (∀ pre x W1, J pre W1 → R pre x W1 → YieldAt F (n - 1) P l (encs x) W1 fun e W' => (e = .returned (.bool true) ∧ J (pre ++ [x]) W' ∧ Kp x W1 W') ∨ (e = .returned (.bool false) ∧ Jx (pre ++ [x]) W')) →
    J [] W → CallsIn F n P g (#[.func (.yield l) #[] #[]] ++ lb) W fun e W' => (∃ v, e = .returned v) ∧ ((∃ xs, S xs ∧ J xs W') ∨ (∃ pre, Sp pre ∧ Jx pre W'))

/-- The loop's record. -/
def lrec (fn : FuncId) (tmps : Array Value) (ps : Array Tmp) (assign body : Code) (D : Nat) (st : LoopState) (pe : Option Code) : Loop :=
  { state := st, pending := pe, fn := fn, tmps := tmps, params := ps, assign := assign, body := body, defers := D }
/-- The record lies behind the block for what is deferred. -/
structure Bk (r : Loop) (D : Nat) (W : World) : Prop where
  loop : W.heap[D + 1]? = some (.loop r)
  mark : W.heap[D]? = some (.deferred (some []))
theorem Bk.keep {r : Loop} {D : Nat} {W W' : World} (h : Bk r D W) (k : KeepsFrom D W W') : Bk r D W' :=
  ⟨k.same _ _ (by omega) h.loop rfl, k.same _ _ (Nat.le_refl _) h.mark rfl⟩
theorem Bk.put {r : Loop} {D : Nat} {W : World} (h : Bk r D W) (r' : Loop) : Bk r' D (W.putObj (D + 1) (.loop r')) :=
  ⟨World.putObj_heap_same (Array.getElem?_eq_some_iff.1 h.loop).1, (World.putObj_heap_other (by omega)).trans h.mark⟩
theorem Bk.abide {r : Loop} {D B : Nat} {W W' : World} {row : Option Nat} (h : Bk r D W) (hg : W.grownBy W' row) (hr : ∀ q, row = some q → B ≤ q ∧ ∃ o : Obj, W.heap[q]? = some o ∧ o.isWalk = true) : Bk r D W' :=
  ⟨(grownBy_keeps hg (fun q e => (hr q e).2) h.loop rfl).trans h.loop, (grownBy_keeps hg (fun q e => (hr q e).2) h.mark rfl).trans h.mark⟩
theorem Bk.new (w : World) (r : Loop) : Bk r w.heap.size ((w.alloc (.deferred (some []))).alloc (.loop r)) := by
  constructor
  · have := World.alloc_heap_new (w.alloc (.deferred (some []))) (.loop r)
    rwa [World.size_alloc] at this
  · exact (Below.heap_alloc _ _ _ (by simp)).trans (World.alloc_heap_new w _)

/-- One round: what the body leaves is what yield hands back. -/
theorem round_R {m : Nat} {fn : FuncId} {tmps : Array Value} {ps : Array Tmp} {assign body : Code} {D : Nat} (hfn : F.fn fn) {args : Array Value} (hps : args.size = ps.size) {W : World} (hB : Bk (lrec fn tmps ps assign body D .ready none) D W) {a' : Act} {Post : Ending → World → Prop}
    (hassign : ∀ K : Act → World → Prop, K a' W → assign.wpIn (F.inRound (D + 1)) m P (Exit.then K (fun _ _ _ => False)) { tmps := (ps.zip args).foldl (fun t (p, v) => t.setIfInBounds p v) tmps, defers := [] } W)
    (hbody : body.wpIn (F.inRound (D + 1)) m P (fun e _ W' => match e with
      | .normal => Bk (lrec fn tmps ps assign body D .busy none) D W' ∧ Post (.returned (.bool true)) (W'.putObj (D + 1) (.loop (lrec fn tmps ps assign body D .ready none)))
      | .ret => Bk (lrec fn tmps ps assign body D .busy none) D W' ∧ Post (.returned (.bool false)) (W'.putObj (D + 1) (.loop (lrec fn tmps ps assign body D .done (some .ret))))
      | .exit id => Bk (lrec fn tmps ps assign body D .busy none) D W' ∧ Post (.returned (.bool false)) (W'.putObj (D + 1) (.loop (lrec fn tmps ps assign body D .done (some (.exit id)))))
      | .goto u => Bk (lrec fn tmps ps assign body D .busy none) D W' ∧ Post (.returned (.bool false)) (W'.putObj (D + 1) (.loop (lrec fn tmps ps assign body D .done (some (.goto u)))))
      | _ => False) a' (W.putObj (D + 1) (.loop (lrec fn tmps ps assign body D .busy none)))) :
    YieldAt F m P (D + 1) args W Post := by
  refine ⟨fn, _, assign, body, run_yield (P := P) (args := args) hB.loop hps, roundIn_of_wpIn hfn (hassign _ ?_)⟩
  refine ⟨_, run_beginRound hB.loop rfl, wpIn_mono hbody ?_⟩
  intro e a3 W3 hp
  cases e with
  | normal => exact ⟨_, _, run_endRound none hp.1.loop, hp.2⟩
  | ret => exact ⟨_, _, run_endRound (some .ret) hp.1.loop, hp.2⟩
  | exit id => exact ⟨_, _, run_endRound (some (.exit id)) hp.1.loop, hp.2⟩
  | goto u => exact ⟨_, _, run_endRound (some (.goto u)) hp.1.loop, hp.2⟩
  | panic ch => exact hp.elim
  | outgrown => exact hp.elim

theorem rangeR {α : Type} {g : Operand} {ps : Array Tmp} {assign body : Code} {Q : Exit → Act → World → Prop} {a : Act} {w : World}
    (hro : F.round = none) (h1 : 1 ≤ n) {gf : Nat} {lb : Array Value} (hg : a.eval g = .func (.func gf) #[] lb) (hFg : F.fn gf) (eg : ∀ args w, (callFunc gf args).run P w = .ok (.enter gf args) w)
    {encs : α → Array Value} {R : List α → α → World → Prop} {Kp : α → World → World → Prop} {S Sp : List α → Prop} (hseq : SeqR F (n - 1) P gf lb encs R Kp S Sp w)
    (hKt : ∀ {x : α} {A B C : World}, Kp x A B → Kp x B C → Kp x A C) (hKb : ∀ (x : α) (W : World) (l : Nat) (o o' : Obj), w.heap.size ≤ l → W.heap[l]? = some o → o.isCells = false → Kp x W (W.putObj l o')) (hps : ∀ x, (encs x).size = ps.size)
    (hR : ∀ pre x, OwnFrom w.heap.size (fun (_ : Unit) W => R pre x W))
    (I : List α → World → Prop) (Ix : Code → List α → World → Prop) (hI : OwnFrom w.heap.size I) (hIx : ∀ c, OwnFrom w.heap.size (Ix c)) (h0 : I [] w) (a₁ : α → Act)
    (hassign : ∀ (l : Nat) (x : α) (W : World) (K : Act → World → Prop), K (a₁ x) W →
      assign.wpIn (F.inRound l) (n - 1 - 1) P (Exit.then K (fun _ _ _ => False)) { tmps := (ps.zip (encs x)).foldl (fun t (p, v) => t.setIfInBounds p v) a.tmps, defers := [] } W)
    (hbody : ∀ (l : Nat) (pre : List α) (x : α) (W : World), I pre W → R pre x W → body.wpIn (F.inRound l) (n - 1 - 1) P (ownPostG w.heap.size (Kp x) I Ix (pre ++ [x]) W) (a₁ x) W)
    (hdone : ∀ (D : Nat) (xs : List α) (W : World), w.heap.size ≤ D → S xs → I xs W → W.heap[D]? = some (.deferred (some [])) → Q .normal { a with defers := { target := .collected D, args := #[] } :: a.defers } W)
    (hstop : ∀ (D : Nat) (c : Code) (pre : List α) (W : World), w.heap.size ≤ D → Sp pre → Ix c pre W → W.heap[D]? = some (.deferred (some [])) → c.wpIn F n P Q { a with defers := { target := .collected D, args := #[] } :: a.defers } W) :
    (Code.rangeFunc g ps assign body).wpIn F n P Q a w := by
  refine wpIn_rangeFunc fun fn hfn => ?_
  rw [hro]
  obtain ⟨W1, hW1⟩ : ∃ W1, (w.alloc (.deferred (some []))).alloc (.loop (lrec fn a.tmps ps assign body w.heap.size .ready none)) = W1 := ⟨_, rfl⟩
  have B1 : Bk (lrec fn a.tmps ps assign body w.heap.size .ready none) w.heap.size W1 := by rw [← hW1]; exact Bk.new w _
  have b1 : Below w.heap.size w W1 := by rw [← hW1]; exact ((Below.refl _ w).alloc (Nat.le_refl _) _).alloc (by simp) _
  have s1 : w.heap.size ≤ W1.heap.size := b1.size
  have far : ∀ {A : World} {row : Option Nat}, (∀ r, row = some r → W1.heap.size ≤ r ∧ ∃ o : Obj, A.heap[r]? = some o ∧ o.isWalk = true) → ∀ r, row = some r → w.heap.size ≤ r ∧ ∃ o : Obj, A.heap[r]? = some o ∧ o.isCells = false :=
    fun hr r e => by obtain ⟨hb, o, ho, hw⟩ := hr r e; exact ⟨by omega, o, ho, Obj.not_cells_of_walk hw⟩
  refine ⟨w.heap.size + 1, [{ target := .collected w.heap.size, args := #[] }], W1, { target := .fn (.func gf) lb, args := #[.func (.yield (w.heap.size + 1)) #[] #[]] }, W1, gf,
    #[.func (.yield (w.heap.size + 1)) #[] #[]] ++ lb, W1, by rw [← hW1]; exact run_enterLoop_outer _ _ _ _ _, by simp only [resolve, hg]; simp [go_sem], fun f' hf' => by simp [Target.leads] at hf'; subst hf'; exact hFg, by simp [invoke, go_sem, eg], fun _ => h1, ?_⟩
  refine (hseq (w.heap.size + 1) (fun pre W => I pre W ∧ Bk (lrec fn a.tmps ps assign body w.heap.size .ready none) w.heap.size W) (fun pre W => ∃ c, Ix c pre W ∧ Bk (lrec fn a.tmps ps assign body w.heap.size .done (some c)) w.heap.size W) W1 b1
    (fun s A B row hs hg' hr => ⟨hI s A B row hs.1 hg' (far hr), hs.2.abide hg' hr⟩)
    (fun s A B row hs hg' hr => by obtain ⟨c, hc, hb⟩ := hs; exact ⟨c, hIx c s A B row hc hg' (far hr), hb.abide hg' hr⟩) ?_
    ⟨by rw [← hW1]; exact hI.alloc _ (hI.alloc _ h0), B1⟩).mono ?_
  · rintro pre x W ⟨hi, hB⟩ hr
    refine round_R hfn (hps x) hB (hassign _ x W) ?_
    have hB2 := hB.put (lrec fn a.tmps ps assign body w.heap.size .busy none)
    have hK2 : Kp x W (W.putObj (w.heap.size + 1) (.loop (lrec fn a.tmps ps assign body w.heap.size .busy none))) := hKb x _ _ _ _ (by omega) hB.loop rfl
    refine wpIn_mono (hbody _ pre x _ (hI.putObj _ hi (by omega) hB.loop rfl) ((hR pre x).putObj (s := ()) _ hr (by omega) hB.loop rfl)) ?_
    intro e a3 W3 hp
    cases e with
    | normal =>
      have hB3 := hB2.keep hp.1
      exact ⟨hB3, .inl ⟨rfl, ⟨hI.putObj _ hp.2.2 (by omega) hB3.loop rfl, hB3.put _⟩, hKt hK2 (hKt hp.2.1 (hKb x _ _ _ _ (by omega) hB3.loop rfl))⟩⟩
    | ret =>
      have hB3 := hB2.keep hp.1
      exact ⟨hB3, .inr ⟨rfl, .ret, (hIx _).putObj _ hp.2 (by omega) hB3.loop rfl, hB3.put _⟩⟩
    | exit id =>
      have hB3 := hB2.keep hp.1
      exact ⟨hB3, .inr ⟨rfl, .exit id, (hIx _).putObj _ hp.2 (by omega) hB3.loop rfl, hB3.put _⟩⟩
    | goto u =>
      have hB3 := hB2.keep hp.1
      exact ⟨hB3, .inr ⟨rfl, .goto u, (hIx _).putObj _ hp.2 (by omega) hB3.loop rfl, hB3.put _⟩⟩
    | panic ch => exact hp.elim
    | outgrown => exact hp.elim
  · rintro e W2 ⟨⟨v, rfl⟩, (⟨xs, hS, hi, hB⟩ | ⟨pre, hSp, c, hi, hB⟩)⟩
    · exact ⟨none, _, run_endLoop (P := P) hB.loop (by simp [lrec]), hdone _ xs _ (Nat.le_refl _) hS (hI.putObj _ hi (by omega) hB.loop rfl) ((World.putObj_heap_other (by omega)).trans hB.mark)⟩
    · exact ⟨some c, _, run_endLoop (P := P) hB.loop (by simp [lrec]), hstop _ c pre _ (Nat.le_refl _) hSp ((hIx c).putObj _ hi (by omega) hB.loop rfl) ((World.putObj_heap_other (by omega)).trans hB.mark)⟩
end

end Go.Proofs.YtlgcjdgcgnlcaaaGreatDoor

/-
  A range over a function that hands out what lies in memory: the body is told besides where the last round left the world.
-/
namespace Go.Proofs.YtlgcjdgcgnlcaaaGreatDoor
open Go.RowKit Go.Shelf
set_option linter.unusedVariables false

section
variable {F : Fence} {n : Nat} {P : Program}
/-- What a function that is ranged over does: R: what it sees to when it hands out x behind pre, with the world as the last round left it; Kp: what it asks of a round that goes on. -/
def SeqQ {α : Type} (F : Fence) (n : Nat) (P : Program) (g : Nat) (lb : Array Value) (encs : α → Array Value) (R : List α → α → World → World → Prop) (Kp : α → World → World → Prop) (S Sp : List α → Prop) (w : World) : Prop :=
  ∀ (l : Nat) (J Jx : List α → World → Prop) (W : World), Below w.heap.size w W → AbidesFrom W.heap.size J → AbidesFrom W.heap.size Jx →
    (∀ pre x W0 W1, J pre W0 → Below W0.heap.size W0 W1 → J pre W1 → R pre x W0 W1 → YieldAt F (n - 1) P l (encs x) W1 fun e W' => (e = .returned (.bool true) ∧ J (pre ++ [x]) W' ∧ Kp x W1 W') ∨ (e = .returned (.bool false) ∧ Jx (pre ++ [x]) W')) →
    J [] W → CallsIn F n P g (#[.func (.yield l) #[] #[]] ++ lb) W fun e W' => (∃ v, e = .returned v) ∧ ((∃ xs, S xs ∧ J xs W') ∨ (∃ pre, Sp pre ∧ Jx pre W'))

theorem rangeQ {α : Type} {g : Operand} {ps : Array Tmp} {assign body : Code} {Q : Exit → Act → World → Prop} {a : Act} {w : World}
    (hro : F.round = none) (h1 : 1 ≤ n) {gf : Nat} {lb : Array Value} (hg : a.eval g = .func (.func gf) #[] lb) (hFg : F.fn gf) (eg : ∀ args w, (callFunc gf args).run P w = .ok (.enter gf args) w)
    {encs : α → Array Value} {R : List α → α → World → World → Prop} {Kp : α → World → World → Prop} {S Sp : List α → Prop} (hseq : SeqQ F (n - 1) P gf lb encs R Kp S Sp w)
    (hKt : ∀ {x : α} {A B C : World}, Kp x A B → Kp x B C → Kp x A C) (hKb : ∀ (x : α) (W : World) (l : Nat) (o o' : Obj), w.heap.size ≤ l → W.heap[l]? = some o → o.isCells = false → Kp x W (W.putObj l o')) (hps : ∀ x, (encs x).size = ps.size)
    (hR : ∀ pre x W0, OwnFrom w.heap.size (fun (_ : Unit) W => R pre x W0 W))
    (I : List α → World → Prop) (Ix : Code → List α → World → Prop) (hI : OwnFrom w.heap.size I) (hIx : ∀ c, OwnFrom w.heap.size (Ix c)) (h0 : I [] w) (a₁ : α → Act)
    (hassign : ∀ (l : Nat) (x : α) (W : World) (K : Act → World → Prop), K (a₁ x) W →
      assign.wpIn (F.inRound l) (n - 1 - 1) P (Exit.then K (fun _ _ _ => False)) { tmps := (ps.zip (encs x)).foldl (fun t (p, v) => t.setIfInBounds p v) a.tmps, defers := [] } W)
    (hbody : ∀ (l : Nat) (pre : List α) (x : α) (W0 W : World), I pre W0 → (∀ (k : Nat) (o : Obj), W0.heap[k]? = some o → o.isCells = true → W.heap[k]? = some o) → W0.heap.size ≤ W.heap.size → I pre W → R pre x W0 W → body.wpIn (F.inRound l) (n - 1 - 1) P (ownPostG w.heap.size (Kp x) I Ix (pre ++ [x]) W) (a₁ x) W)
    (hdone : ∀ (D : Nat) (xs : List α) (W : World), w.heap.size ≤ D → S xs → I xs W → W.heap[D]? = some (.deferred (some [])) → Q .normal { a with defers := { target := .collected D, args := #[] } :: a.defers } W)
    (hstop : ∀ (D : Nat) (c : Code) (pre : List α) (W : World), w.heap.size ≤ D → Sp pre → Ix c pre W → W.heap[D]? = some (.deferred (some [])) → c.wpIn F n P Q { a with defers := { target := .collected D, args := #[] } :: a.defers } W) :
    (Code.rangeFunc g ps assign body).wpIn F n P Q a w := by
  refine wpIn_rangeFunc fun fn hfn => ?_
  rw [hro]
  obtain ⟨W1, hW1⟩ : ∃ W1, (w.alloc (.deferred (some []))).alloc (.loop (lrec fn a.tmps ps assign body w.heap.size .ready none)) = W1 := ⟨_, rfl⟩
  have B1 : Bk (lrec fn a.tmps ps assign body w.heap.size .ready none) w.heap.size W1 := by rw [← hW1]; exact Bk.new w _
  have b1 : Below w.heap.size w W1 := by rw [← hW1]; exact ((Below.refl _ w).alloc (Nat.le_refl _) _).alloc (by simp) _
  have s1 : w.heap.size ≤ W1.heap.size := b1.size
  have far : ∀ {A : World} {row : Option Nat}, (∀ r, row = some r → W1.heap.size ≤ r ∧ ∃ o : Obj, A.heap[r]? = some o ∧ o.isWalk = true) → ∀ r, row = some r → w.heap.size ≤ r ∧ ∃ o : Obj, A.heap[r]? = some o ∧ o.isCells = false :=
    fun hr r e => by obtain ⟨hb, o, ho, hw⟩ := hr r e; exact ⟨by omega, o, ho, Obj.not_cells_of_walk hw⟩
  refine ⟨w.heap.size + 1, [{ target := .collected w.heap.size, args := #[] }], W1, { target := .fn (.func gf) lb, args := #[.func (.yield (w.heap.size + 1)) #[] #[]] }, W1, gf,
    #[.func (.yield (w.heap.size + 1)) #[] #[]] ++ lb, W1, by rw [← hW1]; exact run_enterLoop_outer _ _ _ _ _, by simp only [resolve, hg]; simp [go_sem], fun f' hf' => by simp [Target.leads] at hf'; subst hf'; exact hFg, by simp [invoke, go_sem, eg], fun _ => h1, ?_⟩
  refine (hseq (w.heap.size + 1) (fun pre W => I pre W ∧ Bk (lrec fn a.tmps ps assign body w.heap.size .ready none) w.heap.size W) (fun pre W => ∃ c, Ix c pre W ∧ Bk (lrec fn a.tmps ps assign body w.heap.size .done (some c)) w.heap.size W) W1 b1
    (fun s A B row hs hg' hr => ⟨hI s A B row hs.1 hg' (far hr), hs.2.abide hg' hr⟩)
    (fun s A B row hs hg' hr => by obtain ⟨c, hc, hb⟩ := hs; exact ⟨c, hIx c s A B row hc hg' (far hr), hb.abide hg' hr⟩) ?_
    ⟨by rw [← hW1]; exact hI.alloc _ (hI.alloc _ h0), B1⟩).mono ?_
  · rintro pre x W0 W ⟨hi0, hB0⟩ hb0 ⟨hi, hB⟩ hr
    refine round_R hfn (hps x) hB (hassign _ x W) ?_
    have hB2 := hB.put (lrec fn a.tmps ps assign body w.heap.size .busy none)
    have hK2 : Kp x W (W.putObj (w.heap.size + 1) (.loop (lrec fn a.tmps ps assign body w.heap.size .busy none))) := hKb x _ _ _ _ (by omega) hB.loop rfl
    refine wpIn_mono (hbody _ pre x W0 _ hi0 (fun k o ho hc => ?_) (Nat.le_trans hb0.size (grownBy_putObj' W _ _).size) (hI.putObj _ hi (by omega) hB.loop rfl) ((hR pre x W0).putObj (s := ()) _ hr (by omega) hB.loop rfl)) ?_
    · have hk : W.heap[k]? = some o := (hb0.block k (Array.getElem?_eq_some_iff.1 ho).1).trans ho
      rw [World.putObj_heap_other (fun e => by
        subst e
        rw [hB.loop] at hk
        injection hk with hk
        subst hk
        cases hc)]
      exact hk
    intro e a3 W3 hp
    cases e with
    | normal =>
      have hB3 := hB2.keep hp.1
      exact ⟨hB3, .inl ⟨rfl, ⟨hI.putObj _ hp.2.2 (by omega) hB3.loop rfl, hB3.put _⟩, hKt hK2 (hKt hp.2.1 (hKb x _ _ _ _ (by omega) hB3.loop rfl))⟩⟩
    | ret =>
      have hB3 := hB2.keep hp.1
      exact ⟨hB3, .inr ⟨rfl, .ret, (hIx _).putObj _ hp.2 (by omega) hB3.loop rfl, hB3.put _⟩⟩
    | exit id =>
      have hB3 := hB2.keep hp.1
      exact ⟨hB3, .inr ⟨rfl, .exit id, (hIx _).putObj _ hp.2 (by omega) hB3.loop rfl, hB3.put _⟩⟩
    | goto u =>
      have hB3 := hB2.keep hp.1
      exact ⟨hB3, .inr ⟨rfl, .goto u, (hIx _).putObj _ hp.2 (by omega) hB3.loop rfl, hB3.put _⟩⟩
    | panic ch => exact hp.elim
    | outgrown => exact hp.elim
  · rintro e W2 ⟨⟨v, rfl⟩, (⟨xs, hS, hi, hB⟩ | ⟨pre, hSp, c, hi, hB⟩)⟩
    · exact ⟨none, _, run_endLoop (P := P) hB.loop (by simp [lrec]), hdone _ xs _ (Nat.le_refl _) hS (hI.putObj _ hi (by omega) hB.loop rfl) ((World.putObj_heap_other (by omega)).trans hB.mark)⟩
    · exact ⟨some c, _, run_endLoop (P := P) hB.loop (by simp [lrec]), hstop _ c pre _ (Nat.le_refl _) hSp ((hIx c).putObj _ hi (by omega) hB.loop rfl) ((World.putObj_heap_other (by omega)).trans hB.mark)⟩
end

end Go.Proofs.YtlgcjdgcgnlcaaaGreatDoor

/-
  The way through a level's places: places and what it hands out.
-/
namespace Go.Proofs.YtlgcjdgcgnlcaaaGreatDoor
open Go.RowKit Go.Shelf
set_option linter.unusedVariables false
set_option linter.unusedSimpArgs false
set_option maxRecDepth 100000

/-- Some blocks are left as they were. -/
structure KF (F : Nat → Prop) (A C : World) : Prop where
  size : A.heap.size ≤ C.heap.size
  keep : ∀ k, F k → C.heap[k]? = A.heap[k]?
theorem KF.refl (F : Nat → Prop) (A : World) : KF F A A := ⟨Nat.le_refl _, fun _ _ => rfl⟩
theorem KF.trans {F : Nat → Prop} {A C D : World} (h : KF F A C) (k : KF F C D) : KF F A D := ⟨Nat.le_trans h.size k.size, fun i hi => (k.keep i hi).trans (h.keep i hi)⟩
theorem KF.book {F : Nat → Prop} {B : Nat} (hF : ∀ k, F k → k < B) (W : World) (l : Nat) (o' : Obj) (hl : B ≤ l) : KF F W (W.putObj l o') :=
  ⟨(grownBy_putObj' W l o').size, fun k hk => World.putObj_heap_other (by have := hF k hk; omega)⟩
theorem PT.sameS {w w' : World} (h : PT w) (hb : w'.heap[0]? = w.heap[0]?) : PT w' := by
  unfold PT Lib.TabIs World.var? at *
  rw [gPT] at h ⊢
  simp only [Option.bind_some] at h ⊢
  rw [hb]
  exact h
/-- The blocks that a walk over a level looks at. -/
def FP (d : Nat) (D : Dm) (gd gh gl k : Nat) : Prop := D.own d k ∨ D.ro k ∨ k = gd ∨ k = gh ∨ k = gl ∨ k = 0
/-- What stands when a level is walked over. -/
structure PAt (w : World) (d s : Nat) (rs : List Rw) (D : Dm) (gd gh gl H L : Nat) : Prop where
  dk : DkAt w d s rs D
  pt : PT w
  bd : Blk w gd 26 [.pointer (some ⟨d, 0, none⟩)]
  bh : Blk w gh 3 [.int .i64 (H : Int)]
  bl : Blk w gl 3 [.int .i64 (L : Int)]
section
variable {w w' : World} {d s : Nat} {rs : List Rw} {D : Dm} {gd gh gl H L : Nat}
theorem PAt.lt (h : PAt w d s rs D gd gh gl H L) {k : Nat} (hk : FP d D gd gh gl k) : k < w.heap.size := by
  rcases hk with hk | hk | rfl | rfl | rfl | rfl
  · exact h.dk.lt (.inl hk)
  · exact h.dk.lt (.inr hk)
  · exact h.bd.lt
  · exact h.bh.lt
  · exact h.bl.lt
  · exact h.pt.lt
theorem PAt.same (h : PAt w d s rs D gd gh gl H L) (hk : ∀ k, FP d D gd gh gl k → w'.heap[k]? = w.heap[k]?) : PAt w' d s rs D gd gh gl H L :=
  ⟨h.dk.same (fun k hq => hk k (by rcases hq with hq | hq; exact .inl hq; exact .inr (.inl hq))), h.pt.sameS (hk _ (.inr (.inr (.inr (.inr (.inr rfl)))))),
    h.bd.same (hk gd (.inr (.inr (.inl rfl)))), h.bh.same (hk gh (.inr (.inr (.inr (.inl rfl))))), h.bl.same (hk gl (.inr (.inr (.inr (.inr (.inl rfl))))))⟩
theorem PAt.below (h : PAt w d s rs D gd gh gl H L) (hb : Below w.heap.size w w') : PAt w' d s rs D gd gh gl H L := h.same (fun k hk => hb.block k (h.lt hk))
theorem PAt.kf (h : PAt w d s rs D gd gh gl H L) (hb : KF (FP d D gd gh gl) w w') : PAt w' d s rs D gd gh gl H L := h.same hb.keep
end
/-- What is handed out: a file's name and a place in it. -/
abbrev Px := ByteArray × Nat
def encP (x : Px) : Array Value := #[.string x.1, .int .i64 (x.2 : Int)]
def plP (H L j : Nat) : Px := (sN H L (j / 2 ^ H), j % 2 ^ H * 32)
def pls (H L n : Nat) : List Px := (List.range n).map (plP H L)
theorem pls_len (H L n : Nat) : (pls H L n).length = n := by simp [pls]
theorem pls_succ (H L n : Nat) : pls H L (n + 1) = pls H L n ++ [plP H L n] := by simp [pls, List.range_succ]
def RP (H L n : Nat) (pre : List Px) (x : Px) (W0 W : World) : Prop := pre.length < n ∧ pre = pls H L pre.length ∧ x = plP H L pre.length
theorem rp_own (H L n B0 : Nat) (pre : List Px) (x : Px) (W0 : World) : OwnFrom B0 (fun (_ : Unit) W => RP H L n pre x W0 W) := fun _ W W' row h hg hr => h
theorem size_is {w : World} {d s : Nat} {rs : List Rw} {D : Dm} (h : DkAt w d s rs D) (n : ByteArray) : (if fE rs n = 0 then ((fl (play rs) n).length : Int) else 0) = ((fl (play rs) n).length : Int) := by
  by_cases hf : fE rs n = 0
  · rw [if_pos hf]
  · rw [if_neg hf]
    have hnone : play rs n = none := by
      by_cases hn : nmB n = true
      · cases hp : play rs n with
        | none => rfl
        | some xs => simp [fE, hn, hp] at hf
      · exact Nmd.play h.valS n (by simpa using hn)
    simp [fl, hnone]
set_option maxHeartbeats 4000000 in
theorem places_seq (d s : Nat) (rs : List Rw) (D : Dm) (gd gh gl H L n : Nat) (w : World) (h : PAt w d s rs D gd gh gl H L) (hl : tFB H L 0 = true) (hn : Cn (play rs) H L n) (hwt : wt rs ≤ 1099511000000) :
    SeqQ Fence.wide 3 Tryz.prog 83 #[.pointer (some ⟨gh, 0, none⟩), .pointer (some ⟨gl, 0, none⟩), .pointer (some ⟨gd, 0, none⟩)] encP (RP H L n) (fun _ => KF (FP d D gd gh gl)) (fun ys => ys = pls H L n) (fun ys => ∃ k, k ≤ n ∧ ys = pls H L k) w := by
  intro l0 J Jx W hW hJ hJx hY h0
  have H0 := hide (h.below hW)
  have HJ0 := hide h0
  have HN := hide hn
  have hh := (tFB_is hl).1
  have hLb := (tFB_bd hl).2.2.1
  have hnb : n ≤ 281474976710656 := hn.le (Nmd.play h.dk.valS)
  have HNF : Hid (Nmd (play rs)) := hide (Nmd.play h.dk.valS)
  have HLT : Hid (∀ k, FP d D gd gh gl k → k < W.heap.size) := hide (fun k hk => (h.below hW).lt hk)
  obtain ⟨P, HP⟩ : ∃ P, Hid (2 ^ H = P) := ⟨_, hide rfl⟩
  have HWP := hide (wrap_pow hh HP.out)
  have hP := hh.pow
  rw [HP.out] at hP
  obtain ⟨hPlo, hPhi⟩ := hP
  have hH8 := hh.2
  have hHi : (H : Int) ≤ 8 := by omega
  have HW := hide hwt
  clear h hn hW h0 hl hh hwt
  refine callsIn_of_wp Tryz.func83 rfl trivial ?_ rfl
  simp only [Tryz.ntmps83, List.size_toArray, List.length_cons, List.length_nil, Nat.reduceAdd, Nat.reduceSub, Array.replicate_succ, Array.replicate_zero, List.push_toArray, List.append_toArray, List.nil_append, List.cons_append]
  refine wpIn_wide.2 ?_
  go_wp2_with fail
  go_step3
  go_wp2_with fail
  go_step3
  go_wp2_with fail
  try simp only [Act.put]
  refine (wpIn_wide (n := 3)).1 ?_
  gi_loopw [5] (fun p wr => ∃ (i : Nat) (pre : List Px), i * P ≤ n ∧ p = .int .i64 (i : Int) ∧ Hid (pre = pls H L (i * P)) ∧ Hid (J pre wr) ∧ Hid (PAt wr d s rs D gd gh gl H L)) (fun p _ => n + 1 - (intOf p).toNat)
  case atStart => exact ⟨0, [], by omega, rfl, hide (by rw [Nat.zero_mul]; rfl), HJ0, H0⟩
  case round =>
    obtain ⟨i, pre, hi, rfl, HPR, HJ, HA⟩ := hrel
    have hin : i ≤ n := by
      have := Nat.mul_le_mul_left i (show 1 ≤ P by omega)
      omega
    have hc1 : wr.cell? ⟨gh, 0, none⟩ = some (.int .i64 (H : Int)) := by rw [HA.out.bh.cell]; rfl
    have hc2 : wr.cell? ⟨gl, 0, none⟩ = some (.int .i64 (L : Int)) := by rw [HA.out.bl.cell]; rfl
    have HNM := hide (sname_any (H : Int) (L : Int) (i : Int) wr (by omega) (by omega) HA.out.pt)
    gi_wp2_with fail
    refine ⟨trivial, (callsIn_wide.2 HNM.out).mono ?_⟩
    rintro e w1 ⟨rfl, hb1⟩
    have HA1 := hide (HA.out.below hb1)
    have HJ1 := hide (hJ _ wr w1 none HJ.out ⟨hb1.os, hb1.tape, hb1.output, hb1.size, fun i hi _ => hb1.block i hi⟩ (fun r e => by cases e))
    rw [smP_nat]
    have hc3 : w1.cell? ⟨gd, 0, none⟩ = some (.pointer (some ⟨d, 0, none⟩)) := by rw [HA1.out.bd.cell]; rfl
    have hc4 : w1.cell? ⟨gh, 0, none⟩ = some (.int .i64 (H : Int)) := by rw [HA1.out.bh.cell]; rfl
    have hsz := size_any d s rs D w1 HA1.out.dk (sN H L i)
    rw [size_is HA1.out.dk] at hsz
    obtain ⟨sz, HSZ⟩ : ∃ sz, Hid ((fl (play rs) (sN H L i)).length = sz) := ⟨_, hide rfl⟩
    rw [HSZ.out] at hsz
    have HSC := hide hsz
    have HSZ1 : Hid (sz ≤ 1099511000000) := hide (by rw [← HSZ.out]; exact Nat.le_trans (play_wt _ _) HW.out)
    have HHAS : Hid (∀ k, k < P → hasD (play rs) H L (i * P + k) = decide ((k + 1) * 32 ≤ sz)) := hide (fun k hk => by
      unfold hasD
      rw [HP.out, Nat.mul_comm i P, Nat.mul_add_mod, Nat.mul_add_div (by omega), Nat.mod_eq_of_lt hk, Nat.div_eq_of_lt hk]
      simp only [Nat.add_zero]
      exact decide_eq_decide.2 (by rw [HSZ.out]))
    have HPL : Hid (∀ k, k < P → plP H L (i * P + k) = (sN H L i, k * 32)) := hide (fun k hk => by
      unfold plP
      rw [HP.out, Nat.mul_comm i P, Nat.mul_add_mod, Nat.mul_add_div (by omega), Nat.mod_eq_of_lt hk, Nat.div_eq_of_lt hk]
      simp only [Nat.add_zero])
    generalize smE (H : Int) (L : Int) (i : Int) = er at *
    generalize sN H L i = nm at *
    clear hb1 hc1 hc2 HNM hsz HJ HA
    gi_wp2_with fail
    refine ⟨trivial, (callsIn_wide.2 HSC.out).mono ?_⟩
    rintro e w2 ⟨rfl, rfl⟩
    gi_wp2_with (first | (rw [HWP.out]))
    try simp only [Act.put]
    gi_loopw [28] (fun p wr => ∃ (k : Nat) (pre : List Px), k ≤ P ∧ i * P + k ≤ n ∧ p = .int .i64 (k : Int) ∧ Hid (pre = pls H L (i * P + k)) ∧ Hid (J pre wr) ∧ Hid (PAt wr d s rs D gd gh gl H L)) (fun p _ => P - (intOf p).toNat)
    case atStart => exact ⟨0, pre, by omega, by omega, rfl, HPR, HJ1, HA1⟩
    case round =>
      clear HPR HJ1 HA1 HSC hc3 hc4
      obtain ⟨k, pre, hk, hik, rfl, HPR, HJ, HA⟩ := hrel
      by_cases hkP : k < P
      · have hkPi : (k : Int) < (P : Int) := by omega
        have HH := hide (HHAS.out k hkP)
        by_cases hs : (k + 1) * 32 ≤ sz
        · have hsi : ¬ (sz : Int) < ((k : Int) + 1) * 32 := by omega
          have hlt : i * P + k < n := by
            rcases Nat.lt_or_ge (i * P + k) n with h | h
            · exact h
            · exfalso
              have e1 : i * P + k = n := by omega
              have h2 := HN.out.2
              rw [← e1, HH.out] at h2
              simp at h2
              omega
          have HR : Hid (RP H L n pre (nm, k * 32) wr wr) := hide (by
            have hpl : pre.length = i * P + k := by rw [HPR.out, pls_len]
            exact ⟨by rw [hpl]; exact hlt, by rw [hpl]; exact HPR.out, by rw [hpl, HPL.out k hkP]⟩)
          have HM : Hid (pre ++ [(nm, k * 32)] = pls H L (i * P + (k + 1))) := hide (by rw [HPR.out, ← Nat.add_assoc, pls_succ, HPL.out k hkP])
          obtain ⟨fn, tmps, assign, body, hy, hR⟩ := hY pre (nm, k * 32) wr wr HJ.out (Below.refl _ _) HJ.out HR.out
          simp only [encP] at hy
          have e32 : ((k * 32 : Nat) : Int) = (k : Int) * 32 := by omega
          rw [e32] at hy
          gi_wp2_with fail
          refine hR.mono ?_
          rintro r W7 (⟨rfl, hJ7, hk7⟩ | ⟨rfl, hJx7⟩)
          · have HJ7 := hide hJ7
            have HA7 := hide (HA.out.kf hk7)
            clear hJ7 hk7 hy hR HR HA HJ HPR
            gi_wp2
            go_roundw
            case rel => exact ⟨k + 1, _, by omega, by omega, by go_num, HM, HJ7, HA7⟩
            case measure => simp only [intOf]; omega
          · have HJx7 := hide hJx7
            clear hJx7 hy hR HR HA HJ HPR
            gi_wp2
            rw [Exit.noGoto_normal]
            go_end0
            exact ⟨⟨_, rfl⟩, .inr ⟨_, ⟨i * P + (k + 1), by omega, HM.out⟩, HJx7.out⟩⟩
        · have hsi : (sz : Int) < ((k : Int) + 1) * 32 := by omega
          have he : i * P + k = n := by
            rcases Nat.lt_or_ge (i * P + k) n with h | h
            · exfalso
              have h2 := HN.out.1 _ h
              rw [HH.out] at h2
              simp at h2
              omega
            · omega
          have HFIN : Hid (pre = pls H L n) := hide (by rw [HPR.out, he])
          clear HH
          gi_wp2
          refine ⟨(fun f h => by cases h), ?_⟩
          gi_wp2
          rw [Exit.noGoto_normal]
          go_end0
          exact ⟨⟨_, rfl⟩, .inl ⟨_, HFIN.out, HJ.out⟩⟩
      · have hkPi : ¬ (k : Int) < (P : Int) := by omega
        obtain rfl : k = P := by omega
        have hn1 : (i + 1) * k ≤ n := by rw [Nat.add_mul, Nat.one_mul]; exact hik
        have hn2 : i + 1 ≤ n := by
          have := Nat.mul_le_mul_left (i + 1) (show 1 ≤ k by omega)
          omega
        have HPR2 : Hid (pre = pls H L ((i + 1) * k)) := hide (by rw [HPR.out, Nat.add_mul, Nat.one_mul])
        gi_wp2
        go_roundw
        case rel => exact ⟨i + 1, pre, hn1, by go_num, HPR2, HJ, HA⟩
        case measure => simp only [intOf]; omega

end Go.Proofs.YtlgcjdgcgnlcaaaGreatDoor

/-
  A region that draws its order and only reads, inside a round of a range over a function (the text of Km, for seats that keep other things).
-/

namespace Go.Proofs.YtlgcjdgcgnlcaaaGreatDoor
open Go.RowKit Go.Shelf
set_option linter.unusedVariables false

/-- A region that draws its order and only reads, inside a round: one walk serves every order. -/
def noDefer (o : Oper) : Bool := match o.op with
  | .defer _ => false
  | _ => true
section
variable {F : Fence} {n : Nat} {P : Program} {ops : Array Oper} {md : Region.Mode} {C : World → Prop}
end

end Go.Proofs.YtlgcjdgcgnlcaaaGreatDoor

/-
  Worlds in which all cells are kept; stores that change nothing; what is kept beside the cells (out of Jck).
-/
namespace Go.Proofs.YtlgcjdgcgnlcaaaGreatDoor
open Go.RowKit Go.Shelf
set_option linter.unusedVariables false
set_option maxRecDepth 100000

/-- All cells are kept. -/
structure CK (A C : World) : Prop where
  size : A.heap.size ≤ C.heap.size
  keep : ∀ (k : Nat) (o : Obj), A.heap[k]? = some o → o.isCells = true → C.heap[k]? = some o
theorem CK.of_grown {A C : World} {row : Option Nat} (hg : A.grownBy C row) (hr : ∀ r, row = some r → ∃ o : Obj, A.heap[r]? = some o ∧ o.isCells = false) : CK A C :=
  ⟨hg.size, fun k o ho hc => by
    rw [hg.block k (Array.getElem?_eq_some_iff.1 ho).1 (fun e => by
      obtain ⟨q, hq, hn⟩ := hr k e.symm
      rw [ho] at hq
      injection hq with hq
      subst hq
      rw [hc] at hn
      cases hn)]
    exact ho⟩
theorem CK.below {A C : World} (h : Below A.heap.size A C) : CK A C := ⟨h.size, fun k o ho _ => (h.block k (Array.getElem?_eq_some_iff.1 ho).1).trans ho⟩
theorem CK.put {V : World} {D : Nat} {o : Obj} (o' : Obj) (h : V.heap[D]? = some o) (hc : o.isCells = false) : CK V (V.putObj D o') :=
  ⟨(grownBy_putObj' V D o').size, fun k q hq hcq => by
    rw [World.putObj_heap_other (fun e => by
      subst e
      rw [h] at hq
      injection hq with hq
      subst hq
      rw [hc] at hcq
      cases hcq)]
    exact hq⟩
theorem Blk.ck {A C : World} {g : Nat} {t : TypeId} {cs : List Value} (h : Blk A g t cs) (hk : CK A C) : Blk C g t cs := hk.keep g _ h rfl
theorem Own.ck {A C : World} {B : Nat} {v : Value} {xs : List Int} (h : Own A B v xs) (hk : CK A C) : Own C B v xs := h.same (fun k e => by
  obtain ⟨cs, hc⟩ := h.lies e
  exact (hc.ck hk).trans hc.symm)
theorem keepsO_below {A B : World} (h : Below A.heap.size A B) : KeepsOthers A B := ⟨h.size, fun k o hk _ => (h.block k (Array.getElem?_eq_some_iff.1 hk).1).trans hk⟩
theorem keepsO_but {A B : World} {g : Nat} {t : TypeId} {cs : List Value} (h : But g A B) (hg : Blk A g t cs) : KeepsOthers A B := ⟨Nat.le_of_eq h.size.symm, fun k o hk hc => (h.block k (fun e => by
  subst e
  rw [hg] at hk
  injection hk with hk
  subst hk
  cases hc)).trans hk⟩
theorem keepsO_grown {A B : World} {row : Option Nat} (h : A.grownBy B row) (hr : ∀ g, row = some g → ∃ t cs, Blk A g t cs) : KeepsOthers A B := ⟨h.size, fun k o hk hc => (h.block k (Array.getElem?_eq_some_iff.1 hk).1 (fun e => by
  obtain ⟨t, cs, hg⟩ := hr k e.symm
  rw [hg] at hk
  injection hk with hk
  subst hk
  cases hc)).trans hk⟩

/-- What is to be deferred is left. -/
def MarksFrom (B : Nat) (A C : World) : Prop := ∀ k : Nat, B ≤ k → A.heap[k]? = some (.deferred (some [])) → C.heap[k]? = some (.deferred (some []))
theorem marks_round {B q : Nat} {W W3 : World} {r r2 : Loop} {o o' : Obj} (hl : W.heap[q]? = some (.loop r)) (hk : KeepsFrom B (W.putObj q o) W3) (h3 : W3.heap[q]? = some (.loop r2)) : MarksFrom B W (W3.putObj q o') := fun k hB hq => by
  have hne : k ≠ q := fun e => by
    subst e
    rw [hq] at hl
    injection hl with hl
    cases hl
  rw [World.putObj_heap_other hne]
  exact hk.same k _ hB ((World.putObj_heap_other hne).trans hq) rfl
theorem Bk.own {r : Loop} {D : Nat} {W W' : World} {row : Option Nat} (h : Bk r D W) (hg : W.grownBy W' row) (hr : ∀ q, row = some q → D + 1 < q) : Bk r D W' :=
  ⟨(hg.block _ (Array.getElem?_eq_some_iff.1 h.loop).1 (fun e => by have := hr _ e.symm; omega)).trans h.loop, (hg.block _ (Array.getElem?_eq_some_iff.1 h.mark).1 (fun e => by have := hr _ e.symm; omega)).trans h.mark⟩
section
variable {F : Fence} {n : Nat} {P : Program}
/-- As SeqQ; of a round it knows besides that what is to be deferred is left. -/
def SeqL {α : Type} (F : Fence) (n : Nat) (P : Program) (g : Nat) (lb : Array Value) (encs : α → Array Value) (R : List α → α → World → World → Prop) (Kp : α → World → World → Prop) (S Sp : List α → Prop) (w : World) : Prop :=
  ∀ (l : Nat) (J Jx : List α → World → Prop) (W : World), Below w.heap.size w W → OwnFrom W.heap.size J → OwnFrom W.heap.size Jx →
    (∀ pre x W0 W1, J pre W0 → Below W0.heap.size W0 W1 → J pre W1 → R pre x W0 W1 → YieldAt F (n - 1) P l (encs x) W1 fun e W' => (e = .returned (.bool true) ∧ J (pre ++ [x]) W' ∧ Kp x W1 W' ∧ MarksFrom w.heap.size W1 W') ∨ (e = .returned (.bool false) ∧ Jx (pre ++ [x]) W' ∧ MarksFrom w.heap.size W1 W')) →
    J [] W → CallsIn F n P g (#[.func (.yield l) #[] #[]] ++ lb) W fun e W' => (∃ v, e = .returned v) ∧ ((∃ xs, S xs ∧ J xs W') ∨ (∃ pre, Sp pre ∧ Jx pre W'))

end
/-- Blocks of digests are left. -/
structure KD (A C : World) : Prop where
  size : A.heap.size ≤ C.heap.size
  keep : ∀ (k : Nat) (cs : List Value), Blk A k 32 cs → Blk C k 32 cs
theorem KD.refl (A : World) : KD A A := ⟨Nat.le_refl _, fun _ _ h => h⟩
theorem KD.trans {A C D : World} (h : KD A C) (k : KD C D) : KD A D := ⟨Nat.le_trans h.size k.size, fun i cs ho => k.keep i cs (h.keep i cs ho)⟩
theorem KD.book (W : World) (l : Nat) (o o' : Obj) (h : W.heap[l]? = some o) (hc : o.isCells = false) : KD W (W.putObj l o') :=
  ⟨(grownBy_putObj' W l o').size, fun k cs hq => by
    have hne : k ≠ l := fun e => by
      subst e
      rw [hq] at h
      injection h with h
      subst h
      cases hc
    unfold Blk
    rw [World.putObj_heap_other hne]
    exact hq⟩
theorem KD.below {A C : World} (h : Below A.heap.size A C) : KD A C := ⟨h.size, fun k cs hk => hk.on h⟩

end Go.Proofs.YtlgcjdgcgnlcaaaGreatDoor

/-
  A region that draws its order inside a round of a range over a function: walked by hand, as outside (as Kr), and what is held only till a given operation comes (as Ou).
-/

namespace Go.Proofs.YtlgcjdgcgnlcaaaGreatDoor
open Go.RowKit Go.Shelf
set_option linter.unusedVariables false

section
variable {F : Fence} {n : Nat} {P : Program} {ops : Array Oper} {md : Region.Mode}
theorem wpOpIn_of_wpOp (hF : WideF F) (hd : ops.all noDefer = true) {i : Nat} {a : Act} {K K' : Act → World → Prop} {Q : Exit → Act → World → Prop} {w : World} (hL : ¬ LetsOut Q) (h : ∀ a w', K a w' → K' a w') (hh : wpOp P ops Q i K a w) : wpOpIn F n P ops Q i K' a w := by
  unfold wpOp at hh
  unfold wpOpIn
  split
  · rename_i ho; simp only [ho] at hh; exact h _ _ hh
  · rename_i o ho
    simp only [ho] at hh
    split
    · rename_i hw
      simp only [hw, if_true] at hh
      rcases hh with hh | ⟨_, hh⟩
      · refine lift_op hF (fun c hc => ?_) (Oper.wp_mono h hh)
        have h1 := Array.all_eq_true.1 hd
        obtain ⟨hi, he⟩ := Array.getElem?_eq_some_iff.1 ho
        have h2 := h1 i hi
        rw [he] at h2
        simp [noDefer, hc] at h2
      · exact absurd hh hL
    · rename_i hw; simp only [hw] at hh; exact ⟨fun f _ => hF.fn f, h _ _ hh⟩
theorem wpAnyIn_of_any (hF : WideF F) (hd : ops.all noDefer = true) {Q : Exit → Act → World → Prop} (hL : ¬ LetsOut Q) : ∀ (fuel : Nat) (listed : Array Bool) (a : Act) (w : World), wpAny P md ops Q fuel listed a w → wpAnyIn F n P md ops Q fuel listed a w
  | 0, _, _, _, h => h
  | fuel + 1, _, _, _, h => ⟨h.1, fun i hi => wpOpIn_of_wpOp hF hd hL (fun a' w' h' => wpAnyIn_of_any hF hd hL fuel _ a' w' h') (h.2 i hi)⟩
/-- Only the normal way out. -/
def Only (R : Act → World → Prop) : Exit → Act → World → Prop
  | .normal, a, w => R a w
  | _, _, _ => False
theorem Only.imp {Q : Exit → Act → World → Prop} : ∀ (e : Exit) (a : Act) (w : World), Only (fun a w => Q .normal a w) e a w → Q e a w := fun e a w h => by
  cases e <;> first | exact h | exact (h : False).elim
theorem Only.normal {Q : Exit → Act → World → Prop} {a : Act} {w : World} (h : Q .normal a w) : Only (fun a w => Q .normal a w) .normal a w := h
theorem Only.out (R : Act → World → Prop) : ¬ LetsOut (Only R) := by rintro ⟨a, w, h⟩; exact h
theorem wpIn_region_held {S : World → Prop} {id : Nat} {Q : Exit → Act → World → Prop} {a : Act} {w : World} (hF : WideF F) (hm : P.follows .mixedOrders = true) (hd : ops.all noDefer = true) (hS : S w.drew)
    (h : S w.drew → wpAnyH P .any ops (Only (fun a w => Q .normal a w)) S ops.size (Array.replicate ops.size false) a w.drew) : (Code.region id ops true).wpIn F n P Q a w :=
  Code.wpIn_mono Only.imp (wpIn_region_any hm (wpAnyIn_of_any hF hd (Only.out _) _ _ _ _ (wpAny_of_held _ _ _ _ (h hS))))
theorem wpIn_region_U {S : World → Prop} {q id : Nat} {Q : Exit → Act → World → Prop} {a : Act} {w : World} (hF : WideF F) (hm : P.follows .mixedOrders = true) (hd : ops.all noDefer = true)
    (h : wpAnyU P .any ops (Only (fun a w => Q .normal a w)) S q ops.size (Array.replicate ops.size false) a w.drew) : (Code.region id ops true).wpIn F n P Q a w :=
  Code.wpIn_mono Only.imp (wpIn_region_any hm (wpAnyIn_of_any hF hd (Only.out _) _ _ _ _ (wpAny_of_U _ _ _ _ h)))
end

end Go.Proofs.YtlgcjdgcgnlcaaaGreatDoor

/-
  How many digests a level has: Count.
-/
namespace Go.Proofs.YtlgcjdgcgnlcaaaGreatDoor
open Go.RowKit Go.Shelf
set_option linter.unusedVariables false
set_option linter.unusedSimpArgs false
set_option maxRecDepth 100000

theorem places_mk (d : Nat) (h l : Int) (w : World) : Calls Tryz.prog 52 #[.pointer (some ⟨d, 0, none⟩), .int .i64 h, .int .i64 l] w fun r w' => ∃ gd gh gl, r = .returned (.func (.func 83) #[] #[.pointer (some ⟨gh, 0, none⟩), .pointer (some ⟨gl, 0, none⟩), .pointer (some ⟨gd, 0, none⟩)]) ∧
    Blk w' gd 26 [.pointer (some ⟨d, 0, none⟩)] ∧ Blk w' gh 3 [.int .i64 h] ∧ Blk w' gl 3 [.int .i64 l] ∧ w.heap.size ≤ gd ∧ w.heap.size ≤ gh ∧ w.heap.size ≤ gl ∧ Below w.heap.size w w' := by
  go_enter Tryz.func52, Tryz.ntmps52
  go_wp2
  go_ret
  have b1 : Below w.heap.size w (w.alloc (.cells #[.pointer (some ⟨d, 0, none⟩)] 26)) := (Below.refl _ _).alloc (Nat.le_refl _) _
  have B1 : Blk (w.alloc (.cells #[.pointer (some ⟨d, 0, none⟩)] 26)) w.heap.size 26 [.pointer (some ⟨d, 0, none⟩)] := Blk.made _ _ _
  generalize hW1 : w.alloc (.cells #[.pointer (some ⟨d, 0, none⟩)] 26) = W1 at *
  have s1 := b1.size
  have b2 : Below W1.heap.size W1 (W1.alloc (.cells #[.int .i64 h] 3)) := (Below.refl _ _).alloc (Nat.le_refl _) _
  have B2 : Blk (W1.alloc (.cells #[.int .i64 h] 3)) W1.heap.size 3 [.int .i64 h] := Blk.made _ _ _
  generalize hW2 : W1.alloc (.cells #[.int .i64 h] 3) = W2 at *
  have s2 := b2.size
  have b3 : Below W2.heap.size W2 (W2.alloc (.cells #[.int .i64 l] 3)) := (Below.refl _ _).alloc (Nat.le_refl _) _
  have B3 : Blk (W2.alloc (.cells #[.int .i64 l] 3)) W2.heap.size 3 [.int .i64 l] := Blk.made _ _ _
  generalize hW3 : W2.alloc (.cells #[.int .i64 l] 3) = W3 at *
  have z1 : W1.heap.size = w.heap.size + 1 := by rw [← hW1]; exact World.size_alloc _ _
  have z2 : W2.heap.size = w.heap.size + 1 + 1 := by rw [← hW2, World.size_alloc, z1]
  exact ⟨w.heap.size, w.heap.size + 1, w.heap.size + 1 + 1, rfl, (B1.on b2).on b3, by rw [← z1]; exact B2.on b3, by rw [← z2]; exact B3, Nat.le_refl _, by omega, by omega, on_below (on_below b1 b2) b3⟩
section
variable {w W W' : World} {b9 d s : Nat} {rs : List Rw} {D : Dm} {gd gh gl H L k : Nat}
end
section
variable (d s : Nat) (rs : List Rw) (D : Dm) (w : World) (hd : DkAt w d s rs D)
include hd
theorem count_bad (h l : Int) (hl : l ≤ 9223372036854775807) (ht : PT w) (he : smE h l 0 ≠ 0) : Calls Tryz.prog 17 #[.pointer (some ⟨d, 0, none⟩), .int .i64 h, .int .i64 l] w fun r w' => r = .returned (.tuple #[.int .i64 0, .int .i64 2]) ∧ Below w.heap.size w w' := by
  have e2 : smE h l 0 = 2 := by unfold smE at *; split at he <;> simp_all
  have HC := hide (scheck_any d s rs D w hd h l hl ht)
  rw [e2] at HC
  clear hd hl ht he e2
  refine (callsIn_wide (n := 4)).1 ?_
  refine callsIn_of_wp_marks Tryz.func17 rfl trivial ?_ rfl
  refine wpIn_wide.2 ?_
  simp only [Tryz.ntmps17, List.size_toArray, List.length_cons, List.length_nil, Nat.reduceAdd, Nat.reduceSub, Array.replicate_succ, Array.replicate_zero, List.push_toArray, List.append_toArray, List.nil_append, List.cons_append]
  go_wp2_with fail
  refine HC.out.mono ?_
  rintro r w1 ⟨rfl, hb1⟩
  go_wp2
  exact ⟨.tuple #[.int .i64 0, .int .i64 2], by simp [results, Tryz.f17, go_sem], rfl, hb1⟩
set_option maxHeartbeats 2000000 in
theorem count_ok (H L n : Nat) (hl : tFB H L 0 = true) (hn : Cn (play rs) H L n) (ht : PT w) (hwt : wt rs ≤ 1099511000000) : Calls Tryz.prog 17 #[.pointer (some ⟨d, 0, none⟩), .int .i64 (H : Int), .int .i64 (L : Int)] w fun r w' => r = .returned (.tuple #[.int .i64 (n : Int), .int .i64 0]) ∧ Below w.heap.size w w' := by
  have hLb := (tFB_bd hl).2.2.1
  have e0 : smE (H : Int) (L : Int) 0 = 0 := by
    show (if smB (H : Int) (L : Int) ((0 : Nat) : Int) = true then (0 : Int) else 2) = 0
    rw [smB_nat, if_pos hl]
  have HC := hide (scheck_any d s rs D w hd H L (by omega) ht)
  rw [e0] at HC
  have hnb : n ≤ 281474976710656 := hn.le (Nmd.play hd.valS)
  have HD := hide hd
  have HT := hide ht
  have HL := hide hl
  have HN := hide hn
  have HW := hide hwt
  clear hd ht hl hn hwt e0
  refine (callsIn_wide (n := 4)).1 ?_
  refine callsIn_of_wp_marks Tryz.func17 rfl trivial ?_ rfl
  refine wpIn_wide.2 ?_
  simp only [Tryz.ntmps17, List.size_toArray, List.length_cons, List.length_nil, Nat.reduceAdd, Nat.reduceSub, Array.replicate_succ, Array.replicate_zero, List.push_toArray, List.append_toArray, List.nil_append, List.cons_append]
  go_wp2_with fail
  refine HC.out.mono ?_
  rintro r w1 ⟨rfl, hb1⟩
  have HB1 := hide hb1
  have HD1 := hide (HD.out.below hb1)
  have HT1 := hide (HT.out.below hb1)
  clear hb1 HC HD HT
  go_wp2_with fail
  have C9 : Blk (w1.alloc (.cells #[.int .i64 0] 3)) w1.heap.size 3 [.int .i64 0] := Blk.made w1 3 [.int .i64 0]
  have hb9 : Below w1.heap.size w1 (w1.alloc (.cells #[.int .i64 0] 3)) := (Below.refl _ _).alloc (Nat.le_refl _) _
  have hs1 : w.heap.size ≤ w1.heap.size := HB1.out.size
  have D2 := hide (HD1.out.below hb9)
  have T2 := hide (HT1.out.below hb9)
  have B2 := hide (on_below HB1.out hb9)
  revert C9 D2 T2 B2
  have HLO : Hid (∀ k, D.own d k ∨ D.ro k ∨ k = 0 → k < w1.heap.size) := hide (fun k hk => by
    rcases hk with hk | hk | rfl
    · exact HD1.out.lt (.inl hk)
    · exact HD1.out.lt (.inr hk)
    · exact HT1.out.lt)
  clear hb9 HD1 HT1 HB1
  generalize hw2 : w1.alloc (.cells #[.int .i64 0] 3) = w2
  clear hw2
  generalize w1.heap.size = b9 at *
  intro C9 D2 T2 B2
  have hs9 : w.heap.size ≤ b9 := hs1
  go_wp2_with fail
  refine (places_mk _ _ _ _).mono ?_
  rintro r w3 ⟨gd, gh, gl, rfl, BD, BH, BL, hgd, hgh, hgl, hb3⟩
  have HSQ := hide (places_seq d s rs D gd gh gl H L n w3 ⟨D2.out.below hb3, T2.out.below hb3, BD, BH, BL⟩ HL.out HN.out HW.out)
  have HJL : Hid (∀ k, FP d D gd gh gl k → k < w3.heap.size) := hide (fun k hk => PAt.lt (H := H) (L := L) ⟨D2.out.below hb3, T2.out.below hb3, BD, BH, BL⟩ hk)
  have C3 := hide (C9.on hb3)
  have B3 := hide (on_below B2.out hb3)
  have HF9 : Hid (∀ k, FP d D gd gh gl k → k ≠ b9) := hide (fun k hk => by
    have h9 := C9.lt
    rcases hk with hk | hk | rfl | rfl | rfl | hk
    · have := HLO.out k (.inl hk); omega
    · have := HLO.out k (.inr (.inl hk)); omega
    · omega
    · omega
    · omega
    · have := HLO.out k (.inr (.inr hk)); omega)
  have hs3 : w.heap.size ≤ w3.heap.size := B3.out.size
  clear hb3 BD BH BL D2 T2 B2 C9 HLO hgd hgh hgl
  go_wp2_with fail
  refine (wpIn_wide (n := 4)).1 ?_
  refine rangeQ rfl (by decide) (gf := 83) (lb := #[.pointer (some ⟨gh, 0, none⟩), .pointer (some ⟨gl, 0, none⟩), .pointer (some ⟨gd, 0, none⟩)]) rfl trivial (enters_of Tryz.func83 (by kernel_rfl) rfl)
    HSQ.out KF.trans (fun x W l o o' hl h hc => KF.book (B := w3.heap.size) HJL.out W l o' hl) (fun _ => rfl) (fun pre x W0 => rp_own _ _ _ _ pre x W0)
    (fun pre W => Blk W b9 3 [.int .i64 (pre.length : Int)] ∧ Below w.heap.size w W) (fun _ _ _ => False)
    (fun _ A C row h hg hr => ⟨h.1.ck (CK.of_grown hg (fun r e => (hr r e).2)), h.2.grown hg h.2.size (fun r e => by have := (hr r e).1; omega)⟩)
    (fun c _ A C row h hg hr => h) ⟨C3.out, B3.out⟩ ?act ?assign ?body ?done ?stop
  case assign =>
    rintro l x W K hK
    have hsem := Oper.semAt_some
    simp only [encP]
    gi_wp2
    simp only [List.zip_toArray, List.zip_cons_cons, List.zip_nil_left, List.foldl_toArray, List.foldl_cons, List.foldl_nil, List.setIfInBounds_toArray, List.set_cons_succ, List.set_cons_zero]
    exact hK
  case stop =>
    rintro D0 c pre W hD hSp h hK
    exact h.elim
  case body =>
    rintro l pre ⟨x, y⟩ W0 W _ hck hsz ⟨hc9, hbel⟩ ⟨h1, h2, h3⟩
    have hsem := Oper.semAt_some
    have d9 : W.cell? ⟨b9, 0, none⟩ = some (.int .i64 (pre.length : Int)) := by rw [hc9.cell]; rfl
    have f9 := hc9.free 0
    have HC9 := hide hc9
    have HBL := hide hbel
    have HFN : Hid (FP d D gd gh gl = FP d D gd gh gl) := hide rfl
    have hpn : pre.length < n := h1
    obtain ⟨i, HI⟩ : ∃ i, Hid (pre.length = i) := ⟨_, hide rfl⟩
    rw [HI.out] at d9 HC9 hpn
    have HP1 : Hid ((pre ++ [(x, y)]).length = i + 1) := hide (by rw [List.length_append, HI.out]; rfl)
    clear hc9 hbel hck hsz h1 h2 h3
    gi_wp2
    have hbut := But.setCell W b9 0 (.int .i64 ((i + 1 : Nat) : Int))
    refine ⟨(keepsO_but hbut HC9.out).from _, ⟨Nat.le_of_eq hbut.size.symm, fun k hk => hbut.block k (HF9.out k hk)⟩, ?_⟩
    show Blk _ b9 3 [.int .i64 ((pre ++ [(x, y)]).length : Int)] ∧ _
    rw [HP1.out]
    exact ⟨HC9.out.set 0 _, HBL.out.trans (hbut.below hs9)⟩
  case done =>
    rintro Dk ys W hD hS ⟨hc9, hbel⟩ hK2
    obtain rfl : ys = pls H L n := hS
    rw [pls_len] at hc9
    have d9 : W.cell? ⟨b9, 0, none⟩ = some (.int .i64 (n : Int)) := by rw [hc9.cell]; rfl
    have HDK := hide hK2
    have HBL := hide hbel
    clear hK2 hc9 hbel
    go_wp2
    refine ⟨by simp, .inl ⟨_, _, rfl, run_takeDeferred HDK.out, ?_⟩⟩
    refine ⟨.tuple #[.int .i64 (n : Int), .int .i64 0], by simp [results, Tryz.f17, go_sem], ?_⟩
    exact ⟨rfl, HBL.out.trans (belowK_b (w := w) (Nat.le_refl _) _ Dk _ (.deferred none) (by omega) HDK.out rfl rfl)⟩
end

end Go.Proofs.YtlgcjdgcgnlcaaaGreatDoor

/-
  The way through a level's digests: All.
-/
namespace Go.Proofs.YtlgcjdgcgnlcaaaGreatDoor
open Go.RowKit Go.Shelf
set_option linter.unusedVariables false
set_option linter.unusedSimpArgs false
set_option maxRecDepth 100000

theorem all_mk (p : Option Addr) (h l : Int) (w : World) : Calls Tryz.prog 18 #[.pointer p, .int .i64 h, .int .i64 l] w fun r w' => ∃ gd gh gl, r = .returned (.func (.func 53) #[] #[.pointer (some ⟨gd, 0, none⟩), .pointer (some ⟨gh, 0, none⟩), .pointer (some ⟨gl, 0, none⟩)]) ∧
    Blk w' gd 26 [.pointer p] ∧ Blk w' gh 3 [.int .i64 h] ∧ Blk w' gl 3 [.int .i64 l] ∧ w.heap.size ≤ gd ∧ w.heap.size ≤ gh ∧ w.heap.size ≤ gl ∧ Below w.heap.size w w' := by
  go_enter Tryz.func18, Tryz.ntmps18
  go_wp2
  go_ret
  have b1 : Below w.heap.size w (w.alloc (.cells #[.pointer p] 26)) := (Below.refl _ _).alloc (Nat.le_refl _) _
  have B1 : Blk (w.alloc (.cells #[.pointer p] 26)) w.heap.size 26 [.pointer p] := Blk.made _ _ _
  generalize hW1 : w.alloc (.cells #[.pointer p] 26) = W1 at *
  have s1 := b1.size
  have b2 : Below W1.heap.size W1 (W1.alloc (.cells #[.int .i64 h] 3)) := (Below.refl _ _).alloc (Nat.le_refl _) _
  have B2 : Blk (W1.alloc (.cells #[.int .i64 h] 3)) W1.heap.size 3 [.int .i64 h] := Blk.made _ _ _
  generalize hW2 : W1.alloc (.cells #[.int .i64 h] 3) = W2 at *
  have s2 := b2.size
  have b3 : Below W2.heap.size W2 (W2.alloc (.cells #[.int .i64 l] 3)) := (Below.refl _ _).alloc (Nat.le_refl _) _
  have B3 : Blk (W2.alloc (.cells #[.int .i64 l] 3)) W2.heap.size 3 [.int .i64 l] := Blk.made _ _ _
  generalize hW3 : W2.alloc (.cells #[.int .i64 l] 3) = W3 at *
  have z1 : W1.heap.size = w.heap.size + 1 := by rw [← hW1]; exact World.size_alloc _ _
  have z2 : W2.heap.size = w.heap.size + 1 + 1 := by rw [← hW2, World.size_alloc, z1]
  exact ⟨w.heap.size, w.heap.size + 1, w.heap.size + 1 + 1, rfl, (B1.on b2).on b3, by rw [← z1]; exact B2.on b3, by rw [← z2]; exact B3, Nat.le_refl _, by omega, by omega, on_below (on_below b1 b2) b3⟩
/-- What is handed out: a number and a digest. -/
abbrev Dx := Int × List Int
def encA (x : Dx) : Array Value := #[.int .i64 x.1, .agg (u8s x.2).toArray]
def alP (F : ByteArray → Option (List Int)) (H L j : Nat) : Dx := ((j : Int), dg F H L j)
def als (F : ByteArray → Option (List Int)) (H L n : Nat) : List Dx := (List.range n).map (alP F H L)
theorem als_len (F : ByteArray → Option (List Int)) (H L n : Nat) : (als F H L n).length = n := by simp [als]
theorem als_succ (F : ByteArray → Option (List Int)) (H L n : Nat) : als F H L (n + 1) = als F H L n ++ [alP F H L n] := by simp [als, List.range_succ]
def RA (F : ByteArray → Option (List Int)) (H L n : Nat) (pre : List Dx) (x : Dx) (W0 W : World) : Prop := pre.length < n ∧ pre = als F H L pre.length ∧ x = alP F H L pre.length
theorem ra_own (F : ByteArray → Option (List Int)) (H L n B0 : Nat) (pre : List Dx) (x : Dx) (W0 : World) : OwnFrom B0 (fun (_ : Unit) W => RA F H L n pre x W0 W) := fun _ W W' row h hg hr => h
/-- The bytes of a level's first digests. -/
def flD (F : ByteArray → Option (List Int)) (H L n : Nat) : List Int := (dgs F H L n).flatten
theorem flD_succ (F : ByteArray → Option (List Int)) (H L n : Nat) : flD F H L (n + 1) = flD F H L n ++ dg F H L n := by simp [flD, dgs, List.range_succ]
theorem dgs_d32 {F : ByteArray → Option (List Int)} {H L n : Nat} (h : ∀ j, j < n → hasD F H L j = true) : D32 (dgs F H L n) := fun x hx => by
  obtain ⟨i, hi, rfl⟩ := List.mem_map.1 hx
  exact dg_len (h i (List.mem_range.1 hi))
theorem flD_dat {F : ByteArray → Option (List Int)} {H L n i : Nat} (h : ∀ j, j < n → hasD F H L j = true) (hi : i < n) : dat (flD F H L n) i = dg F H L i := by
  have := flat_at (dgs F H L n) i (dgs_d32 h) (by simp [dgs, hi])
  unfold dat flD
  rw [Nat.mul_comm 32 i, this]
  simp [dgs, List.getD, hi]
/-- What stands while the digests are gathered. -/
structure ZA (W0 W : World) (B b5 : Nat) (lv : Value) (n : Nat) (xs : List Int) : Prop where
  c5 : Blk W b5 63 [lv]
  row : DOwn W B lv n xs
  l5 : W0.heap.size ≤ b5 ∧ b5 < B
  bel : Below W0.heap.size W0 W
  sz : B ≤ W.heap.size
theorem DOwn.blkS {w : World} {B : Nat} {v : Value} {n : Nat} {xs : List Int} (h : DOwn w B v n xs) {k : Nat} (hk : v.ownBlock = some k) : ∃ cs, Blk w k 32 cs := row_lies h hk
theorem DOwn.sameS {w w' : World} {B : Nat} {v : Value} {n : Nat} {xs : List Int} (h : DOwn w B v n xs) (hk : ∀ k, v.ownBlock = some k → w'.heap[k]? = w.heap[k]?) : DOwn w' B v n xs := row_same h hk
section
variable {W0 W W' : World} {B b5 : Nat} {lv : Value} {n : Nat} {xs : List Int}
theorem ZA.ck (h : ZA W0 W B b5 lv n xs) (hk : CK W W') (hb : Below W0.heap.size W0 W') : ZA W0 W' B b5 lv n xs :=
  ⟨h.c5.ck hk, h.row.sameS (fun k e => by
    obtain ⟨cs, hc⟩ := h.row.blkS e
    exact (hc.ck hk).trans hc.symm), h.l5, hb, Nat.le_trans h.sz hk.size⟩
theorem ZA.on (h : ZA W0 W B b5 lv n xs) (hb : Below W.heap.size W W') : ZA W0 W' B b5 lv n xs := h.ck (CK.below hb) (on_below h.bel hb)
theorem ZA.push {w3 w4 w5 : World} {v' : Value} {y : List Int} (h : ZA W0 W B b5 lv n xs) (h3 : Below W.heap.size W w3) (hrow : DOwn w4 B v' (n + 1) (xs ++ y)) (hgr : w3.grownBy w4 lv.ownBlock)
    (h5 : w5 = w4.setCell ⟨b5, 0, none⟩ v') : ZA W0 w5 B b5 v' (n + 1) (xs ++ y) ∧ KeepsOthers W w5 ∧ (∀ k, k < W.heap.size → k ≠ b5 → lv.ownBlock ≠ some k → w5.heap[k]? = W.heap[k]?) ∧ W.heap.size ≤ w5.heap.size := by
  have H3 := h.on h3
  have hbut : But b5 w4 w5 := by rw [h5]; exact But.setCell w4 b5 0 _
  have hfB : ∀ k, lv.ownBlock = some k → B ≤ k := fun k hk => H3.row.lt k hk
  have l5 := h.l5
  have hs3 := h3.size
  have hs4 := hgr.size
  have c4 : Blk w4 b5 63 [lv] := H3.c5.same (hgr.block b5 H3.c5.lt (fun e => by have := hfB b5 e.symm; omega))
  refine ⟨⟨?_, ?_, l5, ?_, ?_⟩, ?_, ?_, ?_⟩
  · rw [h5]; exact c4.set 0 _
  · exact hrow.sameS (fun k hk => hbut.block k (by have := hrow.lt k hk; omega))
  · have b4 : Below W0.heap.size W0 w4 := H3.bel.grown hgr H3.bel.size (fun r e => by have := hfB r e; omega)
    exact b4.trans (hbut.below l5.1)
  · rw [hbut.size]
    have := h.sz
    omega
  · refine (keepsO_below h3).trans ((keepsO_grown hgr (fun g e => ?_)).trans (keepsO_but hbut c4))
    obtain ⟨cs, hc⟩ := H3.row.blkS e
    exact ⟨_, cs, hc⟩
  · intro k hk h1 h2
    rw [hbut.block k h1, hgr.block k (by omega) (fun e => h2 e.symm), h3.block k hk]
  · rw [hbut.size]; omega
end
set_option maxHeartbeats 4000000 in
theorem all_seq (d s : Nat) (rs : List Rw) (D : Dm) (gd gh gl H L n : Nat) (w : World) (h : PAt w d s rs D gd gh gl H L) (hl : tFB H L 0 = true) (hn : Cn (play rs) H L n) (hwt : wt rs ≤ 1099511000000) :
    SeqL Fence.wide 4 Tryz.prog 53 #[.pointer (some ⟨gd, 0, none⟩), .pointer (some ⟨gh, 0, none⟩), .pointer (some ⟨gl, 0, none⟩)] encA (RA (play rs) H L n) (fun _ => KD) (fun ys => ys = als (play rs) H L n) (fun ys => ∃ k, k ≤ n ∧ ys = als (play rs) H L k) w := by
  intro l0 J Jx W hW hJ hJx hY h0
  have H0 := hide (h.below hW)
  have HJ0 := hide h0
  have HN := hide hn
  have HL := hide hl
  have HW := hide hwt
  have hLb := (tFB_bd hl).2.2.1
  have e0 : smE (H : Int) (L : Int) 0 = 0 := by
    show (if smB (H : Int) (L : Int) ((0 : Nat) : Int) = true then (0 : Int) else 2) = 0
    rw [smB_nat, if_pos hl]
  have HC := hide (scheck_any d s rs D W H0.out.dk H L (by omega) H0.out.pt)
  rw [e0] at HC
  have h32n : 32 * n ≤ wt rs := hn.wt h.dk.valS
  have hc1 : W.cell? ⟨gd, 0, none⟩ = some (.pointer (some ⟨d, 0, none⟩)) := by rw [H0.out.bd.cell]; rfl
  have hc2 : W.cell? ⟨gh, 0, none⟩ = some (.int .i64 (H : Int)) := by rw [H0.out.bh.cell]; rfl
  have hc3 : W.cell? ⟨gl, 0, none⟩ = some (.int .i64 (L : Int)) := by rw [H0.out.bl.cell]; rfl
  have hwn : wt rs ≤ 1099511000000 := hwt
  have hWs := hW.size
  clear h hn hW h0 hl hwt e0
  refine callsIn_of_wp_marks Tryz.func53 rfl trivial ?_ rfl
  refine wpIn_wide.2 ?_
  simp only [Tryz.ntmps53, List.size_toArray, List.length_cons, List.length_nil, Nat.reduceAdd, Nat.reduceSub, Array.replicate_succ, Array.replicate_zero, List.push_toArray, List.append_toArray, List.nil_append, List.cons_append]
  go_wp2_with fail
  refine HC.out.mono ?_
  rintro r w1 ⟨rfl, hb1⟩
  have HB1 := hide hb1
  have HA1 := hide (H0.out.below hb1)
  clear hb1 HC hc1 hc2 hc3
  have hA5 := HA1.out.below ((Below.refl _ w1).alloc (Nat.le_refl _) (.cells #[.slice none 0 0] 63))
  have hc1 : (w1.alloc (.cells #[.slice none 0 0] 63)).cell? ⟨gd, 0, none⟩ = some (.pointer (some ⟨d, 0, none⟩)) := by rw [hA5.bd.cell]; rfl
  have hc2 : (w1.alloc (.cells #[.slice none 0 0] 63)).cell? ⟨gh, 0, none⟩ = some (.int .i64 (H : Int)) := by rw [hA5.bh.cell]; rfl
  have hc3 : (w1.alloc (.cells #[.slice none 0 0] 63)).cell? ⟨gl, 0, none⟩ = some (.int .i64 (L : Int)) := by rw [hA5.bl.cell]; rfl
  clear hA5
  go_wp2_with fail
  have C5 : Blk (w1.alloc (.cells #[.slice none 0 0] 63)) w1.heap.size 63 [.slice none 0 0] := Blk.made w1 63 [.slice none 0 0]
  have hb5 : Below w1.heap.size w1 (w1.alloc (.cells #[.slice none 0 0] 63)) := (Below.refl _ _).alloc (Nat.le_refl _) _
  have hs5 : (w1.alloc (.cells #[.slice none 0 0] 63)).heap.size = w1.heap.size + 1 := World.size_alloc _ _
  have G5 : Hid (ZA W (w1.alloc (.cells #[.slice none 0 0] 63)) (w1.heap.size + 1) w1.heap.size (.slice none 0 0) 0 []) := hide ⟨C5, DOwn.nil _ _, ⟨HB1.out.size, by omega⟩, on_below HB1.out hb5, by rw [hs5]; exact Nat.le_refl _⟩
  have A5 := hide (HA1.out.below hb5)
  clear C5 hb5 hs5
  revert G5 A5
  have hsW := HB1.out.size
  have HLO : Hid (∀ k, D.own d k ∨ D.ro k ∨ k = 0 → k < w1.heap.size) := hide (fun k hk => by
    rcases hk with hk | hk | rfl
    · exact HA1.out.dk.lt (.inl hk)
    · exact HA1.out.dk.lt (.inr hk)
    · exact HA1.out.pt.lt)
  clear HA1 HB1 hc1 hc2 hc3
  generalize w1.alloc (.cells #[.slice none 0 0] 63) = w5
  obtain ⟨B, hB⟩ : ∃ B, w1.heap.size + 1 = B := ⟨_, rfl⟩
  rw [hB]
  generalize w1.heap.size = b5 at *
  intro G5 A5
  refine (places_mk _ _ _ _).mono ?_
  rintro r w6 ⟨gd2, gh2, gl2, rfl, BD, BH, BL, hgd, hgh, hgl, hb6⟩
  have PA6 : PAt w6 d s rs D gd2 gh2 gl2 H L := ⟨A5.out.dk.below hb6, A5.out.pt.below hb6, BD, BH, BL⟩
  have HSQ := hide (places_seq d s rs D gd2 gh2 gl2 H L n w6 PA6 HL.out HN.out HW.out)
  have HJL : Hid (∀ k, FP d D gd2 gh2 gl2 k → k < w6.heap.size) := hide (fun k hk => PA6.lt hk)
  have HFB : Hid (∀ k, FP d D gd2 gh2 gl2 k → k ≠ b5) := hide (fun k hk => by
    have h9 := G5.out.c5.lt
    rcases hk with hk | hk | rfl | rfl | rfl | hk
    · have := HLO.out k (.inl hk); omega
    · have := HLO.out k (.inr (.inl hk)); omega
    · omega
    · omega
    · omega
    · have := HLO.out k (.inr (.inr hk)); omega)
  have hbB : b5 < B := by omega
  have G6 := hide (G5.out.on hb6)
  have PA := hide PA6
  clear PA6 BD BH BL hgd hgh hgl hb6 G5
  go_wp2_with fail
  refine (wpIn_wide (n := 4)).1 ?_
  refine rangeQ rfl (by decide) (gf := 83) (lb := #[.pointer (some ⟨gh2, 0, none⟩), .pointer (some ⟨gl2, 0, none⟩), .pointer (some ⟨gd2, 0, none⟩)]) rfl trivial (enters_of Tryz.func83 (by kernel_rfl) rfl)
    HSQ.out KF.trans (fun x V l o o' hl h hc => KF.book (B := w6.heap.size) HJL.out V l o' hl) (fun _ => rfl) (fun pre x V0 => rp_own _ _ _ _ pre x V0)
    (fun pre V => (∃ lv, ZA W V B b5 lv pre.length (flD (play rs) H L pre.length)) ∧ PAt V d s rs D gd2 gh2 gl2 H L) (fun _ _ _ => False)
    (fun _ A C row h hg hr => by
      obtain ⟨⟨lv, hz⟩, hp⟩ := h
      have hw6 : W.heap.size ≤ w6.heap.size := G6.out.bel.size
      exact ⟨⟨lv, hz.ck (CK.of_grown hg (fun r e => (hr r e).2)) (hz.bel.grown hg hz.bel.size (fun r e => by have := (hr r e).1; omega))⟩, hp.same (fun k hk => hg.block k (hp.lt hk) (fun e => by have h1 := (hr k e.symm).1; have h2 := HJL.out k hk; omega))⟩)
    (fun c _ A C row h hg hr => h) ⟨⟨_, G6.out⟩, PA.out⟩ ?act ?assign ?body ?done ?stop
  case assign =>
    rintro l x V K hK
    have hsem := Oper.semAt_some
    simp only [encP]
    gi_wp2
    exact hK
  case stop =>
    rintro D0 c pre V hD hSp h hK
    exact h.elim
  case body =>
    rintro l pre ⟨nm, p⟩ V0 V _ hck hsz ⟨⟨lv, hz⟩, hpa⟩ ⟨h1, h2, h3⟩
    have hsem := Oper.semAt_some
    obtain ⟨i, HI⟩ : ∃ i, Hid (pre.length = i) := ⟨_, hide rfl⟩
    rw [HI.out] at h1 h3 hz
    obtain ⟨e1, e2⟩ := Prod.mk.inj h3
    have hD := HN.out.1 i h1
    have hnm : nmB nm = true := by rw [e1]; exact sN_nm (hasD_tile (Nmd.play hpa.dk.valS) hD)
    have hfit : p + 32 ≤ (fl (play rs) nm).length := by
      unfold hasD at hD
      simp only [decide_eq_true_eq] at hD
      rw [e1, e2]
      rw [Nat.add_mul] at hD
      omega
    have hy : ((fl (play rs) nm).drop p).take 32 = dg (play rs) H L i := by unfold dg; rw [e1, e2]
    have HDG : Hid (∀ V1 : World, DkAt V1 d s rs D → Calls Tryz.prog 54 #[.pointer (some ⟨d, 0, none⟩), .string nm, .int .i64 (p : Int)] V1 fun r w' => r = .returned (.agg (u8s (dg (play rs) H L i)).toArray) ∧ Below V1.heap.size V1 w') := hide (fun V1 hV1 => by
      have := digest_any d s rs D V1 hV1 nm p hnm hfit HW.out
      rw [hy] at this
      exact this)
    have HYL : Hid ((dg (play rs) H L i).length = 32) := hide (dg_len hD)
    have HYB : Hid (isB (dg (play rs) H L i)) := hide (by rw [← hy]; exact ((hpa.dk.byB nm).dropS p).takeS 32)
    have HFS := hide (flD_succ (play rs) H L i)
    have HXB : Hid (i ≤ 4000000000000) := hide (by have := HW.out; omega)
    generalize dg (play rs) H L i = y at *
    have HP1 : Hid ((pre ++ [(nm, p)]).length = i + 1) := hide (by rw [List.length_append, HI.out]; rfl)
    have HZ := hide hz
    have HPA := hide hpa
    have HGD : Hid (Blk V gd 26 [.pointer (some ⟨d, 0, none⟩)]) := hide (H0.out.below hz.bel).bd
    have HNL : Hid (∀ k, FP d D gd2 gh2 gl2 k → lv.ownBlock ≠ some k) := hide (fun k hk e => by
      have h5 := hz.row.lt k e
      obtain ⟨cs, hc⟩ := hz.row.blkS e
      rcases hk with hk | hk | rfl | rfl | rfl | hk
      · have := HLO.out k (.inl hk); omega
      · have := HLO.out k (.inr (.inl hk)); omega
      · exact hc.apart hpa.bd (by decide) rfl
      · exact hc.apart hpa.bh (by decide) rfl
      · exact hc.apart hpa.bl (by decide) rfl
      · have := HLO.out k (.inr (.inr hk)); omega)
    have HLG : Hid (lv.ownBlock ≠ some gd) := hide (fun e => by
      obtain ⟨cs, hc⟩ := hz.row.blkS e
      exact hc.apart HGD.out (by decide) rfl)
    have HLB : Hid (lv.ownBlock ≠ some b5) := hide (fun e => by
      have := hz.row.lt b5 e
      omega)
    clear hz hpa hck hsz h1 h2 h3 e1 e2 hD hnm hfit hy
    gi_wp2_with fail
    refine wpIn_region_U (q := 7) (S := fun v : World => v.cell? ⟨b5, 0, none⟩ = some lv ∧ v.cell? ⟨gd, 0, none⟩ = some (.pointer (some ⟨d, 0, none⟩))) (WideF.round l) (by kernel_rfl) (by kernel_rfl) ?_
    have BD := hide (Below.refl V.heap.size V).drew
    have hHeld : V.drew.cell? ⟨b5, 0, none⟩ = some lv ∧ V.drew.cell? ⟨gd, 0, none⟩ = some (.pointer (some ⟨d, 0, none⟩)) := ⟨by rw [(HZ.out.c5.on BD.out).cell]; rfl, by rw [(HGD.out.on BD.out).cell]; rfl⟩
    refine takeU 7 0 21 (lv) hHeld rfl rfl (by kernel_rfl) (by kernel_rfl) (by kernel_rfl) (by kernel_rfl) (by kernel_rfl) (by kernel_rfl) (fun _ _ _ h => h) (Or.inl ⟨by rfl, fun w hw => by have hw' : w.cell? ⟨b5, 0, none⟩ = some (lv) := (fun hw => hw.1) hw; go_simp⟩) ?_
    simp only [Act.put, List.setIfInBounds_toArray, List.set_cons_zero, List.set_cons_succ]
    refine takeU 7 1 22 (.pointer (some ⟨d, 0, none⟩)) hHeld rfl rfl (by kernel_rfl) (by kernel_rfl) (by kernel_rfl) (by kernel_rfl) (by kernel_rfl) (by kernel_rfl) (fun _ _ _ h => h) (Or.inl ⟨by rfl, fun w hw => by have hw' : w.cell? ⟨gd, 0, none⟩ = some (.pointer (some ⟨d, 0, none⟩)) := (fun hw => hw.2) hw; go_simp⟩) ?_
    simp only [Act.put, List.setIfInBounds_toArray, List.set_cons_zero, List.set_cons_succ]
    refine takeU 7 2 23 (.string nm) hHeld rfl rfl (by kernel_rfl) (by kernel_rfl) (by kernel_rfl) (by kernel_rfl) (by kernel_rfl) (by kernel_rfl) (fun _ _ _ h => h) (Or.inl ⟨by rfl, fun w _ => by go_simp⟩) ?_
    simp only [Act.put, List.setIfInBounds_toArray, List.set_cons_zero, List.set_cons_succ]
    refine takeU 7 3 24 (.int .i64 (p : Int)) hHeld rfl rfl (by kernel_rfl) (by kernel_rfl) (by kernel_rfl) (by kernel_rfl) (by kernel_rfl) (by kernel_rfl) (fun _ _ _ h => h) (Or.inl ⟨by rfl, fun w _ => by go_simp⟩) ?_
    simp only [Act.put, List.setIfInBounds_toArray, List.set_cons_zero, List.set_cons_succ]
    refine wpAnyU_ready (rs := [4]) (by kernel_rfl) (by simp) (AllReadyU.cons rfl (fun K hK => ?_) AllReadyU.nil)
    rw [if_pos (by rfl)]
    go_simp
    refine (HDG.out _ (HPA.out.dk.below BD.out)).mono ?_
    rintro r v4 ⟨rfl, hb4⟩
    have B4 := hide (on_below BD.out hb4)
    clear hb4 hHeld
    refine hK.out _ _ (fun _ => (show v4.cell? ⟨b5, 0, none⟩ = some lv ∧ v4.cell? ⟨gd, 0, none⟩ = some (.pointer (some ⟨d, 0, none⟩)) from ⟨by rw [(HZ.out.c5.on B4.out).cell]; rfl, by rw [(HGD.out.on B4.out).cell]; rfl⟩)) ?_
    have hHeld := (show v4.cell? ⟨b5, 0, none⟩ = some lv ∧ v4.cell? ⟨gd, 0, none⟩ = some (.pointer (some ⟨d, 0, none⟩)) from ⟨by rw [(HZ.out.c5.on B4.out).cell]; rfl, by rw [(HGD.out.on B4.out).cell]; rfl⟩)
    clear hK K
    try simp only [Act.put, List.setIfInBounds_toArray, List.set_cons_zero, List.set_cons_succ]
    refine wpAnyU_ready (rs := [5]) (by kernel_rfl) (by simp) (AllReadyU.cons rfl (fun K hK => ?_) AllReadyU.nil)
    rw [if_pos (by rfl)]
    refine wp_oneD (ds := y) rfl HYL.out HYB.out ?_
    intro v5 g5 hg5 hb5
    have B5 := hide (on_below B4.out hb5)
    have G5' := hide hg5
    clear hb5 hg5 hHeld
    refine hK.out _ _ (fun _ => (show v5.cell? ⟨b5, 0, none⟩ = some lv ∧ v5.cell? ⟨gd, 0, none⟩ = some (.pointer (some ⟨d, 0, none⟩)) from ⟨by rw [(HZ.out.c5.on B5.out).cell]; rfl, by rw [(HGD.out.on B5.out).cell]; rfl⟩)) ?_
    have hHeld := (show v5.cell? ⟨b5, 0, none⟩ = some lv ∧ v5.cell? ⟨gd, 0, none⟩ = some (.pointer (some ⟨d, 0, none⟩)) from ⟨by rw [(HZ.out.c5.on B5.out).cell]; rfl, by rw [(HGD.out.on B5.out).cell]; rfl⟩)
    clear hK K
    try simp only [Act.put, List.setIfInBounds_toArray, List.set_cons_zero, List.set_cons_succ]
    refine wpAnyU_ready (rs := [6]) (by kernel_rfl) (by simp) (AllReadyU.cons rfl (fun K hK => ?_) AllReadyU.nil)
    rw [if_pos (by rfl)]
    refine wp_appendDG rfl rfl (HZ.out.row.below B5.out) G5'.out (by have := HXB.out; omega) (Nat.le_trans HZ.out.sz B5.out.size) ?_
    intro lv2 v6 hrow hgr
    obtain ⟨la, lc, hlv2⟩ := row_slice hrow
    subst hlv2
    have c6 : Blk v6 b5 63 [lv] := (HZ.out.c5.on B5.out).same (hgr.block b5 (HZ.out.c5.on B5.out).lt (fun e => HLB.out e.symm))
    have d6 : Blk v6 gd 26 [.pointer (some ⟨d, 0, none⟩)] := (HGD.out.on B5.out).same (hgr.block gd (HGD.out.on B5.out).lt (fun e => HLG.out e.symm))
    have HFIN := hide (HZ.out.push B5.out hrow hgr rfl)
    have e6 : v6.cell? ⟨b5, 0, none⟩ = some lv := by rw [c6.cell]; rfl
    have e7 : v6.cell? ⟨gd, 0, none⟩ = some (.pointer (some ⟨d, 0, none⟩)) := by rw [d6.cell]; rfl
    have f6 := c6.free 0
    clear hrow hgr hHeld d6
    refine hK.out _ _ (fun _ => (And.intro e6 e7)) ?_
    have hHeld := (And.intro e6 e7)
    clear hK K
    try simp only [Act.put, List.setIfInBounds_toArray, List.set_cons_zero, List.set_cons_succ]
    clear c6 e7
    refine wpAnyU_ready (rs := [7]) (by kernel_rfl) (by simp) (AllReadyU.cons rfl (fun K hK => ?_) AllReadyU.nil)
    rw [if_pos (by rfl)]
    go_simp
    refine hK.out _ _ (fun h => absurd h (by decide)) ?_
    clear hK K
    refine wpAnyU_done (by kernel_rfl) ?_ _
    refine Only.normal ?_
    clear hHeld e6 f6
    gi_wp2
    refine ⟨HFIN.out.2.1.from _, ⟨HFIN.out.2.2.2, fun k hk => HFIN.out.2.2.1 k (HPA.out.lt hk) (HFB.out k hk) (HNL.out k hk)⟩, ?_⟩
    show (∃ lv, ZA W _ B b5 lv (pre ++ [(nm, p)]).length (flD (play rs) H L (pre ++ [(nm, p)]).length)) ∧ _
    rw [HP1.out, HFS.out]
    exact ⟨⟨_, HFIN.out.1⟩, HPA.out.same (fun k hk => HFIN.out.2.2.1 k (HPA.out.lt hk) (HFB.out k hk) (HNL.out k hk))⟩
  case done =>
    rintro Dk ys V hD hS ⟨⟨lv, hz⟩, hpa⟩ hK2
    obtain rfl : ys = pls H L n := hS
    rw [pls_len] at hz
    have HDK := hide hK2
    have HJ6 := hide (hJ _ W V none HJ0.out ⟨hz.bel.os, hz.bel.tape, hz.bel.output, hz.bel.size, fun i hi _ => hz.bel.block i hi⟩ (fun r e => by cases e))
    obtain ⟨la, lc, hlv⟩ := row_slice hz.row
    subst hlv
    have HZ := hide hz
    have hc5 : V.cell? ⟨b5, 0, none⟩ = some (.slice la n lc) := by rw [hz.c5.cell]; rfl
    have hflB : isB (flD (play rs) H L n) := by
      intro z hz'
      unfold flD at hz'
      obtain ⟨q, hq, hzq⟩ := List.mem_flatten.1 hz'
      obtain ⟨j, _, rfl⟩ := List.mem_map.1 hq
      exact ((hpa.dk.byB _).dropS _).takeS 32 z hzq
    have HDS : Hid (∀ V' : World, DOwn V' B (.slice la n lc) n (flD (play rs) H L n) → Ds V' la n lc (flD (play rs) H L n)) := hide (fun V' hV' => by
      obtain ⟨a', cap', e, hds, _⟩ := hV'.ds hflB (by omega)
      injection e with e1 e2 e3
      subst e1 e3
      exact hds)
    have HDA := hide (fun i hi => flD_dat (F := play rs) (H := H) (L := L) (n := n) (i := i) HN.out.1 hi)
    have HYB : Hid (∀ i, i < n → isB (dg (play rs) H L i) ∧ (dg (play rs) H L i).length = 32) := hide (fun i hi => ⟨((hpa.dk.byB _).dropS _).takeS 32, dg_len (HN.out.1 i hi)⟩)
    have hDw : W.heap.size ≤ Dk := by have := G6.out.bel.size; omega
    have hDB : w.heap.size ≤ Dk := Nat.le_trans hWs hDw
    clear hz hpa hK2 hflB G6 PA HSQ HJL HFB HLO
    have hnn : n ≤ 40000000000 := by omega
    gi_wp2
    refine (wpIn_wide (n := 4)).1 ?_
    gi_wp2
    gi_loopw [30] (fun p wr => ∃ (k : Nat) (pre : List Dx), k ≤ n ∧ p = .int .i64 (k : Int) ∧ Hid (pre = als (play rs) H L k) ∧ Hid (J pre wr) ∧ Hid (DOwn wr B (.slice la n lc) n (flD (play rs) H L n)) ∧ Hid (wr.heap[Dk]? = some (.deferred (some [])))) (fun p _ => n - (intOf p).toNat)
    case atStart => exact ⟨0, [], Nat.zero_le _, rfl, hide rfl, HJ6, hide HZ.out.row, HDK⟩
    case round =>
      clear hc5 HJ6 HDK HZ
      obtain ⟨k, pre, hk, rfl, HPR, HJ, HRW, HDK⟩ := hrel
      by_cases hlt : k < n
      · have hlti : (k : Int) < (n : Int) := by omega
        have hds := HDS.out wr HRW.out
        obtain ⟨b, o, rfl⟩ := hds.place (by omega)
        have hix := d_at b o n lc k (k : Int) rfl hlt
        have hrg := hds.range k hlt
        rw [HDA.out k hlt] at hrg
        have HRG := hide hrg
        obtain ⟨hyb, hyl⟩ := HYB.out k hlt
        have HUL : Hid ((u8s (dg (play rs) H L k)).length = 32) := hide (by rw [u8s_length, hyl])
        have HRA : Hid (∀ V1 : World, RA (play rs) H L n pre ((k : Int), dg (play rs) H L k) wr V1) := hide (fun V1 => by
          have hpl : pre.length = k := by rw [HPR.out, als_len]
          exact ⟨by rw [hpl]; exact hlt, by rw [hpl]; exact HPR.out, by rw [hpl]; rfl⟩)
        have HM : Hid (pre ++ [((k : Int), dg (play rs) H L k)] = als (play rs) H L (k + 1)) := hide (by rw [als_succ, HPR.out]; rfl)
        generalize dg (play rs) H L k = y at *
        clear hds hrg hyb hyl
        gi_wp2_with (first | (refine istep_loadR WideF.wide wDs rfl rfl _ HRG.out HUL.out ?_) | (refine istep_alloc WideF.wide zDs rfl ?_))
        intro w9 g9 hg9 hle9 hb9
        have HG9 := hide hg9
        have HL9 := hide hle9
        have HB9 := hide hb9
        clear hg9 hle9 hb9
        gi_wp2_with (refine istep_storeA WideF.wide wDs rfl rfl rfl HG9.out HUL.out (One.u8 _) (by rw [u8s_length, zer_length]) ?_)
        intro w10 hg10 hbut
        have HG10 := hide hg10
        have HB10 := hide (HB9.out.trans (hbut.below HL9.out))
        have HJ10 := hide (hJ _ wr w10 none HJ.out ⟨HB10.out.os, HB10.out.tape, HB10.out.output, HB10.out.size, fun i hi _ => HB10.out.block i hi⟩ (fun r e => by cases e))
        have HRW10 := hide (HRW.out.below HB10.out)
        have HDK10 : Hid (w10.heap[Dk]? = some (.deferred (some []))) := hide ((HB10.out.block Dk (Array.getElem?_eq_some_iff.1 HDK.out).1).trans HDK.out)
        clear hg10 hbut
        obtain ⟨fn, tmps, assign, body, hy, hR⟩ := hY pre ((k : Int), y) wr w10 HJ.out HB10.out HJ10.out (HRA.out w10)
        simp only [encA] at hy
        gi_wp2_with (refine istep_loadA WideF.wide wDs rfl rfl HG10.out HUL.out ?_)
        refine hR.mono ?_
        rintro r W7 (⟨rfl, hJ7, hk7, hm7⟩ | ⟨rfl, hJx7, hm7⟩)
        · have HJ7 := hide hJ7
          have HRW7 : Hid (DOwn W7 B (.slice (some ⟨b, o, none⟩) n lc) n (flD (play rs) H L n)) := hide (HRW10.out.sameS (fun q hq => by
            obtain ⟨cs, hc⟩ := HRW10.out.blkS hq
            exact (hk7.keep q cs hc).trans hc.symm))
          have HDK7 := hide (hm7 Dk hDB HDK10.out)
          clear hJ7 hk7 hy hR HJ10 HRW10 HDK10 hix HRG HRA
          gi_wp2
          go_roundw
          case rel => exact ⟨k + 1, _, by omega, by go_num, HM, HJ7, HRW7, HDK7⟩
          case measure => simp only [intOf]; omega
        · have HJx7 := hide hJx7
          have HDK7 := hide (hm7 Dk hDB HDK10.out)
          clear hJx7 hy hR hix HRG HRA
          gi_wp2
          refine ⟨by simp, .inl ⟨_, _, rfl, run_takeDeferred HDK7.out, ?_⟩⟩
          refine ⟨_, results_none rfl _ _ _, ⟨_, rfl⟩, .inr ⟨_, ⟨k + 1, by omega, HM.out⟩, hJx _ W7 _ (some Dk) HJx7.out (grownBy_putObj' W7 Dk _) (fun r e => by cases e; exact ⟨hDw, _, HDK7.out, rfl⟩)⟩⟩
      · have hlti : ¬ (k : Int) < (n : Int) := by omega
        obtain rfl : k = n := by omega
        gi_wp2
        refine ⟨by simp, .inl ⟨_, _, rfl, run_takeDeferred HDK.out, ?_⟩⟩
        have hjj := hJ pre wr (wr.putObj Dk (.deferred none)) (some Dk) HJ.out (grownBy_putObj' wr Dk _) (fun r e => by cases e; exact ⟨hDw, _, HDK.out, rfl⟩)
        rw [HPR.out] at hjj
        exact ⟨_, results_none rfl _ _ _, ⟨_, rfl⟩, .inl hjj⟩

end Go.Proofs.YtlgcjdgcgnlcaaaGreatDoor

/-
  A range over a function whose round begins with a variable of its own: what stands ahead of the body is handed to it.
-/
namespace Go.Proofs.YtlgcjdgcgnlcaaaGreatDoor
open Go.RowKit Go.Shelf
set_option linter.unusedVariables false

section
variable {F : Fence} {n : Nat} {P : Program}
theorem round_A {m : Nat} {fn : FuncId} {tmps : Array Value} {ps : Array Tmp} {assign body : Code} {D : Nat} (hfn : F.fn fn) {args : Array Value} (hps : args.size = ps.size) {W : World} (hB : Bk (lrec fn tmps ps assign body D .ready none) D W) {Post : Ending → World → Prop}
    (hrun : assign.wpIn (F.inRound (D + 1)) m P (Exit.then (fun a' V => Bk (lrec fn tmps ps assign body D .ready none) D V ∧ body.wpIn (F.inRound (D + 1)) m P (fun e _ W' => match e with
      | .normal => Bk (lrec fn tmps ps assign body D .busy none) D W' ∧ Post (.returned (.bool true)) (W'.putObj (D + 1) (.loop (lrec fn tmps ps assign body D .ready none)))
      | .ret => Bk (lrec fn tmps ps assign body D .busy none) D W' ∧ Post (.returned (.bool false)) (W'.putObj (D + 1) (.loop (lrec fn tmps ps assign body D .done (some .ret))))
      | .exit id => Bk (lrec fn tmps ps assign body D .busy none) D W' ∧ Post (.returned (.bool false)) (W'.putObj (D + 1) (.loop (lrec fn tmps ps assign body D .done (some (.exit id)))))
      | .goto u => Bk (lrec fn tmps ps assign body D .busy none) D W' ∧ Post (.returned (.bool false)) (W'.putObj (D + 1) (.loop (lrec fn tmps ps assign body D .done (some (.goto u)))))
      | _ => False) a' (V.putObj (D + 1) (.loop (lrec fn tmps ps assign body D .busy none)))) (fun _ _ _ => False)) { tmps := (ps.zip args).foldl (fun t (p, v) => t.setIfInBounds p v) tmps, defers := [] } W) :
    YieldAt F m P (D + 1) args W Post := by
  refine ⟨fn, _, assign, body, run_yield (P := P) (args := args) hB.loop hps, roundIn_of_wpIn hfn (wpIn_mono hrun ?_)⟩
  intro e0 a0 V hp0
  cases e0 with
  | normal =>
    obtain ⟨hBV, hbody⟩ := hp0
    refine ⟨_, run_beginRound hBV.loop rfl, wpIn_mono hbody ?_⟩
    intro e a3 W3 hp
    cases e with
    | normal => exact ⟨_, _, run_endRound none hp.1.loop, hp.2⟩
    | ret => exact ⟨_, _, run_endRound (some .ret) hp.1.loop, hp.2⟩
    | exit id => exact ⟨_, _, run_endRound (some (.exit id)) hp.1.loop, hp.2⟩
    | goto u => exact ⟨_, _, run_endRound (some (.goto u)) hp.1.loop, hp.2⟩
    | panic ch => exact hp.elim
    | outgrown => exact hp.elim
  | ret => exact hp0.elim
  | exit id => exact hp0.elim
  | goto u => exact hp0.elim
  | panic ch => exact hp0.elim
  | outgrown => exact hp0.elim
theorem rangeB {α : Type} {g : Operand} {ps : Array Tmp} {assign body : Code} {Q : Exit → Act → World → Prop} {a : Act} {w : World}
    (hro : F.round = none) (h1 : 1 ≤ n) {gf : Nat} {lb : Array Value} (hg : a.eval g = .func (.func gf) #[] lb) (hFg : F.fn gf) (eg : ∀ args w, (callFunc gf args).run P w = .ok (.enter gf args) w)
    {encs : α → Array Value} {R : List α → α → World → World → Prop} {Kp : α → World → World → Prop} {S Sp : List α → Prop} (hseq : SeqL F (n - 1) P gf lb encs R Kp S Sp w)
    (hKt : ∀ {x : α} {A B C : World}, Kp x A B → Kp x B C → Kp x A C) (hKb : ∀ (x : α) (W : World) (l : Nat) (o o' : Obj), w.heap.size ≤ l → W.heap[l]? = some o → o.isCells = false → Kp x W (W.putObj l o')) (hKw : ∀ (x : α) (A C : World), Below A.heap.size A C → Kp x A C) (hps : ∀ x, (encs x).size = ps.size)
    (hR : ∀ pre x W0, OwnFrom w.heap.size (fun (_ : Unit) W => R pre x W0 W))
    (I : List α → World → Prop) (Ix : Code → List α → World → Prop) (hI : OwnFrom w.heap.size I) (hIx : ∀ c, OwnFrom w.heap.size (Ix c)) (h0 : I [] w) (a₁ : α → Nat → Act) (Ab : α → Nat → World → Prop) (hAb : ∀ x g (V : World) (l : Nat) (r : Loop) (o' : Obj), V.heap[l]? = some (.loop r) → Ab x g V → Ab x g (V.putObj l o'))
    (hassign : ∀ (l : Nat) (x : α) (W : World) (K : Act → World → Prop), (∃ pre W0, R pre x W0 W) → (∀ (g : Nat) (V : World), Below W.heap.size W V → W.heap.size ≤ g → Ab x g V → K (a₁ x g) V) →
      assign.wpIn (F.inRound l) (n - 1 - 1) P (Exit.then K (fun _ _ _ => False)) { tmps := (ps.zip (encs x)).foldl (fun t (p, v) => t.setIfInBounds p v) a.tmps, defers := [] } W)
    (hbody : ∀ (l : Nat) (pre : List α) (x : α) (g : Nat) (W0 W : World), W0.heap.size ≤ g → Ab x g W → I pre W0 → (∀ (k : Nat) (o : Obj), W0.heap[k]? = some o → o.isCells = true → W.heap[k]? = some o) → W0.heap.size ≤ W.heap.size → I pre W → R pre x W0 W → body.wpIn (F.inRound l) (n - 1 - 1) P (ownPostG w.heap.size (Kp x) I Ix (pre ++ [x]) W) (a₁ x g) W)
    (hdone : ∀ (D : Nat) (xs : List α) (W : World), w.heap.size ≤ D → S xs → I xs W → W.heap[D]? = some (.deferred (some [])) → Q .normal { a with defers := { target := .collected D, args := #[] } :: a.defers } W)
    (hstop : ∀ (D : Nat) (c : Code) (pre : List α) (W : World), w.heap.size ≤ D → Sp pre → Ix c pre W → W.heap[D]? = some (.deferred (some [])) → c.wpIn F n P Q { a with defers := { target := .collected D, args := #[] } :: a.defers } W) :
    (Code.rangeFunc g ps assign body).wpIn F n P Q a w := by
  refine wpIn_rangeFunc fun fn hfn => ?_
  rw [hro]
  obtain ⟨W1, hW1⟩ : ∃ W1, (w.alloc (.deferred (some []))).alloc (.loop (lrec fn a.tmps ps assign body w.heap.size .ready none)) = W1 := ⟨_, rfl⟩
  have B1 : Bk (lrec fn a.tmps ps assign body w.heap.size .ready none) w.heap.size W1 := by rw [← hW1]; exact Bk.new w _
  have b1 : Below w.heap.size w W1 := by rw [← hW1]; exact ((Below.refl _ w).alloc (Nat.le_refl _) _).alloc (by simp) _
  have s1 : w.heap.size ≤ W1.heap.size := b1.size
  have far : ∀ {A : World} {row : Option Nat}, (∀ r, row = some r → W1.heap.size ≤ r ∧ ∃ o : Obj, A.heap[r]? = some o ∧ o.isCells = false) → ∀ r, row = some r → w.heap.size ≤ r ∧ ∃ o : Obj, A.heap[r]? = some o ∧ o.isCells = false :=
    fun hr r e => by obtain ⟨hb, o, ho, hw⟩ := hr r e; exact ⟨by omega, o, ho, hw⟩
  have z1 : W1.heap.size = w.heap.size + 2 := by rw [← hW1, World.size_alloc, World.size_alloc]
  refine ⟨w.heap.size + 1, [{ target := .collected w.heap.size, args := #[] }], W1, { target := .fn (.func gf) lb, args := #[.func (.yield (w.heap.size + 1)) #[] #[]] }, W1, gf,
    #[.func (.yield (w.heap.size + 1)) #[] #[]] ++ lb, W1, by rw [← hW1]; exact run_enterLoop_outer _ _ _ _ _, by simp only [resolve, hg]; simp [go_sem], fun f' hf' => by simp [Target.leads] at hf'; subst hf'; exact hFg, by simp [invoke, go_sem, eg], fun _ => h1, ?_⟩
  refine (hseq (w.heap.size + 1) (fun pre W => I pre W ∧ Bk (lrec fn a.tmps ps assign body w.heap.size .ready none) w.heap.size W) (fun pre W => ∃ c, Ix c pre W ∧ Bk (lrec fn a.tmps ps assign body w.heap.size .done (some c)) w.heap.size W) W1 b1
    (fun s A B row hs hg' hr => ⟨hI s A B row hs.1 hg' (far hr), hs.2.own hg' (fun q e => by have := (hr q e).1; omega)⟩)
    (fun s A B row hs hg' hr => by obtain ⟨c, hc, hb⟩ := hs; exact ⟨c, hIx c s A B row hc hg' (far hr), hb.own hg' (fun q e => by have := (hr q e).1; omega)⟩) ?_
    ⟨by rw [← hW1]; exact hI.alloc _ (hI.alloc _ h0), B1⟩).mono ?_
  · rintro pre x W0 W ⟨hi0, hB0⟩ hb0 ⟨hi, hB⟩ hr
    refine round_A hfn (hps x) hB (hassign _ x W _ ⟨pre, W0, hr⟩ (fun g V hbV hgW hab => ?_))
    have hgV : W.grownBy V none := ⟨hbV.os, hbV.tape, hbV.output, hbV.size, fun i hi _ => hbV.block i hi⟩
    have hBV := hB.own hgV (fun q e => by cases e)
    have hiV := hI _ W V none hi hgV (fun q e => by cases e)
    have hrV := hR pre x W0 () W V none hr hgV (fun q e => by cases e)
    have hsV : W.heap.size ≤ V.heap.size := hbV.size
    refine ⟨hBV, ?_⟩
    have hB2 := hBV.put (lrec fn a.tmps ps assign body w.heap.size .busy none)
    have hK2 : Kp x W (V.putObj (w.heap.size + 1) (.loop (lrec fn a.tmps ps assign body w.heap.size .busy none))) := hKt (hKw x W V hbV) (hKb x _ _ _ _ (by omega) hBV.loop rfl)
    refine wpIn_mono (hbody _ pre x g W0 _ (Nat.le_trans hb0.size hgW) (hAb x g V _ _ _ hBV.loop hab) hi0 (fun k o ho hc => ?_) (Nat.le_trans hb0.size (Nat.le_trans hsV (grownBy_putObj' V _ _).size)) (hI.putObj _ hiV (by omega) hBV.loop rfl) ((hR pre x W0).putObj (s := ()) _ hrV (by omega) hBV.loop rfl)) ?_
    · have hk0 : W.heap[k]? = some o := (hb0.block k (Array.getElem?_eq_some_iff.1 ho).1).trans ho
      have hk : V.heap[k]? = some o := (hbV.block k (Array.getElem?_eq_some_iff.1 hk0).1).trans hk0
      rw [World.putObj_heap_other (fun e => by
        subst e
        rw [hBV.loop] at hk
        injection hk with hk
        subst hk
        cases hc)]
      exact hk
    have hmk : ∀ {W3 : World} {r2 : Loop} {o' : Obj}, KeepsFrom w.heap.size (V.putObj (w.heap.size + 1) (.loop (lrec fn a.tmps ps assign body w.heap.size .busy none))) W3 → W3.heap[w.heap.size + 1]? = some (.loop r2) → MarksFrom w.heap.size W (W3.putObj (w.heap.size + 1) o') := fun h1 h2 k hB hq => marks_round hBV.loop h1 h2 k hB ((hbV.block k (Array.getElem?_eq_some_iff.1 hq).1).trans hq)
    intro e a3 W3 hp
    cases e with
    | normal =>
      have hB3 := hB2.keep hp.1
      exact ⟨hB3, .inl ⟨rfl, ⟨hI.putObj _ hp.2.2 (by omega) hB3.loop rfl, hB3.put _⟩, hKt hK2 (hKt hp.2.1 (hKb x _ _ _ _ (by omega) hB3.loop rfl)), hmk hp.1 hB3.loop⟩⟩
    | ret =>
      have hB3 := hB2.keep hp.1
      exact ⟨hB3, .inr ⟨rfl, ⟨.ret, (hIx _).putObj _ hp.2 (by omega) hB3.loop rfl, hB3.put _⟩, hmk hp.1 hB3.loop⟩⟩
    | exit id =>
      have hB3 := hB2.keep hp.1
      exact ⟨hB3, .inr ⟨rfl, ⟨.exit id, (hIx _).putObj _ hp.2 (by omega) hB3.loop rfl, hB3.put _⟩, hmk hp.1 hB3.loop⟩⟩
    | goto u =>
      have hB3 := hB2.keep hp.1
      exact ⟨hB3, .inr ⟨rfl, ⟨.goto u, (hIx _).putObj _ hp.2 (by omega) hB3.loop rfl, hB3.put _⟩, hmk hp.1 hB3.loop⟩⟩
    | panic ch => exact hp.elim
    | outgrown => exact hp.elim
  · rintro e W2 ⟨⟨v, rfl⟩, (⟨xs, hS, hi, hB⟩ | ⟨pre, hSp, c, hi, hB⟩)⟩
    · exact ⟨none, _, run_endLoop (P := P) hB.loop (by simp [lrec]), hdone _ xs _ (Nat.le_refl _) hS (hI.putObj _ hi (by omega) hB.loop rfl) ((World.putObj_heap_other (by omega)).trans hB.mark)⟩
    · exact ⟨some c, _, run_endLoop (P := P) hB.loop (by simp [lrec]), hstop _ c pre _ (Nat.le_refl _) hSp ((hIx c).putObj _ hi (by omega) hB.loop rfl) ((World.putObj_heap_other (by omega)).trans hB.mark)⟩
end

end Go.Proofs.YtlgcjdgcgnlcaaaGreatDoor

/-
  Disks that no call made, under shelf's calls.
-/
namespace Go.Proofs.YtlgcjdgcgnlcaaaGreatDoor
open Go.RowKit Go.Shelf
set_option linter.unusedVariables false
set_option linter.unusedSimpArgs false
set_option maxRecDepth 100000

section
variable (p : Option Addr) (w : World) (h : Nob w p)
include h
end
end Go.Proofs.YtlgcjdgcgnlcaaaGreatDoor

/-
  The walk of ShelfNobody.
-/
namespace Go.Proofs.YtlgcjdgcgnlcaaaGreatDoor
open Go.RowKit Go.Shelf
set_option linter.unusedVariables false
set_option linter.unusedSimpArgs false
set_option maxRecDepth 100000

/-- An act's cells. -/
def asC (k h l i : Int) (b : Bool) (x : List Int) (wd : Int) : List Value := [.int .i64 k, .int .i64 h, .int .i64 l, .int .i64 i, .bool b] ++ u8s x ++ [.int .i64 wd]
theorem asC_wd (k h l i : Int) (b : Bool) (x : List Int) (wd : Int) (hx : x.length = 32) : (asC k h l i b x wd)[37]? = some (.int .i64 wd) := by
  unfold asC
  rw [List.getElem?_append_right (by simp [u8s_length, hx])]
  simp [u8s_length, hx]
theorem asC_dg (k h l i : Int) (b : Bool) (x : List Int) (wd : Int) (hx : x.length = 32) : ((asC k h l i b x wd).drop 5).take (u8s x).length = u8s x := by
  unfold asC
  rw [List.append_assoc]
  show List.take (u8s x).length (u8s x ++ [Value.int .i64 wd]) = u8s x
  exact List.take_left' rfl
section
variable {w W W' : World} {ga gr b : Nat} {A : List Value} {M : List Nat}
end
end Go.Proofs.YtlgcjdgcgnlcaaaGreatDoor

/-
  From how an argument is read as data to what the walks are told of it: an act of the statements of shelf.
-/
namespace Go.Proofs.YtlgcjdgcgnlcaaaGreatDoor
open Go.ChangeShapes Go.WideShapes Go.ChangeAt Go.RowKit
set_option linter.unusedVariables false

/-- An act. -/
structure As where
  k : Int
  h : Int
  l : Int
  i : Int
  b : Bool
  x : List Int
  wd : Int
def As.cells (z : As) : List Value := asC z.k z.h z.l z.i z.b z.x z.wd
def rngI (z : Int) : Prop := -9223372036854775808 ≤ z ∧ z ≤ 9223372036854775807
structure As.In (z : As) : Prop where
  len : z.x.length = 32
  byt : isB z.x
  rk : rngI z.k
  rh : rngI z.h
  rl : rngI z.l
  ri : rngI z.i
  rw : rngI z.wd
theorem as_digit {H : Type} {enc : TypeId × Value → H} {W : World} {fuel : Nat} {cs : List Value} {x : DataW H × List MemPlace}
    (hf : DataW.trod enc Tryz.prog W 0 (fun _ => true) true fuel 32 cs = some x) (hl : cs.length = 32) : ∃ xs : List Int, cs = u8s xs ∧ xs.length = 32 ∧ isB xs := by
  obtain ⟨ys, q, _, _, _, hyl, hy⟩ := DataW.trod_array aD.und hf
  rw [aD.cells] at hy
  have cell : ∀ j, j < 32 → ∃ z : Int, cs[j]? = some (.int .u8 z) ∧ 0 ≤ z ∧ z ≤ 255 := by
    intro j hj
    have e := hy j hj
    have hys : ys[j]? = some ys[j] := List.getElem?_eq_getElem (by omega)
    rw [hys, Nat.mul_one, List.drop_eq_getElem_cons (by omega)] at e
    simp only [List.take_succ_cons, List.take_zero] at e
    obtain ⟨z, hz, _, hwf⟩ := DataW.trod_int aD.elem e
    simp only [List.cons.injEq, and_true] at hz
    exact ⟨z, by rw [List.getElem?_eq_getElem (by omega), hz], bounds_u8 hwf⟩
  refine ⟨(List.range 32).map (fun i => intOf (cs[i]?.getD undef)), ?_, by simp, ?_⟩
  · refine List.ext_getElem? fun i => ?_
    by_cases hi : i < 32
    · obtain ⟨z, hz, _⟩ := cell i hi
      rw [hz]
      simp [u8s, hi, hz, intOf]
    · rw [List.getElem?_eq_none (by omega), List.getElem?_eq_none (by rw [u8s_length, List.length_map, List.length_range]; omega)]
  · intro y hy
    simp only [List.mem_map, List.mem_range] at hy
    obtain ⟨j, hj, rfl⟩ := hy
    obtain ⟨z, hz, hb⟩ := cell j hj
    rw [hz]
    exact hb
theorem ciS : Tryz.prog.cellsOf 3 = 1 := by kernel_rfl
theorem cboS : Tryz.prog.cellsOf 4 = 1 := by kernel_rfl
theorem cdS : Tryz.prog.cellsOf 32 = 32 := by kernel_rfl
theorem caS : Tryz.prog.cellsOf 34 = 38 := by kernel_rfl
theorem uboS : Tryz.prog.underlying 4 = some .bool := by kernel_rfl
theorem uiS : Tryz.prog.underlying 3 = some (.int .i64) := by kernel_rfl
theorem cutS14 {L x : List Value} {k n : Nat} (h : (L.drop k).take n = x) : L.drop k = x ++ L.drop (k + n) := by
  rw [← h, ← List.drop_drop, List.take_append_drop]
end Go.Proofs.YtlgcjdgcgnlcaaaGreatDoor

/-
  From how an argument is read as data to what the walks are told of it: a slice of the acts of the statements of shelf.
-/
namespace Go.Proofs.YtlgcjdgcgnlcaaaGreatDoor
open Go.ChangeShapes Go.WideShapes Go.ChangeAt Go.RowKit
set_option linter.unusedVariables false

/-- A slice of acts. -/
structure Ass (w : World) (a : Option Addr) (len cap : Nat) (L : List As) : Prop where
  hlen : L.length = len
  hcap : len ≤ cap
  hmax : cap ≤ 9223372036854775807
  hin : ∀ (i : Nat) x, L[i]? = some x → x.In
  hcell : ∀ (i : Nat) x, L[i]? = some x → ∃ b off, a = some ⟨b, off, none⟩ ∧ w.rangeAt b (off + i * 38) x.cells
theorem Ass.below {w w' : World} {a : Option Addr} {len cap : Nat} {L : List As} (h : Ass w a len cap L) (hb : Below w.heap.size w w') : Ass w' a len cap L :=
  ⟨h.hlen, h.hcap, h.hmax, h.hin, fun i x hx => by
    obtain ⟨b, off, e, hr⟩ := h.hcell i x hx
    exact ⟨b, off, e, rangeAt_below hr hb⟩⟩
set_option maxRecDepth 100000 in
set_option maxHeartbeats 1000000 in
theorem as_trod2 {H : Type} {enc : TypeId × Value → H} {W : World} {fuel : Nat} {L : List Value} {x : DataW H × List MemPlace} (hL : L.length = 38)
    (hf : DataW.trod enc Tryz.prog W 0 (fun _ => true) true fuel 34 L = some x) : ∃ z : As, L = z.cells ∧ z.In ∧ 6 ≤ Rows.uptoBulk x.1 := by
  have hu := Tryz.underlying34
  obtain ⟨xs, n, _, hx, _, hxl, hfs⟩ := DataW.trod_struct hu hf
  match xs, hxl with
  | [y0, y1, y2, y3, y4, y5, y6], _ =>
    have h0 : DataW.trod enc Tryz.prog W 0 (fun _ => true) true n 3 ((L.drop 0).take (Tryz.prog.cellsOf 3)) = some y0 := hfs 0 _ rfl
    have h1 : DataW.trod enc Tryz.prog W 0 (fun _ => true) true n 3 ((L.drop 1).take (Tryz.prog.cellsOf 3)) = some y1 := hfs 1 _ rfl
    have h2 : DataW.trod enc Tryz.prog W 0 (fun _ => true) true n 3 ((L.drop 2).take (Tryz.prog.cellsOf 3)) = some y2 := hfs 2 _ rfl
    have h3 : DataW.trod enc Tryz.prog W 0 (fun _ => true) true n 3 ((L.drop 3).take (Tryz.prog.cellsOf 3)) = some y3 := hfs 3 _ rfl
    have h4 : DataW.trod enc Tryz.prog W 0 (fun _ => true) true n 4 ((L.drop 4).take (Tryz.prog.cellsOf 4)) = some y4 := hfs 4 _ rfl
    have h5 : DataW.trod enc Tryz.prog W 0 (fun _ => true) true n 32 ((L.drop 5).take (Tryz.prog.cellsOf 32)) = some y5 := hfs 5 _ rfl
    have h6 : DataW.trod enc Tryz.prog W 0 (fun _ => true) true n 3 ((L.drop 37).take (Tryz.prog.cellsOf 3)) = some y6 := hfs 6 _ rfl
    rw [ciS] at h0 h1 h2 h3 h6
    rw [cboS] at h4
    rw [cdS] at h5
    obtain ⟨a0, e0, x0, w0⟩ := DataW.trod_int uiS h0
    obtain ⟨a1, e1, x1, w1⟩ := DataW.trod_int uiS h1
    obtain ⟨a2, e2, x2, w2⟩ := DataW.trod_int uiS h2
    obtain ⟨a3, e3, x3, w3⟩ := DataW.trod_int uiS h3
    obtain ⟨b, e4, x4⟩ := DataW.trod_bool uboS h4
    obtain ⟨ds, e5, hdl, hdb⟩ := as_digit h5 (by rw [List.length_take, List.length_drop]; omega)
    obtain ⟨a6, e6, x6, w6⟩ := DataW.trod_int uiS h6
    refine ⟨⟨a0, a1, a2, a3, b, ds, a6⟩, ?_, ⟨hdl, hdb, bounds_i64 w0, bounds_i64 w1, bounds_i64 w2, bounds_i64 w3, bounds_i64 w6⟩, by
      rw [hx]
      simp only [List.map_cons, List.map_nil, Rows.uptoBulk, Rows.uptoBulkAll, x0, x1, x2, x3, x4, x6]
      omega⟩
    have d0 := cutS14 e0
    have d1 := cutS14 e1
    have d2 := cutS14 e2
    have d3 := cutS14 e3
    have d4 := cutS14 e4
    have d5 := cutS14 e5
    have d6 := cutS14 e6
    have dd : L.drop 38 = [] := List.drop_of_length_le (by omega)
    simp only [Nat.reduceAdd] at d0 d1 d2 d3 d4 d5 d6
    rw [← List.drop_zero (l := L), d0, d1, d2, d3, d4, d5, d6, dd]
    simp [As.cells, asC]

set_option maxRecDepth 100000 in
theorem ass_upto {H : Type} {enc : TypeId × Value → H} {W : World} {base : Nat} {v : Value} {d : DataW H} {p : List MemPlace}
    (hv : Value.okWide Tryz.prog W .any base 25 v) (h : DataW.Trod enc Tryz.prog W 0 (fun _ => true) true 25 v d p) (hm : Rows.uptoBulk d ≤ 1048576) :
    ∃ a len cap L, v = .slice a len cap ∧ Ass W a len cap L ∧ 6 * L.length ≤ Rows.uptoBulk d := by
  have hs : Tryz.prog.underlying 25 = some (.slice 34) := by kernel_rfl
  obtain ⟨a, len, cap, rfl⟩ := okWide_slice hs hv
  obtain ⟨fuel, hf⟩ := h
  rcases Deep.open_slice hs hf with ⟨hcs, hx⟩ | ⟨x, l, c, m, n, D, Pl, hcs, _, hl, hmx, hmm, hx, hel⟩
  · simp [Value.cells] at hcs
    obtain ⟨rfl, rfl, rfl⟩ := hcs
    exact ⟨none, 0, 0, [], rfl, ⟨rfl, Nat.le_refl _, by omega, fun i x hx => by simp at hx, fun i x hx => by simp at hx⟩, by simp⟩
  · simp [Value.cells] at hcs
    obtain ⟨rfl, rfl, rfl⟩ := hcs
    have hmc : m = cap := by simpa using hmm
    subst hmc
    simp only [Prod.mk.injEq] at hx
    have hb : Rows.uptoBulkAll ((List.range len).map D) + 1 ≤ Rows.uptoBulk d := by
      rw [hx.1]
      simp only [Rows.uptoBulk]
      omega
    have hsp : 0 < len → x.spot = none := fun h0 => by
      obtain ⟨cs', h1, _⟩ := hel 0 (by omega)
      rw [caS] at h1
      obtain ⟨_, hlen, hcell⟩ := World.cells?_some h1
      have := hcell 0 (by omega)
      rw [List.getElem?_eq_getElem (by omega)] at this
      simpa [Addr.add] using World.cell?_spot this
    have each : ∀ i, i < len → ∃ z : As, W.rangeAt x.block (x.off + i * 38) z.cells ∧ x.spot = none ∧ z.In ∧ 6 ≤ Rows.uptoBulk (D i) := by
      intro i hi
      obtain ⟨cs', h1, h2⟩ := hel i (by omega)
      rw [caS] at h1
      obtain ⟨_, hlen, hcell⟩ := World.cells?_some h1
      obtain ⟨z, hz, q1, q2⟩ := as_trod2 hlen h2
      have hbi := bulk_le D (List.range len) i (List.mem_range.2 hi)
      obtain ⟨b, off, spot⟩ := x
      have hs : spot = none := hsp (by omega)
      subst hs
      refine ⟨z, fun j v hv => ?_, rfl, q1, q2⟩
      have hj : j < 38 := by
        have := (List.getElem?_eq_some_iff.1 hv).1
        rw [← hz, hlen] at this
        exact this
      have := hcell j hj
      rw [hz, hv, Addr.add_lit, Addr.add_lit] at this
      exact this
    have hI : Inhabited As := ⟨⟨0, 0, 0, 0, false, [], 0⟩⟩
    obtain ⟨y, hy⟩ := Deep.choose_lt each
    have hL : ∀ i z, ((List.range len).map y)[i]? = some z → i < len ∧ z = y i := by
      intro i z hz
      rw [List.getElem?_map] at hz
      obtain ⟨j, hj, rfl⟩ := Option.map_eq_some_iff.1 hz
      have h3 := List.getElem?_eq_some_iff.1 hj
      obtain ⟨h4, h5⟩ := h3
      simp at h4 h5
      exact ⟨h4, by rw [h5]⟩
    have hsum : 6 * len ≤ Rows.uptoBulkAll ((List.range len).map D) := by
      have := bulk_each D (fun _ => 6) (List.range len) (fun i hi => (hy i (List.mem_range.1 hi)).2.2.2)
      have e : ((List.range len).map fun _ => 6).sum = 6 * len := by
        rw [List.map_const', List.sum_replicate_nat, List.length_range, Nat.mul_comm]
      omega
    refine ⟨some x, len, m, (List.range len).map y, rfl, ⟨by simp, hl, by unfold maxLen at hmx; omega, fun i z hz => ?_, fun i z hz => ?_⟩, by simp; omega⟩
    · obtain ⟨h1, rfl⟩ := hL i z hz
      exact (hy i h1).2.2.1
    · obtain ⟨h1, rfl⟩ := hL i z hz
      refine ⟨x.block, x.off, ?_, (hy i h1).1⟩
      have := (hy i h1).2.1
      obtain ⟨b, off, spot⟩ := x
      subst this
      rfl


end Go.Proofs.YtlgcjdgcgnlcaaaGreatDoor
