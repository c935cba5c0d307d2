/-
  Texts one behind the other: Jaj FrAj Jwd FrWd Jfba Jfcr Jfrd Jffr Jfrr Jfsp Jfow Jfra Jfit Jfi2.
-/
import Derived.Test.YtninkkdbcgadpaaGreatDoorMe
import Derived.Test.YtninkkdbcgadpaaGreatDoorNw
import Derived.Test.YtninkkdbcgadpaaGreatDoorKac
import Derived.Test.YtninkkdbcgadpaaGreatDoorFr
import Derived.Deep.Strs
import Derived.Deep.RegionLaw
import Derived.Test.YtninkkdbcgadpaaGreatDoorJfcn
import Derived.Laws.Cover3
import Derived.Test.YtninkkdbcgadpaaGreatDoorBu
import Derived.Great.BuildSlice
import Derived.Deep.AppendLies
import Derived.Test.YtninkkdbcgadpaaGreatDoorFrg
import Derived.Test.YtninkkdbcgadpaaGreatDoorKmb

/-
  Acts in memory: a call of a journal.
-/
namespace Go.Proofs.YtninkkdbcgadpaaGreatDoor
open Go.RowKit
set_option linter.unusedVariables false

/-- An act. -/
structure Aj where
  cl : Bool
  k : Int
  a : Option Addr
  l : Nat
  c : Nat
  xs : List Int
def Aj.cells (x : Aj) : List Value := [.bool x.cl, .int .i64 x.k, .slice x.a x.l x.c]
theorem Aj.one (x : Aj) : One x.cells := by
  intro v hv
  simp [Aj.cells] at hv
  rcases hv with rfl | rfl | rfl <;> rfl
/-- How much an act weighs. -/
def Aj.bulk (x : Aj) : Nat := x.xs.length + 4
def jbulk (L : List Aj) : Nat := (L.map Aj.bulk).sum
/-- Numbers that the machine has; its bytes lie in memory. -/
structure Aj.In (w : World) (x : Aj) : Prop where
  sl : Sl w x.a x.l x.c x.xs
  k : -9223372036854775808 ≤ x.k ∧ x.k ≤ 9223372036854775807
theorem Aj.In.below {w w' : World} {x : Aj} (h : x.In w) (hb : Below w.heap.size w w') : x.In w' := ⟨h.sl.below hb, h.k⟩
/-- A slice of acts. -/
structure Ajs (w : World) (a : Option Addr) (len cap : Nat) (L : List Aj) : Prop where
  hlen : L.length = len
  hcap : len ≤ cap
  hmax : cap ≤ 9223372036854775807
  hsum : jbulk L ≤ 1048576
  hin : ∀ (i : Nat) x, L[i]? = some x → x.In w
  hcell : ∀ (i : Nat) x, L[i]? = some x → ∃ b off, a = some ⟨b, off, none⟩ ∧ w.rangeAt b (off + i * 3) x.cells
theorem Ajs.below {w w' : World} {a : Option Addr} {len cap : Nat} {L : List Aj} (h : Ajs w a len cap L) (hb : Below w.heap.size w w') : Ajs w' a len cap L :=
  ⟨h.hlen, h.hcap, h.hmax, h.hsum, fun i x hx => (h.hin i x hx).below hb, fun i x hx => by
    obtain ⟨b, off, e, hr⟩ := h.hcell i x hx
    exact ⟨b, off, e, rangeAt_below hr hb⟩⟩
theorem jbulk_app (L M : List Aj) : jbulk (L ++ M) = jbulk L + jbulk M := by simp [jbulk]
theorem jbulk_take (L : List Aj) : ∀ k, jbulk (L.take k) ≤ jbulk L := fun k => by
  have h := jbulk_app (L.take k) (L.drop k)
  rw [List.take_append_drop] at h
  omega
theorem jbulk_succ (L : List Aj) (k : Nat) (x : Aj) (h : L[k]? = some x) : jbulk (L.take (k + 1)) = jbulk (L.take k) + x.bulk := by
  obtain ⟨hk, rfl⟩ := List.getElem?_eq_some_iff.1 h
  rw [List.take_succ_eq_append_getElem hk, jbulk_app]
  simp [jbulk]
theorem len_jbulk (L : List Aj) : 4 * L.length ≤ jbulk L := by
  induction L with
  | nil => simp
  | cons x r ih => simp [jbulk, Aj.bulk] at ih ⊢; omega

end Go.Proofs.YtninkkdbcgadpaaGreatDoor

/-
  From how an argument is read as data to what the walks are told of it: an act, a slice of acts.
-/
namespace Go.Proofs.YtninkkdbcgadpaaGreatDoor
open Go.ChangeShapes Go.WideShapes Go.ChangeAt Go.RowKit
set_option linter.unusedVariables false

theorem ciA : Tryz.prog.cellsOf 3 = 1 := by kernel_rfl
theorem cbA : Tryz.prog.cellsOf 39 = 1 := by kernel_rfl
theorem caA : Tryz.prog.cellsOf 41 = 3 := by kernel_rfl
theorem cboA : Tryz.prog.cellsOf 4 = 1 := by kernel_rfl
theorem uboA : Tryz.prog.underlying 4 = some .bool := by kernel_rfl
theorem uiA : Tryz.prog.underlying 3 = some (.int .i64) := by kernel_rfl
theorem cutA {L x : List Value} {k n : Nat} (h : (L.drop k).take n = x) : L.drop k = x ++ L.drop (k + n) := by
  rw [← h, ← List.drop_drop, List.take_append_drop]

set_option maxRecDepth 100000 in
theorem slA_trod {H : Type} {enc : TypeId × Value → H} {W : World} {fuel : Nat} {cs : List Value} {x : DataW H × List MemPlace}
    (hf : DataW.trod enc Tryz.prog W 0 (fun _ => true) true fuel 39 cs = some x) :
    ∃ a len cap xs, cs = [.slice a len cap] ∧ xs.length = len ∧ (Rows.uptoBulk x.1 ≤ 1048576 → Sl W a len cap xs ∧ len + 1 ≤ Rows.uptoBulk x.1) := by
  rcases open_ints undBs undB (by kernel_rfl) hf with ⟨hcs, hx⟩ | ⟨x', l, c, zs, hcs, _, hl, hm, hz, hx, hcell, hwz⟩
  · refine ⟨none, 0, 0, [], hcs, rfl, fun _ => ⟨⟨rfl, Nat.le_refl _, by omega, by omega, (fun x hx => by simp at hx), fun _ => ⟨rfl, rfl⟩, fun h => absurd h (Nat.lt_irrefl 0)⟩, ?_⟩⟩
    rw [hx]
    simp [Rows.uptoBulk]
  · simp only [if_true] at hz
    have hb : Rows.uptoBulk x.1 = c + 1 := by
      rw [hx]
      simp only [Rows.uptoBulk, bulk_ints, List.length_take, List.length_drop]
      omega
    refine ⟨some x', l, c, zs.take l, hcs, by simp; omega, fun hb2 => ⟨⟨by simp; omega, hl, by omega, by omega, fun y hy => bounds_u8 (hwz y (List.mem_of_mem_take hy)), (fun e => by cases e), fun h0 => ?_⟩, by omega⟩⟩
    obtain ⟨b, off, spot⟩ := x'
    have hs : spot = none := by simpa [Addr.add] using World.cell?_spot (hcell 0 (by omega))
    subst hs
    refine ⟨b, off, rfl, fun i hi => ?_⟩
    have e := hcell i (by omega)
    rw [Addr.add_lit] at e
    rw [e]
    simp [List.getD, hi]

set_option maxRecDepth 100000 in
set_option maxHeartbeats 1000000 in
theorem aj_trod {H : Type} {enc : TypeId × Value → H} {W : World} {fuel : Nat} {L : List Value} {x : DataW H × List MemPlace} (hL : L.length = 3)
    (hf : DataW.trod enc Tryz.prog W 0 (fun _ => true) true fuel 41 L = some x) :
    ∃ z : Aj, L = z.cells ∧ (Rows.uptoBulk x.1 ≤ 1048576 → z.In W ∧ z.bulk ≤ Rows.uptoBulk x.1) := by
  have hu := Tryz.underlying41
  obtain ⟨xs, n, _, hx, _, hxl, hfs⟩ := DataW.trod_struct hu hf
  match xs, hxl with
  | [y0, y1, y2], _ =>
    have h0 : DataW.trod enc Tryz.prog W 0 (fun _ => true) true n 4 ((L.drop 0).take (Tryz.prog.cellsOf 4)) = some y0 := hfs 0 _ rfl
    have h1 : DataW.trod enc Tryz.prog W 0 (fun _ => true) true n 3 ((L.drop 1).take (Tryz.prog.cellsOf 3)) = some y1 := hfs 1 _ rfl
    have h2 : DataW.trod enc Tryz.prog W 0 (fun _ => true) true n 39 ((L.drop 2).take (Tryz.prog.cellsOf 39)) = some y2 := hfs 2 _ rfl
    rw [cboA] at h0
    rw [ciA] at h1
    rw [cbA] at h2
    obtain ⟨b, e0, x0⟩ := DataW.trod_bool uboA h0
    obtain ⟨k, e1, x1, w1⟩ := DataW.trod_int uiA h1
    obtain ⟨a, l, c, zs, e2, hzl, s2⟩ := slA_trod h2
    have hb : Rows.uptoBulk x.1 = 1 + 1 + Rows.uptoBulk y2.1 + 1 := by
      rw [hx]
      simp only [List.map_cons, List.map_nil, Rows.uptoBulk, Rows.uptoBulkAll, x0, x1]
      omega
    refine ⟨⟨b, k, a, l, c, zs⟩, ?_, fun hm => ?_⟩
    · have d0 := cutA e0
      have d1 := cutA e1
      have d2 := cutA e2
      have dd : L.drop 3 = [] := List.drop_of_length_le (by omega)
      simp only [Nat.reduceAdd] at d0 d1 d2
      rw [← List.drop_zero (l := L), d0, d1, d2, dd]
      rfl
    · obtain ⟨t1, t2⟩ := s2 (by omega)
      exact ⟨⟨t1, bounds_i64 w1⟩, by simp only [Aj.bulk, hzl]; omega⟩

theorem bulk_each {H : Type} (D : Nat → DataW H) (f : Nat → Nat) : ∀ l : List Nat, (∀ i ∈ l, f i ≤ Rows.uptoBulk (D i)) → (l.map f).sum ≤ Rows.uptoBulkAll (l.map D)
  | [], _ => by simp [Rows.uptoBulkAll]
  | i :: r, h => by
    have h1 := h i (by simp)
    have h2 := bulk_each D f r (fun j hj => h j (by simp [hj]))
    simp only [List.map_cons, List.sum_cons, Rows.uptoBulkAll]
    omega
theorem bulk_le {H : Type} (D : Nat → DataW H) : ∀ l : List Nat, ∀ i ∈ l, Rows.uptoBulk (D i) ≤ Rows.uptoBulkAll (l.map D)
  | [], i, h => by cases h
  | j :: r, i, h => by
    simp only [List.map_cons, Rows.uptoBulkAll]
    rcases List.mem_cons.1 h with rfl | h
    · omega
    · have := bulk_le D r i h
      omega

set_option maxRecDepth 100000 in
theorem ajs_upto {H : Type} {enc : TypeId × Value → H} {W : World} {base : Nat} {v : Value} {d : DataW H} {p : List MemPlace}
    (hv : Value.okWide Tryz.prog W .any base 25 v) (h : DataW.Trod enc Tryz.prog W 0 (fun _ => true) true 25 v d p) (hm : Rows.uptoBulk d ≤ 1048576) :
    ∃ a len cap L, v = .slice a len cap ∧ Ajs W a len cap L ∧ jbulk L ≤ Rows.uptoBulk d := by
  have hs : Tryz.prog.underlying 25 = some (.slice 41) := by kernel_rfl
  obtain ⟨a, len, cap, rfl⟩ := okWide_slice hs hv
  obtain ⟨fuel, hf⟩ := h
  rcases Deep.open_slice hs hf with ⟨hcs, hx⟩ | ⟨x, l, c, m, n, D, Pl, hcs, _, hl, hmx, hmm, hx, hel⟩
  · simp [Value.cells] at hcs
    obtain ⟨rfl, rfl, rfl⟩ := hcs
    exact ⟨none, 0, 0, [], rfl, ⟨rfl, Nat.le_refl _, by omega, by simp [jbulk], fun i x hx => by simp at hx, fun i x hx => by simp at hx⟩, by simp [jbulk]⟩
  · simp [Value.cells] at hcs
    obtain ⟨rfl, rfl, rfl⟩ := hcs
    have hmc : m = cap := by simpa using hmm
    subst hmc
    simp only [Prod.mk.injEq] at hx
    have hb : Rows.uptoBulkAll ((List.range len).map D) + 1 ≤ Rows.uptoBulk d := by
      rw [hx.1]
      simp only [Rows.uptoBulk]
      omega
    have hsp : 0 < len → x.spot = none := fun h0 => by
      obtain ⟨cs', h1, _⟩ := hel 0 (by omega)
      rw [caA] at h1
      obtain ⟨_, hlen, hcell⟩ := World.cells?_some h1
      have := hcell 0 (by omega)
      rw [List.getElem?_eq_getElem (by omega)] at this
      simpa [Addr.add] using World.cell?_spot this
    have each : ∀ i, i < len → ∃ z : Aj, W.rangeAt x.block (x.off + i * 3) z.cells ∧ x.spot = none ∧ z.In W ∧ z.bulk ≤ Rows.uptoBulk (D i) := by
      intro i hi
      obtain ⟨cs', h1, h2⟩ := hel i (by omega)
      rw [caA] at h1
      obtain ⟨_, hlen, hcell⟩ := World.cells?_some h1
      obtain ⟨z, hz, hq⟩ := aj_trod hlen h2
      have hbi := bulk_le D (List.range len) i (List.mem_range.2 hi)
      obtain ⟨q1, q2⟩ := hq (by show Rows.uptoBulk (D i) ≤ 1048576; omega)
      obtain ⟨b, off, spot⟩ := x
      have hs : spot = none := hsp (by omega)
      subst hs
      refine ⟨z, fun j v hv => ?_, rfl, q1, q2⟩
      have hj : j < 3 := by
        have := (List.getElem?_eq_some_iff.1 hv).1
        rw [← hz, hlen] at this
        exact this
      have := hcell j hj
      rw [hz, hv, Addr.add_lit, Addr.add_lit] at this
      exact this
    have hI : Inhabited Aj := ⟨⟨false, 0, none, 0, 0, []⟩⟩
    obtain ⟨y, hy⟩ := Deep.choose_lt each
    have hL : ∀ i z, ((List.range len).map y)[i]? = some z → i < len ∧ z = y i := by
      intro i z hz
      rw [List.getElem?_map] at hz
      obtain ⟨j, hj, rfl⟩ := Option.map_eq_some_iff.1 hz
      have h3 := List.getElem?_eq_some_iff.1 hj
      obtain ⟨h4, h5⟩ := h3
      simp at h4 h5
      exact ⟨h4, by rw [h5]⟩
    have hsum : jbulk ((List.range len).map y) ≤ Rows.uptoBulkAll ((List.range len).map D) := by
      unfold jbulk
      rw [List.map_map]
      exact bulk_each D _ _ (fun i hi => (hy i (List.mem_range.1 hi)).2.2.2)
    refine ⟨some x, len, m, (List.range len).map y, rfl, ⟨by simp, hl, by unfold maxLen at hmx; omega, by omega, fun i z hz => ?_, fun i z hz => ?_⟩, by omega⟩
    · obtain ⟨h1, rfl⟩ := hL i z hz
      exact (hy i h1).2.2.1
    · obtain ⟨h1, rfl⟩ := hL i z hz
      refine ⟨x.block, x.off, ?_, (hy i h1).1⟩
      have := (hy i h1).2.1
      obtain ⟨b, off, spot⟩ := x
      subst this
      rfl

end Go.Proofs.YtninkkdbcgadpaaGreatDoor

/-
  A world in memory: a slice of files.
-/
namespace Go.Proofs.YtninkkdbcgadpaaGreatDoor
open Go.RowKit
set_option linter.unusedVariables false

/-- A file. -/
structure Fw where
  n : ByteArray
  a : Option Addr
  l : Nat
  c : Nat
  xs : List Int
def fwC (n : ByteArray) (v : Value) : List Value := [.string n, v]
def Fw.cells (x : Fw) : List Value := fwC x.n (.slice x.a x.l x.c)
theorem Fw.one (x : Fw) : One x.cells := by
  intro v hv
  simp [Fw.cells, fwC] at hv
  rcases hv with rfl | rfl <;> rfl
/-- How much a file weighs. -/
def Fw.bulk (x : Fw) : Nat := x.xs.length + 3
def fbulk (L : List Fw) : Nat := (L.map Fw.bulk).sum
/-- A slice of files. -/
structure Fws (w : World) (a : Option Addr) (len cap : Nat) (L : List Fw) : Prop where
  hlen : L.length = len
  hcap : len ≤ cap
  hmax : cap ≤ 9223372036854775807
  hsum : fbulk L ≤ 1048576
  hin : ∀ (i : Nat) x, L[i]? = some x → Sl w x.a x.l x.c x.xs
  hcell : ∀ (i : Nat) x, L[i]? = some x → ∃ b off, a = some ⟨b, off, none⟩ ∧ w.rangeAt b (off + i * 2) x.cells
theorem Fws.below {w w' : World} {a : Option Addr} {len cap : Nat} {L : List Fw} (h : Fws w a len cap L) (hb : Below w.heap.size w w') : Fws w' a len cap L :=
  ⟨h.hlen, h.hcap, h.hmax, h.hsum, fun i x hx => (h.hin i x hx).below hb, fun i x hx => by
    obtain ⟨b, off, e, hr⟩ := h.hcell i x hx
    exact ⟨b, off, e, rangeAt_below hr hb⟩⟩
theorem fbulk_app (L M : List Fw) : fbulk (L ++ M) = fbulk L + fbulk M := by simp [fbulk]
theorem fbulk_take (L : List Fw) : ∀ k, fbulk (L.take k) ≤ fbulk L := fun k => by
  have h := fbulk_app (L.take k) (L.drop k)
  rw [List.take_append_drop] at h
  omega
theorem fbulk_succ (L : List Fw) (k : Nat) (x : Fw) (h : L[k]? = some x) : fbulk (L.take (k + 1)) = fbulk (L.take k) + x.bulk := by
  obtain ⟨hk, rfl⟩ := List.getElem?_eq_some_iff.1 h
  rw [List.take_succ_eq_append_getElem hk, fbulk_app]
  simp [fbulk]
theorem len_fbulk (L : List Fw) : 3 * L.length ≤ fbulk L := by
  induction L with
  | nil => simp
  | cons x r ih => simp [fbulk, Fw.bulk] at ih ⊢; omega

end Go.Proofs.YtninkkdbcgadpaaGreatDoor

/-
  From how an argument is read as data to what the walks are told of it: a world.
-/
namespace Go.Proofs.YtninkkdbcgadpaaGreatDoor
open Go.ChangeShapes Go.WideShapes Go.ChangeAt Go.RowKit
set_option linter.unusedVariables false

theorem csW : Tryz.prog.cellsOf 9 = 1 := by kernel_rfl
theorem cfW : Tryz.prog.cellsOf 72 = 2 := by kernel_rfl
theorem cfsW : Tryz.prog.cellsOf 22 = 1 := by kernel_rfl
theorem cwW : Tryz.prog.cellsOf 24 = 2 := by kernel_rfl
theorem usW : Tryz.prog.underlying 9 = some .string := by kernel_rfl

set_option maxRecDepth 100000 in
set_option maxHeartbeats 1000000 in
theorem fw_trod {H : Type} {enc : TypeId × Value → H} {W : World} {fuel : Nat} {L : List Value} {x : DataW H × List MemPlace} (hL : L.length = 2)
    (hf : DataW.trod enc Tryz.prog W 0 (fun _ => true) true fuel 72 L = some x) :
    ∃ z : Fw, L = z.cells ∧ (Rows.uptoBulk x.1 ≤ 1048576 → Sl W z.a z.l z.c z.xs ∧ z.bulk ≤ Rows.uptoBulk x.1) := by
  have hu := Tryz.underlying72
  obtain ⟨xs, n, _, hx, _, hxl, hfs⟩ := DataW.trod_struct hu hf
  match xs, hxl with
  | [y0, y1], _ =>
    have h0 : DataW.trod enc Tryz.prog W 0 (fun _ => true) true n 9 ((L.drop 0).take (Tryz.prog.cellsOf 9)) = some y0 := hfs 0 _ rfl
    have h1 : DataW.trod enc Tryz.prog W 0 (fun _ => true) true n 39 ((L.drop 1).take (Tryz.prog.cellsOf 39)) = some y1 := hfs 1 _ rfl
    rw [csW] at h0
    rw [cbA] at h1
    obtain ⟨s1, e0, x0, _⟩ := DataW.trod_string usW h0
    obtain ⟨a, l, c, zs, e1, hzl, s2⟩ := slA_trod h1
    have hb : Rows.uptoBulk x.1 = (s1.size + 1) + Rows.uptoBulk y1.1 + 1 := by
      rw [hx]
      simp only [List.map_cons, List.map_nil, Rows.uptoBulk, Rows.uptoBulkAll, x0, Array.length_toList]
      have t1 : s1.data.size = s1.size := rfl
      omega
    refine ⟨⟨s1, a, l, c, zs⟩, ?_, fun hm => ?_⟩
    · have d0 := cutA e0
      have d1 := cutA e1
      have dd : L.drop 2 = [] := List.drop_of_length_le (by omega)
      simp only [Nat.reduceAdd] at d0 d1
      rw [← List.drop_zero (l := L), d0, d1, dd]
      rfl
    · obtain ⟨t1, t2⟩ := s2 (by omega)
      exact ⟨t1, by simp only [Fw.bulk, hzl]; omega⟩

set_option maxRecDepth 100000 in
theorem fws_trod {H : Type} {enc : TypeId × Value → H} {W : World} {fuel : Nat} {cs : List Value} {y : DataW H × List MemPlace}
    (hf : DataW.trod enc Tryz.prog W 0 (fun _ => true) true fuel 22 cs = some y) (hm : Rows.uptoBulk y.1 ≤ 1048576) :
    ∃ a len cap L, cs = [.slice a len cap] ∧ Fws W a len cap L ∧ fbulk L + 1 ≤ Rows.uptoBulk y.1 := by
  have hs : Tryz.prog.underlying 22 = some (.slice 72) := by kernel_rfl
  rcases Deep.open_slice hs hf with ⟨hcs, hx⟩ | ⟨x, len, cap, m, n, D, Pl, hcs, _, hl, hmx, hmm, hx, hel⟩
  · refine ⟨none, 0, 0, [], hcs, ⟨rfl, Nat.le_refl _, by omega, by simp [fbulk], fun i x hx => by simp at hx, fun i x hx => by simp at hx⟩, ?_⟩
    rw [hx]
    simp [fbulk, Rows.uptoBulk]
  · have hmc : m = cap := by simpa using hmm
    subst hmc
    have hb : Rows.uptoBulkAll ((List.range len).map D) + 1 ≤ Rows.uptoBulk y.1 := by
      rw [hx]
      simp only [Rows.uptoBulk]
      omega
    have hsp : 0 < len → x.spot = none := fun h0 => by
      obtain ⟨cs', h1, _⟩ := hel 0 (by omega)
      rw [cfW] at h1
      obtain ⟨_, hlen, hcell⟩ := World.cells?_some h1
      have := hcell 0 (by omega)
      rw [List.getElem?_eq_getElem (by omega)] at this
      simpa [Addr.add] using World.cell?_spot this
    have each : ∀ i, i < len → ∃ z : Fw, W.rangeAt x.block (x.off + i * 2) z.cells ∧ x.spot = none ∧ Sl W z.a z.l z.c z.xs ∧ z.bulk ≤ Rows.uptoBulk (D i) := by
      intro i hi
      obtain ⟨cs', h1, h2⟩ := hel i (by omega)
      rw [cfW] at h1
      obtain ⟨_, hlen, hcell⟩ := World.cells?_some h1
      obtain ⟨z, hz, hq⟩ := fw_trod hlen h2
      have hbi := bulk_le D (List.range len) i (List.mem_range.2 hi)
      obtain ⟨q1, q2⟩ := hq (by show Rows.uptoBulk (D i) ≤ 1048576; omega)
      obtain ⟨b, off, spot⟩ := x
      have hs : spot = none := hsp (by omega)
      subst hs
      refine ⟨z, fun j v hv => ?_, rfl, q1, q2⟩
      have hj : j < 2 := by
        have := (List.getElem?_eq_some_iff.1 hv).1
        rw [← hz, hlen] at this
        exact this
      have := hcell j hj
      rw [hz, hv, Addr.add_lit, Addr.add_lit] at this
      exact this
    have hI : Inhabited Fw := ⟨⟨ByteArray.empty, none, 0, 0, []⟩⟩
    obtain ⟨y', hy⟩ := Deep.choose_lt each
    have hL : ∀ i z, ((List.range len).map y')[i]? = some z → i < len ∧ z = y' i := by
      intro i z hz
      rw [List.getElem?_map] at hz
      obtain ⟨j, hj, rfl⟩ := Option.map_eq_some_iff.1 hz
      have h3 := List.getElem?_eq_some_iff.1 hj
      obtain ⟨h4, h5⟩ := h3
      simp at h4 h5
      exact ⟨h4, by rw [h5]⟩
    have hsum : fbulk ((List.range len).map y') ≤ Rows.uptoBulkAll ((List.range len).map D) := by
      unfold fbulk
      rw [List.map_map]
      exact bulk_each D _ _ (fun i hi => (hy i (List.mem_range.1 hi)).2.2.2)
    refine ⟨some x, len, m, (List.range len).map y', hcs, ⟨by simp, hl, by unfold maxLen at hmx; omega, by omega, fun i z hz => ?_, fun i z hz => ?_⟩, by omega⟩
    · obtain ⟨h1, rfl⟩ := hL i z hz
      exact (hy i h1).2.2.1
    · obtain ⟨h1, rfl⟩ := hL i z hz
      refine ⟨x.block, x.off, ?_, (hy i h1).1⟩
      have := (hy i h1).2.1
      obtain ⟨b, off, spot⟩ := x
      subst this
      rfl

set_option maxRecDepth 100000 in
theorem wld_upto {H : Type} {enc : TypeId × Value → H} {W : World} {base : Nat} {v : Value} {d : DataW H} {p : List MemPlace}
    (hv : Value.okWide Tryz.prog W .any base 24 v) (h : DataW.Trod enc Tryz.prog W 0 (fun _ => true) true 24 v d p) (hm : Rows.uptoBulk d ≤ 1048576) :
    ∃ (k : Int) (a : Option Addr) (len cap : Nat) (L : List Fw), v = .agg #[.int .i64 k, .slice a len cap] ∧ (-9223372036854775808 ≤ k ∧ k ≤ 9223372036854775807) ∧ Fws W a len cap L ∧ fbulk L ≤ Rows.uptoBulk d := by
  have hu := Tryz.underlying24
  obtain ⟨cs, rfl, hsz2⟩ := okWide_struct hu hv
  obtain ⟨L⟩ := cs
  have hL : L.length = 2 := by
    rw [cwW] at hsz2
    simpa using hsz2
  obtain ⟨fuel, hf⟩ := h
  obtain ⟨xs, n, _, hx, _, hxl, hfs⟩ := DataW.trod_struct hu hf
  match xs, hxl with
  | [y0, y1], _ =>
    have h0 : DataW.trod enc Tryz.prog W 0 (fun _ => true) true n 3 ((L.drop 0).take (Tryz.prog.cellsOf 3)) = some y0 := hfs 0 _ rfl
    have h1 : DataW.trod enc Tryz.prog W 0 (fun _ => true) true n 22 ((L.drop 1).take (Tryz.prog.cellsOf 22)) = some y1 := hfs 1 _ rfl
    rw [ciA] at h0
    rw [cfsW] at h1
    obtain ⟨k, e0, x0, w0⟩ := DataW.trod_int uiA h0
    have hb : Rows.uptoBulk d = 1 + Rows.uptoBulk y1.1 + 1 := by
      have hx' : d = .agg ([y0, y1].map (·.1)) := congrArg Prod.fst hx
      rw [hx']
      simp only [List.map_cons, List.map_nil, Rows.uptoBulk, Rows.uptoBulkAll, x0]
      omega
    obtain ⟨a, l, c, zs, e1, s1, s2⟩ := fws_trod h1 (by omega)
    refine ⟨k, a, l, c, zs, ?_, bounds_i64 w0, s1, by omega⟩
    have d0 := cutA e0
    have d1 := cutA e1
    have dd : L.drop 2 = [] := List.drop_of_length_le (by omega)
    simp only [Nat.reduceAdd] at d0 d1
    have : L = [.int .i64 k, .slice a l c] := by
      rw [← List.drop_zero (l := L), d0, d1, dd]
      rfl
    rw [this]

end Go.Proofs.YtninkkdbcgadpaaGreatDoor

/-
  Laws on slices of bytes for the seats of frame; octet's and the document's numbers, put and read; spoil and names of the law.
-/
namespace Go.Proofs.YtninkkdbcgadpaaGreatDoor
open Go.RowKit
set_option linter.unusedVariables false
set_option maxRecDepth 100000

theorem sizeBF (w : World) : (sizeOf 5).run Tryz.prog w = .ok 1 w := by kernel_rfl
theorem und22F : Tryz.prog.underlying 39 = some (.slice (Tryz.prog.elem 39)) := by kernel_rfl
theorem elem22F : Tryz.prog.elem 39 = 5 := by kernel_rfl
/-- b[k:] -/
theorem slice_from {w : World} {a : Option Addr} {len cap : Nat} {xs : List Int} (h : Sl w a len cap xs) (k : Nat) (K : Int) (hK : K = (k : Int)) (hk : k ≤ len) :
    ∃ a', (∀ v : World, (Instr.slice 39 (.slice a len cap) (some (.int .i64 K)) none none).run Tryz.prog v = .ok (.slice a' (len - k) (cap - k)) v) ∧ Sl w a' (len - k) (cap - k) (xs.drop k) ∧ (∀ g, (0 < len → Apart g a) → 0 < len - k → Apart g a') := by
  subst hK
  have hrun : ∀ v : World, (Instr.slice 39 (.slice a len cap) (some (.int .i64 k)) none none).run Tryz.prog v = .ok (sliced a k len cap 1) v := fun v => by
    rw [run_slice_l v _ _ _ _ und22F .i64 k (by omega) (by omega), elem22F, sizeBF]
    simp
  obtain ⟨h1, h2, h3, h4, h5, h6, h7⟩ := h
  by_cases hc : k < cap
  · cases a with
    | none => have := h6 rfl; omega
    | some ad =>
      have es : sliced (some ad) k len cap 1 = .slice (some (ad.add k)) (len - k) (cap - k) := by
        simp only [sliced, Nat.mul_one]
        have : ¬ (cap = k) := by omega
        simp [this]
      refine ⟨some (ad.add k), fun v => by rw [hrun v, es], ?_, ?_⟩
      · refine ⟨by simp [h1], by omega, by omega, by omega, h5.drop k, (fun e => by cases e), fun h0 => ?_⟩
        obtain ⟨b, o, e, hce⟩ := h7 (by omega)
        cases e
        refine ⟨b, o + k, by rw [Addr.add_lit], fun i hi => ?_⟩
        rw [show o + k + i = o + (k + i) by omega, hce (k + i) (by omega)]
        simp [List.getD, List.getElem?_drop]
      · intro g ha h0 x hx
        cases hx
        have := ha (by omega) ad rfl
        unfold Addr.add
        split <;> exact this
  · obtain rfl : k = cap := by omega
    obtain rfl : len = k := by omega
    have es : sliced a len len len 1 = .slice a (len - len) (len - len) := by
      cases a <;> simp [sliced]
    refine ⟨a, fun v => by rw [hrun v, es], ?_, ?_⟩
    · rw [Nat.sub_self]
      exact ⟨by simp [h1], Nat.le_refl _, by omega, by omega, h5.drop _, fun _ => ⟨rfl, rfl⟩, fun h => absurd h (by omega)⟩
    · intro g _ h0
      omega
/-- Another world: of what was there only block g has turned. -/
structure Chg (g : Nat) (w w' : World) : Prop where
  os : w'.os = w.os
  tape : w'.tape = w.tape
  output : w'.output = w.output
  size : w.heap.size ≤ w'.heap.size
  block : ∀ k, k < w.heap.size → k ≠ g → w'.heap[k]? = w.heap[k]?
theorem Chg.refl (g : Nat) (w : World) : Chg g w w := ⟨rfl, rfl, rfl, Nat.le_refl _, fun _ _ _ => rfl⟩
theorem Chg.trans {g : Nat} {a b c : World} (h : Chg g a b) (k : Chg g b c) : Chg g a c :=
  ⟨k.os.trans h.os, k.tape.trans h.tape, k.output.trans h.output, Nat.le_trans h.size k.size, fun i hi hg => (k.block i (Nat.lt_of_lt_of_le hi h.size) hg).trans (h.block i hi hg)⟩
theorem Chg.of_but {g : Nat} {w w' : World} (h : But g w w') : Chg g w w' := ⟨h.os, h.tape, h.output, Nat.le_of_eq h.size.symm, fun k _ hk => h.block k hk⟩
theorem Chg.of_below {g : Nat} {w w' : World} (h : Below w.heap.size w w') : Chg g w w' := ⟨h.os, h.tape, h.output, h.size, fun k hk _ => h.block k hk⟩
theorem Chg.below {g B : Nat} {w w' : World} (h : Chg g w w') (hg : B ≤ g) (hB : B ≤ w.heap.size) : Below B w w' := ⟨h.os, h.tape, h.output, h.size, fun k hk => h.block k (by omega) (by omega)⟩
theorem Blk.chg {g k : Nat} {w w' : World} {t : TypeId} {cs : List Value} (h : Blk w k t cs) (hc : Chg g w w') (hk : k ≠ g) : Blk w' k t cs := by
  unfold Blk; rw [hc.block k h.lt hk]; exact h
theorem Sl.chg {g : Nat} {w w' : World} {a : Option Addr} {len cap : Nat} {xs : List Int} (h : Sl w a len cap xs) (hc : Chg g w w') (hk : 0 < len → Apart g a) : Sl w' a len cap xs := by
  obtain ⟨h1, h2, h3, h4, h5, h6, h7⟩ := h
  refine ⟨h1, h2, h3, h4, h5, h6, fun h => ?_⟩
  obtain ⟨b, off, e, hce⟩ := h7 h
  refine ⟨b, off, e, fun i hi => ?_⟩
  rw [World.cell?_of_block (w := w) (hc.block b (World.block_lt_of_cell? w _ (hce i hi)) (hk h ⟨b, off, none⟩ e))]
  exact hce i hi
/-- How long a slice is. -/
def lenOf : Value → Nat
  | .slice _ n _ => n
  | _ => 0
theorem chg_drew (g : Nat) (w : World) : Chg g w w.drew := ⟨rfl, rfl, rfl, Nat.le_refl _, fun _ _ _ => rfl⟩
theorem sl_from (g n cap k : Nat) (K : Int) (hK : K = (k : Int)) (hk : k ≤ n) (hc : n ≤ cap) : ∃ a', (∀ v : World, (Instr.slice 39 (.slice (some ⟨g, 0, none⟩) n cap) (some (.int .i64 K)) none none).run Tryz.prog v = .ok (.slice a' (n - k) (cap - k)) v) ∧
    (∀ (w' : World) (z : List Int), Sl w' (some ⟨g, 0, none⟩) n cap z → Sl w' a' (n - k) (cap - k) (z.drop k)) ∧ ∀ x, a' = some x → x.block = g := by
  subst hK
  by_cases h : k < cap
  · refine ⟨some ⟨g, 0 + k, none⟩, fun v => ?_, fun w' z hs => hs.drop k hk, fun x hx => by cases hx; rfl⟩
    rw [run_slice_l v _ _ _ _ und22F .i64 k (by omega) (by omega), elem22F, sizeBF]
    have : ¬ cap = k := by omega
    simp [sliced, this, Addr.add_lit]
  · obtain rfl : k = cap := by omega
    obtain rfl : n = k := by omega
    refine ⟨some ⟨g, 0, none⟩, fun v => ?_, fun w' z hs => ⟨by rw [List.length_drop, hs.hlen], by omega, by omega, by omega, hs.hbyte.drop _, (fun e => by cases e), fun h0 => by omega⟩, fun x hx => by cases hx; rfl⟩
    rw [run_slice_l v _ _ _ _ und22F .i64 n (by omega) (by omega), elem22F, sizeBF]
    simp [sliced]
theorem sl_toF (g n cap k : Nat) (K : Int) (hK : K = (k : Int)) (hk : k ≤ cap) (v : World) :
    (Instr.slice 39 (.slice (some ⟨g, 0, none⟩) n cap) none (some (.int .i64 K)) none).run Tryz.prog v = .ok (.slice (some ⟨g, 0, none⟩) k cap) v := by
  subst hK
  rw [run_slice_h v _ _ _ _ und22F .i64 k (by omega) (by omega), elem22F, sizeBF]
  simp [sliced, Addr.add_lit]
section
variable {dst : Option Tmp} {ty : TypeId} {pos : String} {aft : Array Edge} {gd : Option (Nat × Bool)} {ops : Array Oper} {rest : List Oper} {a : Act} {w : World} {K : Act → World → Prop} {Q : Exit → Act → World → Prop}
set_option maxRecDepth 100000 in
theorem wp_boxG {T : TypeId} {x : Operand} {cs : List Value} (hx : a.eval x = .agg cs.toArray) (h : ∀ w1 g, Blk w1 g T cs → w.heap.size ≤ g → Below w.heap.size w w1 → K (a.put dst (.pointer (some ⟨g, 0, none⟩))) w1) :
    Oper.wp Tryz.prog ⟨dst, .box T x, ty, pos, aft, gd⟩ a w K Q :=
  wp_runV (.pointer (some ⟨w.heap.size, 0, none⟩)) (w.alloc (.cells cs.toArray T)) (by simp [execOp, hx, Instr.box, newVar, newRow, Result.andThen, Value.cells])
    (h _ _ (Blk.made _ _ _) (Nat.le_refl _) ((Below.refl _ _).alloc (Nat.le_refl _) _))
end
theorem spl_snoc (cs vs : List Value) (v : Value) (o : Nat) (h : o + vs.length < cs.length) : (spl cs vs o).set (o + vs.length) v = spl cs (vs ++ [v]) o := by
  unfold spl
  rw [List.set_append_right _ _ (by simp; omega)]
  have e : o + vs.length - (cs.take o ++ vs).length = 0 := by simp; omega
  rw [e, List.drop_eq_getElem_cons h]
  simp [Nat.add_assoc]
theorem spl_length (cs vs : List Value) (o : Nat) (h : o + vs.length ≤ cs.length) : (spl cs vs o).length = cs.length := by
  simp [spl]; omega
theorem u8s_take_succ (B : List Int) (k : Nat) (h : k < B.length) : u8s (B.take (k + 1)) = u8s (B.take k) ++ [.int .u8 (B.getD k 0)] := by
  rw [List.take_succ_eq_append_getElem h, u8s_app]
  congr 1
  simp [u8s, List.getD, h]
theorem Blk.sl0 {w : World} {g : Nat} {t : TypeId} {xs : List Int} (h : Blk w g t (u8s xs)) (hb : isB xs) (hl : xs.length ≤ 140737488355328) : Sl w (some ⟨g, 0, none⟩) xs.length xs.length xs :=
  h.sl 0 xs.length xs (by rw [List.drop_zero, List.take_of_length_le (by rw [u8s_length]; exact Nat.le_refl _)]) hb hl (Nat.le_refl _) (by omega)
theorem Own.of_blkF {w : World} {g B : Nat} {xs : List Int} (h : Blk w g 5 (u8s xs)) (hB : B ≤ g) (hl : xs.length ≤ 9223372036854775807) : Own w B (.slice (some ⟨g, 0, none⟩) xs.length xs.length) xs :=
  ⟨by simp [u8s_length], .inr ⟨g, xs.length, (u8s xs).toArray, rfl, hB, h, Nat.le_refl _, by unfold maxLen; omega, by simp [u8s_length], by rw [Nat.mul_one]; exact List.take_of_length_le (by simp [u8s_length])⟩⟩
theorem spl_all (B : List Int) (n : Nat) (h : B.length = n) : spl (u8s (zer n)) (u8s B) 0 = u8s B := by
  unfold spl
  rw [List.drop_of_length_le (by rw [u8s_length, u8s_length, zer_length, h]; omega)]
  simp
theorem spl_next (B : List Int) (n k : Nat) (h : B.length = n) (hk : k < n) : (spl (u8s (zer n)) (u8s (B.take k)) 0).set k (.int .u8 (B.getD k 0)) = spl (u8s (zer n)) (u8s (B.take (k + 1))) 0 := by
  have hl : (B.take k).length = k := by rw [List.length_take]; omega
  have e2 := spl_snoc (u8s (zer n)) (u8s (B.take k)) (.int .u8 (B.getD k 0)) 0 (by rw [u8s_length, u8s_length, hl, zer_length]; omega)
  rwa [u8s_length, hl, Nat.zero_add, ← u8s_take_succ _ _ (by omega)] at e2
theorem spl_there (B : List Int) (n k : Nat) (h : B.length = n) (hk : k < n) : ∃ old, (spl (u8s (zer n)) (u8s (B.take k)) 0)[k]? = some old := by
  have hl : (B.take k).length = k := by rw [List.length_take]; omega
  have : k < (spl (u8s (zer n)) (u8s (B.take k)) 0).length := by rw [spl_length _ _ _ (by rw [u8s_length, u8s_length, hl, zer_length]; omega), u8s_length, zer_length]; exact hk
  exact ⟨_, List.getElem?_eq_getElem this⟩
theorem mul_step (v x : Int) (h0 : 0 ≤ v) (h1 : v < 72057594037927936) (h2 : 0 ≤ x) (h3 : x ≤ 255) :
    IntKind.u64.wrap (IntKind.u64.wrap (v * 256) + IntKind.u64.wrap x) = v * 256 + x := by
  rw [IntKind.wrap_u64, IntKind.wrap_u64, IntKind.wrap_u64, Int.emod_eq_of_lt (by omega) (by omega), Int.emod_eq_of_lt (by omega) (by omega)]
  omega
set_option maxHeartbeats 400000 in
theorem readF_any (a : Option Addr) (len cap : Nat) (xs : List Int) (p : Int) (n : Nat) (w : World) (hs : Sl w a len cap xs) (hn : n ≤ 8) (hn0 : 0 < n) :
    Calls Tryz.prog 104 #[.slice a len cap, .int .i64 p, .int .i64 n] w fun e w' => e = .returned (.tuple #[.int .u64 (rdV xs p n), .int .i64 (rdN len p n), .int .i64 (rdE len p n)]) ∧ w = w' := by
  obtain ⟨hx, _, _, hl, hb, _, hc⟩ := hs
  by_cases h : p < 0 ∨ (len : Int) < p ∨ (len : Int) - p < n
  · have e1 : rdV xs p n = 0 := by simp [rdV, hx]; omega
    have e2 : rdN len p n = 0 := by simp [rdN]; omega
    rw [e1, e2]
    clear e1 e2 hc
    by_cases h1 : p < 0
    · have e3 : rdE len p n = 2 := by simp [rdE, h1]
      rw [e3]
      clear e3
      go_enter Tryz.func104, Tryz.ntmps104
      go_wp2
      go_ret3
      exact ⟨rfl, rfl⟩
    by_cases h2 : (len : Int) < p
    · have e3 : rdE len p n = 2 := by simp [rdE, h2]
      rw [e3]
      clear e3
      go_enter Tryz.func104, Tryz.ntmps104
      go_wp2
      go_ret3
      exact ⟨rfl, rfl⟩
    · have h3 : (len : Int) - p < n := by omega
      have e3 : rdE len p n = 10 := by simp [rdE, h1, h2, h3]
      rw [e3]
      clear e3 h
      go_enter Tryz.func104, Tryz.ntmps104
      go_wp2
      go_ret3
      exact ⟨rfl, rfl⟩
  · obtain ⟨p, rfl⟩ := Int.eq_ofNat_of_zero_le (show 0 ≤ p by omega)
    obtain ⟨b, off, rfl, hce⟩ := hc (by omega)
    clear hc
    have e1 : rdV xs p n = beVal ((xs.drop p).take n) := by simp only [rdV, hx]; rw [if_pos (by omega)]; simp
    have e2 : rdN len p n = p + n := by simp [rdN]; omega
    have e3 : rdE len p n = 0 := by simp [rdE]; omega
    rw [e1, e2, e3]
    clear e1 e2 e3
    have h1 : ¬ ((p : Int) < 0) := by omega
    have h2 : ¬ ((len : Int) < p) := by omega
    have h3 : ¬ ((len : Int) - p < n) := by omega
    clear h
    go_enter Tryz.func104, Tryz.ntmps104
    go_wp2
    go_loop [9, 10] (fun v i => ∃ k : Nat, k ≤ n ∧ i = .int .i64 k ∧ v = .int .u64 (beVal ((xs.drop p).take k))) (fun _ i => n - (intOf i).toNat)
    case atStart => exact ⟨0, Nat.zero_le _, rfl, by simp [beVal]⟩
    case round =>
      obtain ⟨k, hk, rfl, rfl⟩ := hrel
      by_cases hlt : k < n
      · have hck := hce (p + k) (by omega)
        have HS : Hid _ := beVal_step xs p k (by omega)
        have H2 : Hid _ := hb.get (p + k)
        have H3 : Hid _ := beVal_take_bd xs hb p k (by omega) (by omega)
        go_wp2
        go_round
        case rel =>
          refine ⟨k + 1, by omega, by go_num, ?_⟩
          rw [HS.out, ← mul_step _ _ H3.out.1 H3.out.2 H2.out.1 H2.out.2]
          rfl
        case measure => simp [intOf]; omega
      · have hkn : k = n := by omega
        subst hkn
        clear hce
        go_wp2
        go_ret3
        exact ⟨rfl, rfl⟩
set_option maxHeartbeats 400000 in
theorem room_any (a : Option Addr) (len cap : Nat) (p : Int) (n : Nat) (w : World) (hl : len ≤ 140737488355328) (hn : n ≤ 32) :
    Calls Tryz.prog 153 #[.slice a len cap, .int .i64 p, .int .i64 n] w fun e w' => e = .returned (.int .i64 (rdE len p n)) ∧ w = w' := by
  by_cases h : p < 0
  · have e : rdE len p n = 2 := by simp [rdE, h]
    rw [e]
    go_enter Tryz.func153, Tryz.ntmps153
    go_wp2
    go_ret
    exact ⟨rfl, rfl⟩
  by_cases h' : (len : Int) < p
  · have e : rdE len p n = 2 := by simp [rdE, h']
    rw [e]
    clear e
    go_enter Tryz.func153, Tryz.ntmps153
    go_wp2
    go_ret
    exact ⟨rfl, rfl⟩
  by_cases h2 : (len : Int) - p < n
  · have e : rdE len p n = 10 := by simp [rdE, h, h', h2]
    rw [e]
    clear e
    go_enter Tryz.func153, Tryz.ntmps153
    go_wp2
    go_ret
    exact ⟨rfl, rfl⟩
  · have e : rdE len p n = 0 := by simp [rdE, h, h', h2]
    rw [e]
    clear e
    go_enter Tryz.func153, Tryz.ntmps153
    go_wp2
    go_ret
    exact ⟨rfl, rfl⟩
set_option maxHeartbeats 400000 in
theorem number_any (a : Option Addr) (len cap : Nat) (xs : List Int) (p : Int) (n : Nat) (w : World) (hs : Sl w a len cap xs) (hn : n ≤ 8) (hn0 : 0 < n) :
    Calls Tryz.prog 136 #[.slice a len cap, .int .i64 p, .int .i64 n] w fun e w' => e = .returned (.tuple #[.int .u64 (rdV xs p n), .int .i64 (rdN len p n), .int .i64 (rdE len p n)]) ∧ w = w' := by
  obtain ⟨hx, _, _, hl, hb, _, hc⟩ := hs
  by_cases h : p < 0 ∨ (len : Int) < p ∨ (len : Int) - p < n
  · have e1 : rdV xs p n = 0 := by simp [rdV, hx]; omega
    have e2 : rdN len p n = 0 := by simp [rdN]; omega
    have e3 : rdE len p n = 2 ∨ rdE len p n = 10 := by
      by_cases h1 : p < 0 ∨ (len : Int) < p
      · left; simp [rdE, h1]
      · right; have h2 : (len : Int) - p < n := by omega
        simp [rdE, h1, h2]
    rw [e1, e2]
    have hne : (rdE len p n != 0) = true := by simp; omega
    clear e1 e2 hc e3
    go_enter Tryz.func136, Tryz.ntmps136
    go_wp2_with (go_at_call 153; refine (room_any _ _ _ _ _ _ hl (by omega)).mono ?_; rintro e w' ⟨rfl, rfl⟩)
    go_ret3
    exact ⟨rfl, rfl⟩
  · obtain ⟨p, rfl⟩ := Int.eq_ofNat_of_zero_le (show 0 ≤ p by omega)
    obtain ⟨b, off, rfl, hce⟩ := hc (by omega)
    clear hc
    have e1 : rdV xs p n = beVal ((xs.drop p).take n) := by simp only [rdV, hx]; rw [if_pos (by omega)]; simp
    have e2 : rdN len p n = p + n := by simp [rdN]; omega
    have e3 : rdE len p n = 0 := by simp [rdE]; omega
    rw [e1, e2, e3]
    have E3 : Hid (rdE len p n = 0) := e3
    clear e1 e2 e3
    go_enter Tryz.func136, Tryz.ntmps136
    go_wp2_with (go_at_call 153; refine (room_any _ _ _ _ _ _ hl (by omega)).mono ?_; rintro e w' ⟨rfl, rfl⟩; rw [E3.out])
    go_loop [6, 19] (fun v i => ∃ k : Nat, k ≤ n ∧ i = .int .i64 k ∧ v = .int .u64 (beVal ((xs.drop p).take k))) (fun _ i => n - (intOf i).toNat)
    case atStart => exact ⟨0, Nat.zero_le _, rfl, by simp [beVal]⟩
    case round =>
      obtain ⟨k, hk, rfl, rfl⟩ := hrel
      by_cases hlt : k < n
      · have hck := hce (p + k) (by omega)
        have HS : Hid _ := beVal_step xs p k (by omega)
        have H2 : Hid _ := hb.get (p + k)
        have H3 : Hid _ := beVal_take_bd xs hb p k (by omega) (by omega)
        go_wp2
        go_round
        case rel =>
          refine ⟨k + 1, by omega, by go_num, ?_⟩
          rw [HS.out, ← or_step _ _ H3.out.1 H3.out.2 H2.out.1 H2.out.2]
          rfl
        case measure => simp [intOf]; omega
      · have hkn : k = n := by omega
        subst hkn
        clear hce
        go_wp2
        go_ret3
        exact ⟨rfl, rfl⟩
theorem spl_full {cs vs : List Value} (h : vs.length = cs.length) : spl cs vs 0 = vs := by
  unfold spl
  rw [List.drop_of_length_le (by omega)]
  simp
theorem elemBy : Tryz.prog.elem 39 = 5 := by kernel_rfl
set_option maxRecDepth 100000 in
theorem b_at (b o n cap i : Nat) (hi : i < n) (v : World) : (Instr.indexAt 39 (.slice (some ⟨b, o, none⟩) n cap) (.int .i64 (i : Int))).run Tryz.prog v = .ok (.pointer (some ⟨b, o + i, none⟩)) v := by
  rw [run_indexAt_slice v _ _ _ _ .i64 i undBs, if_pos ⟨by omega, by omega⟩, elemBy, sizeBF]
  simp only [Result.andThen_ok, Int.toNat_natCast]
  rw [Addr.add_lit, Nat.mul_one]
/-- The bytes of a number, the highest first. -/
def be (v : Int) (n : Nat) : List Int := (List.range n).map fun i => v / 256 ^ (n - 1 - i) % 256
theorem be_length (v : Int) (n : Nat) : (be v n).length = n := by simp [be]
theorem be_isB (v : Int) (n : Nat) : isB (be v n) := by
  intro x hx
  simp only [be, List.mem_map, List.mem_range] at hx
  obtain ⟨i, _, rfl⟩ := hx
  omega
theorem be_get (v : Int) (n k : Nat) (h : k < n) : (be v n).getD k 0 = v / 256 ^ (n - 1 - k) % 256 := by simp [be, List.getD, h]

theorem pow2_8 (m : Nat) : (2 : Int) ^ (8 * m) = 256 ^ m := by rw [Int.pow_mul]; rfl
theorem spl_zer (ys : List Int) (n m : Nat) (h : ys.length = m) : spl (u8s (zer (m + n))) (u8s (ys.take m)) 0 = u8s (ys ++ zer n) := by
  rw [spl_u8, ← h, List.take_length]
  congr 1
  simp [splB, zer]
set_option maxHeartbeats 400000 in
theorem widened_any (a : Option Addr) (len cap : Nat) (xs : List Int) (n : Nat) (w : World) (hs : Sl w a len cap xs) (hn : n ≤ 64) :
    Calls Tryz.prog 129 #[.slice a len cap, .int .i64 n] w fun e w' => ∃ g, e = .returned (.slice (some ⟨g, 0, none⟩) (len + n) (len + n)) ∧ w.heap.size ≤ g ∧ Blk w' g 5 (u8s (xs ++ zer n)) ∧ Below w.heap.size w w' := by
  have hr := hs.hreach
  have HS := hide hs
  clear hs
  go_enter Tryz.func129, Tryz.ntmps129
  go_wp2_with (refine step_make (len + n) rfl rfl rfl (by omega) (by omega) (by omega) ?_)
  intro w1 g hrow hg hb
  go_wp2_with (refine step_copy rfl rfl rfl (HS.out.below hb) g 0 len (by omega) hrow (fun _ => rfl) (by rw [u8s_length, zer_length]; omega) ?_)
  intro w2 hrow2 hbut
  rw [spl_zer xs n len HS.out.hlen] at hrow2
  go_wp2
  go_ret
  exact ⟨g, rfl, hg, hrow2, hb.trans (hbut.below hg)⟩
/-- One byte more of B laid over noughts. -/
theorem fill_step (xs B : List Int) (len n k : Nat) (hx : xs.length = len) (hB : B.length = n) (hk : k < n) :
    (xs ++ (B.take k ++ zer (n - k))).set (len + k) (B.getD k 0) = xs ++ (B.take (k + 1) ++ zer (n - (k + 1))) := by
  subst hx
  rw [List.set_append_right _ _ (by omega), Nat.add_sub_cancel_left]
  congr 1
  have hz : zer (n - k) = 0 :: zer (n - (k + 1)) := by
    have : n - k = (n - (k + 1)) + 1 := by omega
    rw [this]; simp [zer, List.replicate_succ]
  rw [List.set_append_right _ _ (by simp; omega), hz]
  have e : k - (B.take k).length = 0 := by simp; omega
  have e2 : B.getD k 0 = B[k] := by simp [List.getD, hB, hk]
  rw [e, e2, List.take_succ_eq_append_getElem (by omega), List.append_assoc]
  rfl
set_option maxHeartbeats 400000 in
theorem putNumber_any (a : Option Addr) (len cap : Nat) (xs : List Int) (v : Int) (n : Nat) (w : World) (hs : Sl w a len cap xs) (hn : n ≤ 8) (hv : 0 ≤ v) (hv2 : v < 18446744073709551616) :
    Calls Tryz.prog 108 #[.slice a len cap, .int .u64 v, .int .i64 n] w fun e w' => ∃ g, e = .returned (.slice (some ⟨g, 0, none⟩) (len + n) (len + n)) ∧ w.heap.size ≤ g ∧ Blk w' g 5 (u8s (xs ++ be v n)) ∧ Below w.heap.size w w' := by
  have hr := hs.hreach
  have HS := hide hs
  clear hs
  go_enter Tryz.func108, Tryz.ntmps108
  go_wp2_with (go_at_call 129; refine (widened_any _ _ _ xs n _ HS.out (by omega)).mono ?_; rintro e w1 ⟨g, rfl, hg, hrow, hb⟩)
  go_loopw [13] (fun i wr => ∃ k : Nat, k ≤ n ∧ i = .int .i64 k ∧ Blk wr g 5 (u8s (xs ++ ((be v n).take k ++ zer (n - k)))) ∧ Below w.heap.size w wr) (fun i _ => n - (intOf i).toNat)
  case atStart => exact ⟨0, by omega, rfl, by simpa using hrow, hb⟩
  case round =>
    obtain ⟨k, hk, rfl, hr1, hb1⟩ := hrel
    by_cases hlt : k < n
    · have hl1 : (xs ++ ((be v n).take k ++ zer (n - k))).length = len + n := by simp [be_length, zer_length, HS.out.hlen]; omega
      have hcell : wr.cell? ⟨g, len + k, none⟩ = some (.int .u8 ((xs ++ ((be v n).take k ++ zer (n - k))).getD (len + k) 0)) := by rw [hr1.cell, u8s_get _ _ (by omega)]
      have hfree := hr1.free (len + k)
      clear hl1
      have HE := hide (fill_step xs (be v n) len n k HS.out.hlen (be_length v n) hlt)
      have HR := hide hr1
      clear hr1
      go_wp2
      go_roundw
      case rel =>
        have e := HR.out.set (len + k) (.int .u8 ((be v n).getD k 0))
        rw [u8s_set, HE.out, be_get v n k hlt, ← pow2_8] at e
        exact ⟨k + 1, by omega, by go_num, e, hb1.setCell hg _⟩
      case measure => simp [intOf]; omega
    · have hkn : k = n := by omega
      subst hkn
      go_wp2
      go_ret
      refine ⟨g, rfl, hg, ?_, hb1⟩
      have e : xs ++ (List.take k (be v k) ++ zer (k - k)) = xs ++ be v k := by
        rw [List.take_of_length_le (by rw [be_length]; exact Nat.le_refl _)]; simp [zer]
      rw [e] at hr1
      exact hr1
/-- One byte more of B, from its end. -/
theorem back_step (B : List Int) (n k : Nat) (hB : B.length = n) (hk : k < n) : (zer (k + 1) ++ B.drop (k + 1)).set k (B.getD k 0) = zer k ++ B.drop k := by
  have hz : zer (k + 1) = zer k ++ [0] := by simp [zer, List.replicate_succ']
  rw [hz, List.append_assoc, List.set_append_right _ _ (by simp [zer]), List.drop_eq_getElem_cons (i := k) (by omega)]
  have e : k - (zer k).length = 0 := by simp [zer]
  rw [e]
  simp [List.getD, hB, hk]

theorem div_pow (v : Int) (m : Nat) : v / 256 ^ m / 256 = v / 256 ^ (m + 1) := by
  rw [Int.pow_succ, Int.ediv_ediv_of_nonneg (Int.le_of_lt (Int.pow_pos (by decide)))]

theorem quo256 (v : Int) (m : Nat) (hv : 0 ≤ v) (hv2 : v < 18446744073709551616) : IntKind.u64.wrap ((v / 256 ^ m).tdiv 256) = v / 256 ^ (m + 1) := by
  have h0 : 0 ≤ v / 256 ^ m := Int.ediv_nonneg hv (Int.le_of_lt (Int.pow_pos (by decide)))
  have h1 : v / 256 ^ m ≤ v := Int.ediv_le_self _ hv
  rw [Int.tdiv_eq_ediv_of_nonneg h0, div_pow, IntKind.wrap_u64]
  have h2 : 0 ≤ v / 256 ^ (m + 1) := Int.ediv_nonneg hv (Int.le_of_lt (Int.pow_pos (by decide)))
  have h3 : v / 256 ^ (m + 1) ≤ v := Int.ediv_le_self _ hv
  exact Int.emod_eq_of_lt h2 (by omega)

set_option maxHeartbeats 400000 in
theorem number_ref (v : Int) (n : Nat) (w : World) (hn : n ≤ 8) (hv : 0 ≤ v) (hv2 : v < 18446744073709551616) :
    Calls Tryz.prog 79 #[.int .u64 v, .int .i64 n] w fun e w' => ∃ g, e = .returned (.slice (some ⟨g, 0, none⟩) n n) ∧ w.heap.size ≤ g ∧ Blk w' g 5 (u8s (be v n)) ∧ Below w.heap.size w w' := by
  go_enter Tryz.func79, Tryz.ntmps79
  go_wp2_with (refine step_make n rfl rfl rfl rfl rfl (by omega) ?_)
  intro w1 g hrow hg hb
  go_wp2
  go_loopw [0, 6] (fun vv i wr => ∃ j : Nat, j ≤ n ∧ i = .int .i64 ((j : Int) - 1) ∧ vv = .int .u64 (v / 256 ^ (n - j)) ∧ Blk wr g 5 (u8s (zer j ++ (be v n).drop j)) ∧ Below w.heap.size w wr) (fun _ i _ => (intOf i + 1).toNat)
  case atStart => exact ⟨n, by omega, rfl, by simp, by rw [List.drop_eq_nil_of_le (by rw [be_length]; exact Nat.le_refl _), List.append_nil]; exact hrow, hb⟩
  case round =>
    obtain ⟨j, hj, rfl, rfl, hr1, hb1⟩ := hrel
    by_cases h0 : j = 0
    · subst h0
      go_wp2
      go_ret
      refine ⟨g, rfl, hg, ?_, hb1⟩
      simpa [zer] using hr1
    · obtain ⟨k, rfl⟩ : ∃ k, j = k + 1 := ⟨j - 1, by omega⟩
      have hl1 : (zer (k + 1) ++ (be v n).drop (k + 1)).length = n := by simp [be_length, zer_length]; omega
      have hcell : wr.cell? ⟨g, k, none⟩ = some (.int .u8 ((zer (k + 1) ++ (be v n).drop (k + 1)).getD k 0)) := by rw [hr1.cell]; exact u8s_get _ _ (by omega)
      have hfree := hr1.free k
      have HE := hide (back_step (be v n) n k (be_length v n) (by omega))
      have HG := hide (be_get v n k (by omega))
      have ek : (((k + 1 : Nat) : Int) - 1) = (k : Int) := by omega
      rw [ek]
      clear hl1
      go_wp2
      go_roundw
      case rel =>
        have e := hr1.set k (.int .u8 ((be v n).getD k 0))
        have en : n - 1 - k = n - (k + 1) := by omega
        rw [u8s_set, HE.out, HG.out, en] at e
        have eq := quo256 v (n - (k + 1)) hv hv2
        have en2 : n - (k + 1) + 1 = n - k := by omega
        rw [en2] at eq
        exact ⟨k, by omega, by go_num, by rw [eq], e, hb1.setCell hg _⟩
      case measure => simp [intOf]

set_option maxHeartbeats 400000 in
theorem putUint32_any (a : Option Addr) (len cap : Nat) (xs : List Int) (v : Int) (w : World) (hs : Sl w a len cap xs) (hv : 0 ≤ v) (hv2 : v < 4294967296) :
    Calls Tryz.prog 83 #[.slice a len cap, .int .u32 v] w fun e w' => ∃ g, e = .returned (.slice (some ⟨g, 0, none⟩) (len + 4) (len + 4)) ∧ w.heap.size ≤ g ∧ Blk w' g 5 (u8s (xs ++ be v 4)) ∧ Below w.heap.size w w' := by
  have HS := hide hs
  have hw : IntKind.u64.wrap v = v := by rw [IntKind.wrap_u64]; exact Int.emod_eq_of_lt hv (by omega)
  clear hs
  go_enter Tryz.func83, Tryz.ntmps83
  go_wp2_with (go_at_call 108; refine (putNumber_any _ _ _ xs v 4 _ HS.out (by omega) hv (by omega)).mono ?_; rintro e w1 ⟨g, rfl, hg, hrow, hb⟩)
  go_ret
  exact ⟨g, rfl, hg, hrow, hb⟩
set_option maxHeartbeats 400000 in
theorem uint32_any (a : Option Addr) (len cap : Nat) (xs : List Int) (p : Int) (w : World) (hs : Sl w a len cap xs) :
    Calls Tryz.prog 121 #[.slice a len cap, .int .i64 p] w fun e w' => e = .returned (.tuple #[.int .u32 (rdV xs p 4), .int .i64 (rdN len p 4), .int .i64 (rdE len p 4)]) ∧ w = w' := by
  have hb := rdV_bd xs hs.hbyte p 4
  have hb1 : 0 ≤ rdV xs p 4 := hb.1
  have hb2 : rdV xs p 4 < 4294967296 := hb.2
  have hw : IntKind.u32.wrap (rdV xs p 4) = rdV xs p 4 := by rw [IntKind.wrap_u32]; exact Int.emod_eq_of_lt hb1 hb2
  clear hb
  have HS := hide hs
  clear hs
  go_enter Tryz.func121, Tryz.ntmps121
  go_wp2_with (go_at_call 136; refine (number_any _ _ _ xs _ 4 _ HS.out (by omega) (by omega)).mono ?_; rintro e w' ⟨rfl, rfl⟩)
  go_ret3
  exact ⟨rfl, rfl⟩

end Go.Proofs.YtninkkdbcgadpaaGreatDoor

/-
  The sums of bytes: the program's Extend and Sum, and the document's.
-/
namespace Go.Proofs.YtninkkdbcgadpaaGreatDoor
open Go.RowKit
set_option linter.unusedVariables false
set_option maxRecDepth 100000

theorem not32 (s : Nat) (hs : s < 4294967296) : bits .xor .u32 IntKind.u32.max (s : Int) = ((4294967295 - s : Nat) : Int) := by
  have h0 : IntKind.u32.max = ((4294967295 : Nat) : Int) := rfl
  rw [h0, u32_xor_nat _ _ (by decide) hs]
  congr 1
  apply Nat.eq_of_testBit_eq
  intro i
  have e1 : (4294967295 : Nat) = 2 ^ 32 - 1 := rfl
  have e2 : 4294967295 - s = 2 ^ 32 - (s + 1) := by omega
  rw [e2, Nat.testBit_two_pow_sub_succ hs, Nat.testBit_xor, e1, Nat.testBit_two_pow_sub_one]
  by_cases hi : i < 32
  · simp [hi]
  · have : s.testBit i = false := Nat.testBit_lt_two_pow (Nat.lt_of_lt_of_le hs (Nat.pow_le_pow_right (show 2 > 0 by decide) (show 32 ≤ i by omega)))
    simp [hi, this]
theorem sh4 (r : Nat) : ((r : Int) / 16) = ((r / 16 : Nat) : Int) := by omega
theorem and15 (r : Nat) (hr : r < 4294967296) : bits .and .u32 (r : Int) 15 = ((r % 16 : Nat) : Int) := by
  have := u32_and_nat r 15 hr (by decide)
  rw [show ((15 : Nat) : Int) = 15 from rfl] at this
  rw [this, Nat.and_two_pow_sub_one_eq_mod r 4]
theorem and1 (r : Nat) (hr : r < 4294967296) : bits .and .u32 (r : Int) 1 = ((r % 2 : Nat) : Int) := by
  have := u32_and_nat r 1 hr (by decide)
  rw [show ((1 : Nat) : Int) = 1 from rfl] at this
  rw [this, Nat.and_two_pow_sub_one_eq_mod r 1]
theorem fd_lt (i : Nat) (h : i < 16) : fdL.getD i 0 < 4294967296 := by
  revert h; revert i; decide
theorem nb_val (r : Nat) (hr : r < 4294967296) : bits .xor .u32 ((r / 16 : Nat) : Int) ((fdL.getD (r % 16) 0 : Nat) : Int) = ((nb r : Nat) : Int) := by
  rw [u32_xor_nat _ _ (by omega) (fd_lt _ (by omega))]; rfl
theorem nb_lt (r : Nat) (hr : r < 4294967296) : nb r < 4294967296 := by rw [nb_is]; exact stN_lt 4 r hr
theorem xor_val (r c : Nat) (hr : r < 4294967296) (hc : c < 256) : bits .xor .u32 (r : Int) (c : Int) = ((r ^^^ c : Nat) : Int) := u32_xor_nat _ _ hr (by omega)
theorem xor_lt (r c : Nat) (hr : r < 4294967296) (hc : c < 256) : r ^^^ c < 4294967296 := Nat.xor_lt_two_pow (n := 32) hr (Nat.lt_trans hc (by decide))
theorem index_F (i : Nat) (I : Int) (hI : I = (i : Int)) (hi : i < 16) (w : World) : (Instr.indexAt 166 (.pointer (some ⟨0, 0, none⟩)) (.int .u32 I)).run Tryz.prog w = .ok (.pointer (some ⟨0, i, none⟩)) w := by
  subst hI
  have hT : Tryz.prog.underlying 166 = some (.array (Tryz.prog.arrayLen 166) (Tryz.prog.elem 166)) := by kernel_rfl
  have hn : Tryz.prog.arrayLen 166 = 16 := by kernel_rfl
  have hz : ∀ w, (sizeOf (Tryz.prog.elem 166)).run Tryz.prog w = .ok 1 w := fun _ => by kernel_rfl
  rw [run_indexAt_array w _ _ .u32 i hT, if_pos ⟨by omega, by rw [hn]; omega⟩, hz]
  simp only [Result.andThen_ok, Int.toNat_natCast, Nat.mul_one]
  rw [Addr.add_lit, Nat.zero_add]
theorem nib_step (r : Nat) (hr : r < 4294967296) : ∃ (h T : Int) (l : Nat), (r : Int) / 16 = h ∧ bits .and .u32 (r : Int) 15 = (l : Int) ∧ l < 16 ∧ kL.getD l 0 = T ∧ bits .xor .u32 h T = ((nb r : Nat) : Int) :=
  ⟨((r / 16 : Nat) : Int), ((fdL.getD (r % 16) 0 : Nat) : Int), r % 16, sh4 r, and15 r hr, by omega, kL_fd _ (by omega), nb_val r hr⟩
theorem crR_take (r : Nat) (xs : List Int) (k : Nat) (h : k < xs.length) : crR r (xs.take (k + 1)) = by8 (crR r (xs.take k)) (xs.getD k 0).toNat := by
  rw [List.take_succ_eq_append_getElem h, crR_snoc]
  simp [List.getD, h]

theorem sgn32 : IntKind.u32.signed = false := rfl
set_option maxHeartbeats 1000000 in
theorem extend_any (s : Nat) (a : Option Addr) (len cap : Nat) (xs : List Int) (w : World) (hsn : s < 4294967296) (hs : Sl w a len cap xs) (hk : KT w) :
    Calls Tryz.prog 84 #[.int .u32 (s : Int), .slice a len cap] w fun e w' => e = .returned (.int .u32 ((crcE s xs : Nat) : Int)) ∧ w = w' := by
  have hl := hs.hreach
  have HX := hide hs.hlen
  have hb := hs.hbyte
  have HC := hide hs.hcell
  have hN := not32 s hsn
  have HK := hide hk
  have hsg := sgn32
  have hr0 : 4294967295 - s < 4294967296 := by omega
  obtain ⟨r0, HR0⟩ : ∃ r0, Hid (4294967295 - s = r0) := ⟨_, hide rfl⟩
  have HE : Hid (crcE s xs = 4294967295 - crR r0 xs) := hide (by rw [crcE, HR0.out])
  rw [HR0.out] at hN hr0
  rw [HE.out]
  clear hs hk HE HR0
  go_enter Tryz.func84, Tryz.ntmps84
  go_wp2
  clear hN
  go_loop [5, 12] (fun r i => ∃ k : Nat, k ≤ len ∧ i = .int .i64 k ∧ r = .int .u32 ((crR r0 (xs.take k) : Nat) : Int)) (fun _ i => len - (intOf i).toNat)
  case atStart => exact ⟨0, Nat.zero_le _, rfl, rfl⟩
  case round =>
    obtain ⟨k, hk, rfl, rfl⟩ := hrel
    have HLT := hide (crR_lt r0 (xs.take k) hr0 (hb.take k))
    by_cases hlt : k < len
    · have HS := hide (crR_take r0 xs k (by rw [HX.out]; exact hlt))
      obtain ⟨b, off, rfl, hce⟩ := HC.out (by omega)
      have hck := hce k hlt
      obtain ⟨c, HCV⟩ : ∃ c : Nat, Hid (xs.getD k 0 = (c : Int)) := by
        have := hb.get k
        exact ⟨(xs.getD k 0).toNat, hide (by omega)⟩
      have hc256 : c < 256 := by have := hb.get k; rw [HCV.out] at this; omega
      rw [HCV.out] at hck
      have HS2 : Hid (crR r0 (xs.take (k + 1)) = by8 (crR r0 (xs.take k)) c) := hide (by rw [HS.out, HCV.out]; rfl)
      obtain ⟨r, HR⟩ : ∃ r, Hid (crR r0 (xs.take k) = r) := ⟨_, hide rfl⟩
      rw [HR.out] at HLT HS2
      rw [HR.out]
      have hlt1 := HLT.out
      have x1 := b_at b off len cap k hlt
      have hwc : IntKind.u32.wrap (c : Int) = (c : Int) := by rw [IntKind.wrap_u32]; omega
      have e1 := xor_val r c hlt1 hc256
      obtain ⟨q, HQ⟩ : ∃ q, Hid (r ^^^ c = q) := ⟨_, hide rfl⟩
      have hq := xor_lt r c hlt1 hc256
      rw [HQ.out] at e1 hq
      obtain ⟨qh, qT, ql, e2, e3, hql, hqT, e4⟩ := nib_step q hq
      have x2 := index_F ql _ rfl hql
      have c2 := HK.out ql hql
      rw [hqT] at c2
      have hq2 := nb_lt q hq
      obtain ⟨p, HP⟩ : ∃ p, Hid (nb q = p) := ⟨_, hide rfl⟩
      rw [HP.out] at e4 hq2
      obtain ⟨ph, pT, pl, f2, f3, hpl, hpT, f4⟩ := nib_step p hq2
      have x3 := index_F pl _ rfl hpl
      have c3 := HK.out pl hpl
      rw [hpT] at c3
      clear hqT hpT
      have HF : Hid (nb p = by8 r c) := hide (by rw [← HP.out, ← HQ.out, nb2])
      obtain ⟨z, HZ⟩ : ∃ z, Hid (nb p = z) := ⟨_, hide rfl⟩
      rw [HZ.out] at f4 HF
      clear hce hb hsg HLT
      go_wp2
      refine ⟨⟨k + 1, by omega, by go_num, by rw [HS2.out, HF.out]⟩, ?_⟩
      simp [intOf]; omega
    · obtain rfl : k = len := by omega
      have hN2 := not32 (crR r0 (xs.take k)) HLT.out
      rw [List.take_of_length_le (by rw [HX.out]; exact Nat.le_refl _)] at hN2 ⊢
      clear HC hb HLT
      go_wp2
      go_ret
      exact ⟨rfl, rfl⟩
set_option maxHeartbeats 400000 in
theorem sum_any (a : Option Addr) (len cap : Nat) (xs : List Int) (w : World) (hs : Sl w a len cap xs) (hk : KT w) :
    Calls Tryz.prog 85 #[.slice a len cap] w fun e w' => e = .returned (.int .u32 ((crcE 0 xs : Nat) : Int)) ∧ w = w' := by
  have HS := hide hs
  have HK := hide hk
  clear hs hk
  go_enter Tryz.func85, Tryz.ntmps85
  go_wp2_with (go_at_call 84; refine (extend_any 0 _ _ _ xs _ (by decide) HS.out HK.out).mono ?_; rintro e w' ⟨rfl, rfl⟩)
  go_ret
  exact ⟨rfl, rfl⟩

theorem st1_step (r : Nat) (hr : r < 4294967296) : ∃ (h l : Int), (r : Int) / 2 = h ∧ bits .and .u32 (r : Int) 1 = l ∧ (l = 0 ∨ l = 1) ∧ (l = 0 → h = ((st1 r : Nat) : Int)) ∧ (l = 1 → bits .xor .u32 h 3988292384 = ((st1 r : Nat) : Int)) := by
  refine ⟨((r / 2 : Nat) : Int), ((r % 2 : Nat) : Int), by omega, and1 r hr, by omega, fun h => ?_, fun h => ?_⟩
  · unfold st1
    rw [if_neg (by omega)]
  · have := u32_xor_nat (r / 2) pol (by omega) pol_lt
    unfold st1
    rw [if_pos (by omega), ← this]
    rfl
set_option maxHeartbeats 1000000 in
theorem extendR_any (s : Nat) (a : Option Addr) (len cap : Nat) (xs : List Int) (w : World) (hsn : s < 4294967296) (hs : Sl w a len cap xs) :
    Calls Tryz.prog 80 #[.int .u32 (s : Int), .slice a len cap] w fun e w' => e = .returned (.int .u32 ((crcE s xs : Nat) : Int)) ∧ w = w' := by
  have hl := hs.hreach
  have HX := hide hs.hlen
  have hb := hs.hbyte
  have HC := hide hs.hcell
  have hN := not32 s hsn
  have hsg := sgn32
  have hr0 : 4294967295 - s < 4294967296 := by omega
  obtain ⟨r0, HR0⟩ : ∃ r0, Hid (4294967295 - s = r0) := ⟨_, hide rfl⟩
  have HE : Hid (crcE s xs = 4294967295 - crR r0 xs) := hide (by rw [crcE, HR0.out])
  rw [HR0.out] at hN hr0
  rw [HE.out]
  clear hs HE HR0
  go_enter Tryz.func80, Tryz.ntmps80
  go_wp2
  clear hN
  go_loop [5, 6] (fun r i => ∃ k : Nat, k ≤ len ∧ i = .int .i64 k ∧ r = .int .u32 ((crR r0 (xs.take k) : Nat) : Int)) (fun _ i => len - (intOf i).toNat)
  case atStart => exact ⟨0, Nat.zero_le _, rfl, rfl⟩
  case round =>
    obtain ⟨k, hk, rfl, rfl⟩ := hrel
    have HLT := hide (crR_lt r0 (xs.take k) hr0 (hb.take k))
    by_cases hlt : k < len
    · have HS := hide (crR_take r0 xs k (by rw [HX.out]; exact hlt))
      obtain ⟨b, off, rfl, hce⟩ := HC.out (by omega)
      have hck := hce k hlt
      obtain ⟨c, HCV⟩ : ∃ c : Nat, Hid (xs.getD k 0 = (c : Int)) := by
        have := hb.get k
        exact ⟨(xs.getD k 0).toNat, hide (by omega)⟩
      have hc256 : c < 256 := by have := hb.get k; rw [HCV.out] at this; omega
      rw [HCV.out] at hck
      have HS2 : Hid (crR r0 (xs.take (k + 1)) = by8 (crR r0 (xs.take k)) c) := hide (by rw [HS.out, HCV.out]; rfl)
      obtain ⟨r, HR⟩ : ∃ r, Hid (crR r0 (xs.take k) = r) := ⟨_, hide rfl⟩
      rw [HR.out] at HLT HS2
      rw [HR.out]
      have hlt1 := HLT.out
      have x1 := b_at b off len cap k hlt
      have hwc : IntKind.u32.wrap (c : Int) = (c : Int) := by rw [IntKind.wrap_u32]; omega
      have e1 := xor_val r c hlt1 hc256
      obtain ⟨q, HQ⟩ : ∃ q, Hid (r ^^^ c = q) := ⟨_, hide rfl⟩
      have hq := xor_lt r c hlt1 hc256
      rw [HQ.out] at e1 hq
      have HF : Hid (stN 8 q = by8 r c) := hide (by rw [← HQ.out]; rfl)
      clear hce hb hsg HLT HC HCV
      go_wp2
      clear e1 x1 hck hwc
      go_loop [5, 7] (fun y i => ∃ j : Nat, j ≤ 8 ∧ i = .int .i64 j ∧ y = .int .u32 ((stN j q : Nat) : Int)) (fun _ i => 8 - (intOf i).toNat)
      case atStart => exact ⟨0, by omega, rfl, rfl⟩
      case round =>
        obtain ⟨j, hj, rfl, rfl⟩ := hrel
        by_cases hj8 : j < 8
        · obtain ⟨h, l, g1, g2, g3, g4, g5⟩ := st1_step (stN j q) (stN_lt j q hq)
          have HN : Hid (stN (j + 1) q = st1 (stN j q)) := hide (stN_add j 1 q)
          obtain ⟨y, HY⟩ : ∃ y, Hid (stN j q = y) := ⟨_, hide rfl⟩
          rw [HY.out] at g1 g2 g4 g5 HN
          rw [HY.out]
          rcases g3 with rfl | rfl
          · have G4 := hide (g4 rfl)
            clear g4 g5
            go_wp2
            go_round
            case rel => exact ⟨j + 1, by omega, by go_num, by rw [HN.out, ← G4.out]⟩
            case measure => simp [intOf]; omega
          · have G5 := g5 rfl
            clear g4 g5
            go_wp2
            go_round
            case rel => exact ⟨j + 1, by omega, by go_num, by rw [HN.out]⟩
            case measure => simp [intOf]; omega
        · obtain rfl : j = 8 := by omega
          go_wp2
          go_round
          case rel => exact ⟨k + 1, by omega, by go_num, by rw [HS2.out, HF.out]⟩
          case measure => simp [intOf]; omega
    · obtain rfl : k = len := by omega
      have hN2 := not32 (crR r0 (xs.take k)) HLT.out
      rw [List.take_of_length_le (by rw [HX.out]; exact Nat.le_refl _)] at hN2 ⊢
      clear HC hb HLT
      go_wp2
      go_ret
      exact ⟨rfl, rfl⟩
set_option maxHeartbeats 400000 in
theorem sumR_any (a : Option Addr) (len cap : Nat) (xs : List Int) (w : World) (hs : Sl w a len cap xs) :
    Calls Tryz.prog 81 #[.slice a len cap] w fun e w' => e = .returned (.int .u32 ((crcE 0 xs : Nat) : Int)) ∧ w = w' := by
  have HS := hide hs
  clear hs
  go_enter Tryz.func81, Tryz.ntmps81
  go_wp2_with (go_at_call 80; refine (extendR_any 0 _ _ _ xs _ (by decide) HS.out).mono ?_; rintro e w' ⟨rfl, rfl⟩)
  go_ret
  exact ⟨rfl, rfl⟩

end Go.Proofs.YtninkkdbcgadpaaGreatDoor

/-
  A frame read at a place: what is told of any bytes; bytes.Clone; the program's Read and the document's.
-/
namespace Go.Proofs.YtninkkdbcgadpaaGreatDoor
open Go.RowKit
set_option linter.unusedVariables false
set_option maxRecDepth 100000
set_option linter.unusedSimpArgs false

/-- The length that stands at a place, the sum that stands behind it, the data behind both. -/
def frN (xs : List Int) (p : Nat) : Int := beVal ((xs.drop p).take 4)
def frS (xs : List Int) (p : Nat) : Int := beVal ((xs.drop (p + 4)).take 4)
def frD (xs : List Int) (p : Nat) : List Int := (xs.drop (p + 8)).take (frN xs p).toNat
def frC (xs : List Int) (p : Nat) : Int := ((crcE (crcE 0 ((xs.drop p).take 4)) (frD xs p) : Nat) : Int)
/-- What reading at a place tells: the data, the place behind, the error. -/
def frR (xs : List Int) (p : Int) : List Int × Int × Int :=
  if p < 0 ∨ (xs.length : Int) < p then ([], 0, 2)
  else if (xs.length : Int) - p < 8 then ([], 0, 111)
  else if 1048576 < frN xs p.toNat then ([], 0, 3)
  else if (xs.length : Int) - p - 8 < frN xs p.toNat then ([], 0, 111)
  else if frC xs p.toNat ≠ frS xs p.toNat then ([], 0, 110)
  else (frD xs p.toNat, p + 8 + frN xs p.toNat, 0)

theorem isB.at4 {xs : List Int} (h : isB xs) (p : Nat) (hp : p + 4 ≤ xs.length) : 0 ≤ beVal ((xs.drop p).take 4) ∧ beVal ((xs.drop p).take 4) < 4294967296 := by
  have h1 := beVal_bd _ ((h.drop p).take 4)
  have hl : ((xs.drop p).take 4).length = 4 := by simp; omega
  rw [hl] at h1
  exact h1
theorem frC_bd (xs : List Int) (p : Nat) : 0 ≤ frC xs p ∧ frC xs p < 4294967296 := by
  have := crE_lt (crcE 0 ((xs.drop p).take 4)) (frD xs p)
  unfold frC
  omega

/-- b[i:j] -/
theorem slice_mid {w : World} {a : Option Addr} {len cap : Nat} {xs : List Int} (h : Sl w a len cap xs) (i j : Nat) (I J : Int) (hI : I = (i : Int)) (hJ : J = (j : Int)) (hij : i ≤ j) (hj : j ≤ len) :
    ∃ a', (∀ v : World, (Instr.slice 39 (.slice a len cap) (some (.int .i64 I)) (some (.int .i64 J)) none).run Tryz.prog v = .ok (.slice a' (j - i) (cap - i)) v) ∧ Sl w a' (j - i) (cap - i) ((xs.drop i).take (j - i)) := by
  subst hI hJ
  have hc0 := h.hcap
  have hrun : ∀ v : World, (Instr.slice 39 (.slice a len cap) (some (.int .i64 i)) (some (.int .i64 j)) none).run Tryz.prog v = .ok (sliced a i j cap 1) v := fun v => by
    rw [run_slice_lh v _ _ _ _ und22F .i64 .i64 i j (by omega) (by omega) (by omega), elem22F, sizeBF]
    simp
  obtain ⟨h1, h2, h3, h4, h5, h6, h7⟩ := h
  by_cases hc : i < cap
  · cases a with
    | none => have := h6 rfl; omega
    | some ad =>
      have es : sliced (some ad) i j cap 1 = .slice (some (ad.add i)) (j - i) (cap - i) := by
        simp only [sliced, Nat.mul_one]
        have : ¬ (cap = i) := by omega
        simp [this]
      refine ⟨some (ad.add i), fun v => by rw [hrun v, es], ?_⟩
      refine ⟨by simp; omega, by omega, by omega, by omega, (h5.drop i).take _, (fun e => by cases e), fun h0 => ?_⟩
      obtain ⟨b, o, e, hce⟩ := h7 (by omega)
      cases e
      refine ⟨b, o + i, by rw [Addr.add_lit], fun k hk => ?_⟩
      rw [show o + i + k = o + (i + k) by omega, hce (i + k) (by omega)]
      simp [List.getD, List.getElem?_drop, List.getElem?_take, hk]
  · obtain rfl : i = cap := by omega
    obtain rfl : len = i := by omega
    obtain rfl : j = len := by omega
    have es : sliced a j j j 1 = .slice a (j - j) (j - j) := by
      cases a <;> simp [sliced]
    refine ⟨a, fun v => by rw [hrun v, es], ?_⟩
    rw [Nat.sub_self]
    exact ⟨by simp, Nat.le_refl _, by omega, by omega, (h5.drop _).take _, fun _ => ⟨rfl, rfl⟩, fun h => absurd h (by omega)⟩

theorem eql_nilF (a : Option Addr) (l c : Nat) (w : World) : (binOp .eql 39 (.slice a l c) (.slice none 0 0)).run Tryz.prog w = .ok (.bool a.isNone) w := by
  have h := run_equal_slice_nil (P := Tryz.prog) w 39 5 a l c undBs
  simp [binOp, h, Result.andThen]
set_option maxHeartbeats 400000 in
theorem cloneF_any (a : Option Addr) (len cap : Nat) (xs : List Int) (w : World) (hs : Sl w a len cap xs) :
    Calls Tryz.prog 52 #[.slice a len cap] w fun e w' => ∃ v, e = .returned v ∧ Own w' w.heap.size v xs ∧ Below w.heap.size w w' := by
  cases a with
  | none =>
    obtain ⟨rfl, rfl⟩ := hs.hnil rfl
    obtain rfl : xs = [] := List.eq_nil_of_length_eq_zero hs.hlen
    clear hs
    have hq : ∀ w : World, (binOp .eql 39 (.slice none 0 0) (.slice none 0 0)).run Tryz.prog w = .ok (.bool true) w := fun w => eql_nilF none 0 0 w
    go_enter Tryz.func52, Tryz.ntmps52
    go_wp2
    go_ret
    exact ⟨_, rfl, Own.nil _ _, Below.refl _ _⟩
  | some x =>
    have hr := hs.hreach
    have HS := hide hs
    clear hs
    have hq : ∀ w : World, (binOp .eql 39 (.slice (some x) len cap) (.slice none 0 0)).run Tryz.prog w = .ok (.bool false) w := fun w => eql_nilF (some x) len cap w
    go_enter Tryz.func52, Tryz.ntmps52
    have ho0 : Own (w.alloc (.cells #[] 5)) w.heap.size (.slice (some ⟨w.heap.size, 0, none⟩) 0 0) [] := Own.of_blkF (xs := []) (Blk.made w 5 []) (Nat.le_refl _) (by simp)
    have hb0 : Below w.heap.size w (w.alloc (.cells #[] 5)) := (Below.refl _ _).alloc (Nat.le_refl _) _
    go_wp2_with (refine step_append rfl rfl rfl ho0 (HS.out.below hb0) (by simp; omega) (by simp) ?_)
    intro v1 w1 ho1 hg1 hn1
    have hb1 : Below w.heap.size w w1 := hb0.trans (Below.of_grown hg1 hb0.size ho0.lt)
    rw [List.nil_append] at ho1
    go_wp2
    go_ret
    exact ⟨_, rfl, ho1, hb1⟩

set_option maxHeartbeats 1000000 in
theorem read11_any (a : Option Addr) (len cap : Nat) (xs : List Int) (p : Int) (w : World) (hs : Sl w a len cap xs) (hk : KT w) :
    Calls Tryz.prog 95 #[.slice a len cap, .int .i64 p] w fun e w' => ∃ v, e = .returned (.tuple #[v, .int .i64 (frR xs p).2.1, .int .i64 (frR xs p).2.2]) ∧ Own w' w.heap.size v (frR xs p).1 ∧ Below w.heap.size w w' := by
  have hlen := hs.hlen
  have hr := hs.hreach
  have hcap := hs.hcap
  unfold frR
  rw [hlen]
  by_cases h1 : p < 0
  · rw [if_pos (.inl h1)]
    clear hs hk hlen
    go_enter Tryz.func95, Tryz.ntmps95
    go_wp2
    go_ret3
    exact ⟨_, rfl, Own.nil _ _, Below.refl _ _⟩
  by_cases h2 : (len : Int) < p
  · rw [if_pos (.inr h2)]
    clear hs hk hlen
    go_enter Tryz.func95, Tryz.ntmps95
    go_wp2
    go_ret3
    exact ⟨_, rfl, Own.nil _ _, Below.refl _ _⟩
  rw [if_neg (by omega)]
  obtain ⟨p, rfl⟩ := Int.eq_ofNat_of_zero_le (show 0 ≤ p by omega)
  rw [Int.toNat_natCast]
  by_cases h3 : (len : Int) - p < 8
  · rw [if_pos h3]
    clear hs hk hlen
    go_enter Tryz.func95, Tryz.ntmps95
    go_wp2
    go_ret3
    exact ⟨_, rfl, Own.nil _ _, Below.refl _ _⟩
  rw [if_neg h3]
  have hp8 : p + 8 ≤ len := by omega
  have U1 := hide (uint32_any a len cap xs (p : Int) w hs)
  have U2 := hide (uint32_any a len cap xs ((p : Int) + 4) w hs)
  have e1 : rdV xs p 4 = frN xs p := by simp only [rdV, hlen]; rw [if_pos (by omega)]; simp [frN]
  have e2 : rdN len p 4 = p + 4 := by simp [rdN]; omega
  have e3 : rdE len p 4 = 0 := by simp [rdE]; omega
  have e4 : rdV xs ((p : Int) + 4) 4 = frS xs p := by simp only [rdV, hlen]; rw [if_pos (by omega)]; simp [frS]; rw [show ((p : Int) + 4).toNat = p + 4 by omega]
  have e5 : rdN len ((p : Int) + 4) 4 = (p : Int) + 8 := by simp [rdN]; omega
  have e6 : rdE len ((p : Int) + 4) 4 = 0 := by simp [rdE]; omega
  rw [e1, e2, e3] at U1
  rw [e4, e5, e6] at U2
  clear e1 e2 e3 e4 e5 e6
  have bN := hs.hbyte.at4 p (by omega)
  have bS := hs.hbyte.at4 (p + 4) (by omega)
  have hN : frN xs p = beVal ((xs.drop p).take 4) := rfl
  have hS : frS xs p = beVal ((xs.drop (p + 4)).take 4) := rfl
  rw [← hN] at bN
  rw [← hS] at bS
  clear hN hS
  obtain ⟨n, hn⟩ : ∃ n : Nat, frN xs p = (n : Int) := ⟨(frN xs p).toNat, by omega⟩
  have HD : Hid (frD xs p = (xs.drop (p + 8)).take n) := hide (by rw [frD, hn, Int.toNat_natCast])
  have HC : Hid (frC xs p = ((crcE (crcE 0 ((xs.drop p).take 4)) (frD xs p) : Nat) : Int)) := hide rfl
  have HK := hide hk
  have HS := hide hs
  rw [hn] at U1 bN ⊢
  obtain ⟨s, hs2⟩ : ∃ s : Int, frS xs p = s := ⟨_, rfl⟩
  rw [hs2] at U2 bS ⊢
  have h1' : ¬ ((p : Int) < 0) := by omega
  have h2' : ¬ ((len : Int) < (p : Int)) := by omega
  clear hn hs2 hk hs hlen h1 h2
  by_cases h4 : (1048576 : Int) < n
  · rw [if_pos h4]
    clear HK HD HC HS
    go_enter Tryz.func95, Tryz.ntmps95
    go_wp2_with fail
    refine U1.out.mono ?_
    rintro e w1 ⟨rfl, rfl⟩
    go_wp2_with fail
    refine U2.out.mono ?_
    rintro e w1 ⟨rfl, rfl⟩
    go_wp2
    go_ret3
    exact ⟨_, rfl, Own.nil _ _, Below.refl _ _⟩
  rw [if_neg h4]
  have hwn : IntKind.i64.wrap (n : Int) = (n : Int) := wrap_in _ (by omega) (by omega)
  have h4' : ¬ ((1048576 : Int) < n) := h4
  by_cases h5 : (len : Int) - p - 8 < n
  · rw [if_pos h5]
    have h5' : (len : Int) - ((p : Int) + 8) < n := by omega
    clear HK HD HC HS h5
    go_enter Tryz.func95, Tryz.ntmps95
    go_wp2_with fail
    refine U1.out.mono ?_
    rintro e w1 ⟨rfl, rfl⟩
    go_wp2_with fail
    refine U2.out.mono ?_
    rintro e w1 ⟨rfl, rfl⟩
    go_wp2
    go_ret3
    exact ⟨_, rfl, Own.nil _ _, Below.refl _ _⟩
  rw [if_neg h5]
  have h5' : ¬ (len : Int) - ((p : Int) + 8) < n := by omega
  obtain ⟨a1, hsl1, S1⟩ := slice_mid HS.out p (p + 4) (p : Int) ((p : Int) + 4) rfl (by omega) (by omega) (by omega)
  obtain ⟨a2, hsl2, S2⟩ := slice_mid HS.out (p + 8) (p + 8 + n) ((p : Int) + 8) ((p : Int) + 8 + (n : Int)) (by omega) (by omega) (by omega) (by omega)
  rw [show p + 4 - p = 4 by omega] at hsl1 S1
  rw [show p + 8 + n - (p + 8) = n by omega, ← HD.out] at S2
  rw [show p + 8 + n - (p + 8) = n by omega] at hsl2
  have HS1 := hide S1
  have HS2 := hide S2
  have CA := hide (fun v (hv : Below w.heap.size w v) => sum_any a1 4 (cap - p) _ v (S1.below hv) (HK.out.on hv))
  obtain ⟨t1, HT1⟩ : ∃ t1, Hid (crcE 0 ((xs.drop p).take 4) = t1) := ⟨_, hide rfl⟩
  have ht1 : t1 < 4294967296 := by rw [← HT1.out]; exact crE_lt _ _
  rw [HT1.out] at CA HC
  have CB := hide (fun v (hv : Below w.heap.size w v) => extend_any t1 a2 n (cap - (p + 8)) _ v ht1 (S2.below hv) (HK.out.on hv))
  rw [← HC.out] at CB
  obtain ⟨c, HCC⟩ : ∃ c, Hid (frC xs p = c) := ⟨_, hide rfl⟩
  rw [HCC.out] at CB
  rw [HCC.out]
  obtain ⟨d, HDD⟩ : ∃ d, Hid (frD xs p = d) := ⟨_, hide rfl⟩
  rw [HDD.out] at HS2
  rw [HDD.out]
  clear S1 S2 HD HC HK HS h5 h4
  have hb1 : (p : Int) + 8 + (n : Int) ≤ len := by omega
  by_cases h6 : c = s
  · rw [if_neg (by simp [h6])]
    have hcs : (c != s) = false := by simp [h6]
    clear h6
    go_enter Tryz.func95, Tryz.ntmps95
    go_wp2_with fail
    refine U1.out.mono ?_
    rintro e w1 ⟨rfl, rfl⟩
    go_wp2_with fail
    refine U2.out.mono ?_
    rintro e w1 ⟨rfl, rfl⟩
    go_wp2_with fail
    have nb0 : ∀ n, Below w.heap.size w (w.drewN n) := fun n => below_drews (Below.refl _ _) n
    go_quiet (first | (go_at_call 85; exact Calls.quiet_of_same ((CA.out _ (nb0 _)).mono fun _ _ h => ⟨h.1, h.2.symm⟩)) | (go_at_call 84; exact Calls.quiet_of_same ((CB.out _ (nb0 _)).mono fun _ _ h => ⟨h.1, h.2.symm⟩)))
    go_wp2_with fail
    refine (cloneF_any _ _ _ d _ (HS2.out.drewN nq)).mono ?_
    rintro e w3 ⟨v, rfl, ho, hb⟩
    go_wp2
    go_ret3
    exact ⟨v, rfl, ho, (nb0 nq).trans hb⟩
  · rw [if_pos (by simp [h6])]
    have hcs : (c != s) = true := by simp [h6]
    clear h6
    go_enter Tryz.func95, Tryz.ntmps95
    go_wp2_with fail
    refine U1.out.mono ?_
    rintro e w1 ⟨rfl, rfl⟩
    go_wp2_with fail
    refine U2.out.mono ?_
    rintro e w1 ⟨rfl, rfl⟩
    go_wp2_with fail
    have nb0 : ∀ n, Below w.heap.size w (w.drewN n) := fun n => below_drews (Below.refl _ _) n
    go_quiet (first | (go_at_call 85; exact Calls.quiet_of_same ((CA.out _ (nb0 _)).mono fun _ _ h => ⟨h.1, h.2.symm⟩)) | (go_at_call 84; exact Calls.quiet_of_same ((CB.out _ (nb0 _)).mono fun _ _ h => ⟨h.1, h.2.symm⟩)))
    go_wp2
    go_ret3
    exact ⟨_, rfl, Own.nil _ _, nb0 nq⟩

end Go.Proofs.YtninkkdbcgadpaaGreatDoor

/-
  The frames that lie in bytes, one behind the other, from the first byte on. No program here but the reading of one.
-/
namespace Go.Proofs.YtninkkdbcgadpaaGreatDoor
open Go.RowKit
set_option linter.unusedVariables false
set_option maxRecDepth 100000

/-- Where a frame is read: its data lie there, and the place behind it. -/
theorem frR_ok (xs : List Int) (p : Int) (hb : isB xs) (h : (frR xs p).2.2 = 0) : ∃ q n : Nat, p = (q : Int) ∧ q + 8 + n ≤ xs.length ∧ n ≤ 1048576 ∧ frN xs q = (n : Int) ∧ (frD xs q).length = n ∧ frC xs q = frS xs q ∧ frR xs p = (frD xs q, ((q + 8 + n : Nat) : Int), 0) := by
  unfold frR at h ⊢
  by_cases h1 : p < 0 ∨ (xs.length : Int) < p
  · rw [if_pos h1] at h; simp at h
  rw [if_neg h1] at h ⊢
  by_cases h2 : (xs.length : Int) - p < 8
  · rw [if_pos h2] at h; simp at h
  rw [if_neg h2] at h ⊢
  by_cases h3 : 1048576 < frN xs p.toNat
  · rw [if_pos h3] at h; simp at h
  rw [if_neg h3] at h ⊢
  by_cases h4 : (xs.length : Int) - p - 8 < frN xs p.toNat
  · rw [if_pos h4] at h; simp at h
  rw [if_neg h4] at h ⊢
  by_cases h5 : frC xs p.toNat ≠ frS xs p.toNat
  · rw [if_pos h5] at h; simp at h
  rw [if_neg h5]
  obtain ⟨q, rfl⟩ := Int.eq_ofNat_of_zero_le (show 0 ≤ p by omega)
  rw [Int.toNat_natCast] at *
  have bn := hb.at4 q (by omega)
  have bn2 : 0 ≤ frN xs q := bn.1
  obtain ⟨n, hn⟩ := Int.eq_ofNat_of_zero_le bn2
  rw [hn] at h3 h4 ⊢
  refine ⟨q, n, rfl, by omega, by omega, hn, ?_, by simpa using h5, by simp⟩
  unfold frD
  rw [hn, Int.toNat_natCast, List.length_take, List.length_drop]
  omega
/-- The frames of bytes: each with the place behind it and its data; the places; what stopped it. -/
structure Frs (xs : List Int) (L : List (Int × List Int)) (P : Nat → Nat) (E : Int) : Prop where
  p0 : P 0 = 0
  step : ∀ k, k < L.length → P k < xs.length ∧ frR xs (P k : Int) = ((L.getD k (0, [])).2, (P (k + 1) : Int), 0) ∧ (L.getD k (0, [])).1 = (P (k + 1) : Int)
  fin : (P L.length = xs.length ∧ E = 0) ∨ (P L.length < xs.length ∧ E ≠ 0 ∧ (frR xs (P L.length : Int)).2.2 = E)
theorem frs_from (xs : List Int) (hb : isB xs) : ∀ (m p : Nat), xs.length - p ≤ m → p ≤ xs.length → ∃ (L : List (Int × List Int)) (P : Nat → Nat) (E : Int), P 0 = p ∧
    (∀ k, k < L.length → P k < xs.length ∧ frR xs (P k : Int) = ((L.getD k (0, [])).2, (P (k + 1) : Int), 0) ∧ (L.getD k (0, [])).1 = (P (k + 1) : Int)) ∧
    ((P L.length = xs.length ∧ E = 0) ∨ (P L.length < xs.length ∧ E ≠ 0 ∧ (frR xs (P L.length : Int)).2.2 = E)) := by
  intro m
  induction m with
  | zero =>
    intro p h1 h2
    exact ⟨[], fun _ => p, 0, rfl, fun k hk => by simp at hk, .inl ⟨by show p = xs.length; omega, rfl⟩⟩
  | succ m ih =>
    intro p h1 h2
    by_cases hp : p = xs.length
    · exact ⟨[], fun _ => p, 0, rfl, fun k hk => by simp at hk, .inl ⟨hp, rfl⟩⟩
    by_cases he : (frR xs (p : Int)).2.2 = 0
    · obtain ⟨q, n, hq, hle, _, _, _, _, hR⟩ := frR_ok xs p hb he
      obtain rfl : q = p := by omega
      obtain ⟨L, P, E, h3, h4, h5⟩ := ih (q + 8 + n) (by omega) hle
      refine ⟨(((q + 8 + n : Nat) : Int), frD xs q) :: L, fun k => match k with | 0 => q | k + 1 => P k, E, rfl, ?_, h5⟩
      intro k hk
      cases k with
      | zero =>
        refine ⟨by show q < xs.length; omega, ?_, ?_⟩
        · show frR xs (q : Int) = (frD xs q, ((P 0 : Nat) : Int), 0)
          rw [h3, hR]
        · show ((q + 8 + n : Nat) : Int) = ((P 0 : Nat) : Int)
          rw [h3]
      | succ k => exact h4 k (by simpa using hk)
    · exact ⟨[], fun _ => p, _, rfl, fun k hk => by simp at hk, .inr ⟨by show p < xs.length; omega, he, rfl⟩⟩
theorem frs_any (xs : List Int) (hb : isB xs) : ∃ L P E, Frs xs L P E := by
  obtain ⟨L, P, E, h1, h2, h3⟩ := frs_from xs hb xs.length 0 (by omega) (by omega)
  exact ⟨L, P, E, h1, h2, h3⟩
theorem Frs.le {xs : List Int} {L : List (Int × List Int)} {P : Nat → Nat} {E : Int} (h : Frs xs L P E) (hb : isB xs) : ∀ k, k ≤ L.length → P k ≤ xs.length ∧ 8 * k ≤ P k := by
  intro k
  induction k with
  | zero => intro _; rw [h.p0]; omega
  | succ k ih =>
    intro hk
    have h1 := ih (by omega)
    obtain ⟨h2, h3, _⟩ := h.step k (by omega)
    obtain ⟨q, n, hq, hle, _, _, _, _, hR⟩ := frR_ok xs (P k : Int) hb (by rw [h3])
    rw [hR] at h3
    injection h3 with _ h3
    injection h3 with h3 _
    omega
theorem Frs.lt {xs : List Int} {L : List (Int × List Int)} {P : Nat → Nat} {E : Int} (h : Frs xs L P E) (hb : isB xs) (k : Nat) (hk : k < L.length) : P k < P (k + 1) := by
  obtain ⟨h2, h3, _⟩ := h.step k hk
  obtain ⟨q, n, hq, hle, _, _, _, _, hR⟩ := frR_ok xs (P k : Int) hb (by rw [h3])
  rw [hR] at h3
  injection h3 with _ h3
  injection h3 with h3 _
  omega
theorem Frs.few {xs : List Int} {L : List (Int × List Int)} {P : Nat → Nat} {E : Int} (h : Frs xs L P E) (hb : isB xs) : 8 * L.length ≤ xs.length := by
  have := h.le hb L.length (Nat.le_refl _)
  omega
/-- A frame's data. -/
theorem Frs.data {xs : List Int} {L : List (Int × List Int)} {P : Nat → Nat} {E : Int} (h : Frs xs L P E) (hb : isB xs) (k : Nat) (hk : k < L.length) : isB (L.getD k (0, [])).2 ∧ (L.getD k (0, [])).2.length ≤ xs.length := by
  obtain ⟨h2, h3, _⟩ := h.step k hk
  have e : (frR xs (P k : Int)).1 = (L.getD k (0, [])).2 := by rw [h3]
  rw [← e]
  obtain ⟨q, n, hq, hle, _, _, hl, _, hR⟩ := frR_ok xs (P k : Int) hb (by rw [h3])
  rw [hR]
  refine ⟨(hb.drop _).take _, ?_⟩
  show (frD xs q).length ≤ _
  omega

end Go.Proofs.YtninkkdbcgadpaaGreatDoor

/-
  A frame read at a place: the document's Read.
-/
namespace Go.Proofs.YtninkkdbcgadpaaGreatDoor
open Go.RowKit
set_option linter.unusedVariables false
set_option maxRecDepth 100000
set_option linter.unusedSimpArgs false

set_option maxHeartbeats 1000000 in
theorem readR11_any (a : Option Addr) (len cap : Nat) (xs : List Int) (p : Int) (w : World) (hs : Sl w a len cap xs) :
    Calls Tryz.prog 74 #[.slice a len cap, .int .i64 p] w fun e w' => ∃ v, e = .returned (.tuple #[v, .int .i64 (frR xs p).2.1, .int .i64 (frR xs p).2.2]) ∧ Own w' w.heap.size v (frR xs p).1 ∧ Below w.heap.size w w' := by
  have hlen := hs.hlen
  have hr := hs.hreach
  have hcap := hs.hcap
  unfold frR
  rw [hlen]
  by_cases h1 : p < 0
  · rw [if_pos (.inl h1)]
    clear hs hlen
    go_enter Tryz.func74, Tryz.ntmps74
    go_wp2
    go_ret3
    exact ⟨_, rfl, Own.nil _ _, Below.refl _ _⟩
  by_cases h2 : (len : Int) < p
  · rw [if_pos (.inr h2)]
    clear hs hlen
    go_enter Tryz.func74, Tryz.ntmps74
    go_wp2
    go_ret3
    exact ⟨_, rfl, Own.nil _ _, Below.refl _ _⟩
  rw [if_neg (by omega)]
  obtain ⟨p, rfl⟩ := Int.eq_ofNat_of_zero_le (show 0 ≤ p by omega)
  rw [Int.toNat_natCast]
  by_cases h3 : (len : Int) - p < 8
  · rw [if_pos h3]
    clear hs hlen
    go_enter Tryz.func74, Tryz.ntmps74
    go_wp2
    go_ret3
    exact ⟨_, rfl, Own.nil _ _, Below.refl _ _⟩
  rw [if_neg h3]
  have hp8 : p + 8 ≤ len := by omega
  have U1 := hide (readF_any a len cap xs (p : Int) 4 w hs (by omega) (by omega))
  have U2 := hide (readF_any a len cap xs ((p : Int) + 4) 4 w hs (by omega) (by omega))
  have e1 : rdV xs p 4 = frN xs p := by simp only [rdV, hlen]; rw [if_pos (by omega)]; simp [frN]
  have e2 : rdN len p 4 = p + 4 := by simp [rdN]; omega
  have e3 : rdE len p 4 = 0 := by simp [rdE]; omega
  have e4 : rdV xs ((p : Int) + 4) 4 = frS xs p := by simp only [rdV, hlen]; rw [if_pos (by omega)]; simp [frS]; rw [show ((p : Int) + 4).toNat = p + 4 by omega]
  have e5 : rdN len ((p : Int) + 4) 4 = (p : Int) + 8 := by simp [rdN]; omega
  have e6 : rdE len ((p : Int) + 4) 4 = 0 := by simp [rdE]; omega
  rw [e1, e2, e3] at U1
  rw [e4, e5, e6] at U2
  clear e1 e2 e3 e4 e5 e6
  have bN := hs.hbyte.at4 p (by omega)
  have bS := hs.hbyte.at4 (p + 4) (by omega)
  have hN : frN xs p = beVal ((xs.drop p).take 4) := rfl
  have hS : frS xs p = beVal ((xs.drop (p + 4)).take 4) := rfl
  rw [← hN] at bN
  rw [← hS] at bS
  clear hN hS
  obtain ⟨n, hn⟩ : ∃ n : Nat, frN xs p = (n : Int) := ⟨(frN xs p).toNat, by omega⟩
  have HD : Hid (frD xs p = (xs.drop (p + 8)).take n) := hide (by rw [frD, hn, Int.toNat_natCast])
  have HC : Hid (frC xs p = ((crcE (crcE 0 ((xs.drop p).take 4)) (frD xs p) : Nat) : Int)) := hide rfl
  have HS := hide hs
  rw [hn] at U1 bN ⊢
  obtain ⟨s, hs2⟩ : ∃ s : Int, frS xs p = s := ⟨_, rfl⟩
  rw [hs2] at U2 bS ⊢
  have h1' : ¬ ((p : Int) < 0) := by omega
  have h2' : ¬ ((len : Int) < (p : Int)) := by omega
  clear hn hs2 hs hlen h1 h2
  by_cases h4 : (1048576 : Int) < n
  · rw [if_pos h4]
    clear HD HC HS
    go_enter Tryz.func74, Tryz.ntmps74
    go_wp2_with fail
    refine U1.out.mono ?_
    rintro e w1 ⟨rfl, rfl⟩
    go_wp2_with fail
    refine U2.out.mono ?_
    rintro e w1 ⟨rfl, rfl⟩
    go_wp2
    go_ret3
    exact ⟨_, rfl, Own.nil _ _, Below.refl _ _⟩
  rw [if_neg h4]
  have hwn : IntKind.i64.wrap (n : Int) = (n : Int) := wrap_in _ (by omega) (by omega)
  have h4' : ¬ ((1048576 : Int) < n) := h4
  by_cases h5 : (len : Int) - p - 8 < n
  · rw [if_pos h5]
    clear HD HC HS
    go_enter Tryz.func74, Tryz.ntmps74
    go_wp2_with fail
    refine U1.out.mono ?_
    rintro e w1 ⟨rfl, rfl⟩
    go_wp2_with fail
    refine U2.out.mono ?_
    rintro e w1 ⟨rfl, rfl⟩
    go_wp2
    go_ret3
    exact ⟨_, rfl, Own.nil _ _, Below.refl _ _⟩
  rw [if_neg h5]
  have h5' : ¬ (len : Int) - (p : Int) - 8 < n := h5
  have hws : IntKind.u32.wrap s = s := by rw [IntKind.wrap_u32]; omega
  obtain ⟨a1, hsl1, S1⟩ := slice_mid HS.out p (p + 4) (p : Int) ((p : Int) + 4) rfl (by omega) (by omega) (by omega)
  obtain ⟨a2, hsl2, S2⟩ := slice_mid HS.out (p + 8) (p + 8 + n) ((p : Int) + 8) ((p : Int) + 8 + (n : Int)) (by omega) (by omega) (by omega) (by omega)
  rw [show p + 4 - p = 4 by omega] at hsl1 S1
  rw [show p + 8 + n - (p + 8) = n by omega, ← HD.out] at S2
  rw [show p + 8 + n - (p + 8) = n by omega] at hsl2
  have HS2 := hide S2
  have CA := hide (sumR_any a1 4 (cap - p) _ w S1)
  obtain ⟨t1, HT1⟩ : ∃ t1, Hid (crcE 0 ((xs.drop p).take 4) = t1) := ⟨_, hide rfl⟩
  have ht1 : t1 < 4294967296 := by rw [← HT1.out]; exact crE_lt _ _
  rw [HT1.out] at CA HC
  have CB := hide (extendR_any t1 a2 n (cap - (p + 8)) _ w ht1 S2)
  rw [← HC.out] at CB
  obtain ⟨c, HCC⟩ : ∃ c, Hid (frC xs p = c) := ⟨_, hide rfl⟩
  rw [HCC.out] at CB
  rw [HCC.out]
  obtain ⟨d, HDD⟩ : ∃ d, Hid (frD xs p = d) := ⟨_, hide rfl⟩
  rw [HDD.out] at HS2
  rw [HDD.out]
  clear S1 S2 HD HC HS h5 h4
  have hb1 : (p : Int) + 8 + (n : Int) ≤ len := by omega
  by_cases h6 : c = s
  · rw [if_neg (by simp [h6])]
    have hcs : (s != c) = false := by simp [h6]
    clear h6
    go_enter Tryz.func74, Tryz.ntmps74
    go_wp2_with fail
    refine U1.out.mono ?_
    rintro e w1 ⟨rfl, rfl⟩
    go_wp2_with fail
    refine U2.out.mono ?_
    rintro e w1 ⟨rfl, rfl⟩
    go_wp2_with fail
    refine CA.out.mono ?_
    rintro e w1 ⟨rfl, rfl⟩
    go_wp2_with fail
    refine CB.out.mono ?_
    rintro e w1 ⟨rfl, rfl⟩
    have ho0 : Own (w.alloc (.cells #[] 5)) w.heap.size (.slice (some ⟨w.heap.size, 0, none⟩) 0 0) [] := Own.of_blkF (xs := []) (Blk.made w 5 []) (Nat.le_refl _) (by simp)
    have hb0 : Below w.heap.size w (w.alloc (.cells #[] 5)) := (Below.refl _ _).alloc (Nat.le_refl _) _
    go_wp2_with (refine step_append rfl rfl rfl ho0 (HS2.out.below hb0) (by simp; omega) (by simp) ?_)
    intro v1 w1 ho1 hg1 hn1
    have hbb : Below w.heap.size w w1 := hb0.trans (Below.of_grown hg1 hb0.size ho0.lt)
    rw [List.nil_append] at ho1
    go_wp2
    go_ret3
    exact ⟨v1, rfl, ho1, hbb⟩
  · rw [if_pos (by simp [h6])]
    have hcs : (s != c) = true := by simp; exact fun e => h6 e.symm
    clear h6
    go_enter Tryz.func74, Tryz.ntmps74
    go_wp2_with fail
    refine U1.out.mono ?_
    rintro e w1 ⟨rfl, rfl⟩
    go_wp2_with fail
    refine U2.out.mono ?_
    rintro e w1 ⟨rfl, rfl⟩
    go_wp2_with fail
    refine CA.out.mono ?_
    rintro e w1 ⟨rfl, rfl⟩
    go_wp2_with fail
    refine CB.out.mono ?_
    rintro e w1 ⟨rfl, rfl⟩
    go_wp2
    go_ret3
    exact ⟨_, rfl, Own.nil _ _, Below.refl _ _⟩

end Go.Proofs.YtninkkdbcgadpaaGreatDoor

/-
  Bytes of the call's own that are written over; bytes as texts; what the laws of frame have in common.
-/
namespace Go.Proofs.YtninkkdbcgadpaaGreatDoor
open Go.RowKit
set_option linter.unusedVariables false
set_option maxRecDepth 100000
set_option linter.unusedSimpArgs false

theorem str_5aW (xs : List Int) : str xs ++ { data := #[90] } = str (xs ++ [90]) := (str_append xs [90])
theorem one_slW (w : World) (x : Int) (hx : 0 ≤ x ∧ x ≤ 255) : Sl (w.alloc (.cells #[.int .u8 x] 5)) (some ⟨w.heap.size, 0, none⟩) 1 1 [x] :=
  (Blk.made w 5 (u8s [x])).sl0 (by intro y hy; simp at hy; omega) (by simp)
theorem Own.but {w w' : World} {B k : Nat} {v : Value} {xs : List Int} (h : Own w B v xs) (hb : But k w w') (hk : v.ownBlock ≠ some k) : Own w' B v xs := by
  obtain ⟨h1, h2⟩ := h
  refine ⟨h1, ?_⟩
  rcases h2 with h2 | ⟨g, cap, cur, e, hg, hh, r⟩
  · exact .inl h2
  · refine .inr ⟨g, cap, cur, e, hg, ?_, r⟩
    subst e
    rw [hb.block g (fun e => hk (by rw [← e]; rfl))]
    exact hh
/-- Only the block of a slice of the call's own has turned, if any. -/
def Spo (v : Value) (w w' : World) : Prop := w' = w ∨ ∃ g, v.ownBlock = some g ∧ But g w w'
theorem Spo.own {w w' : World} {B B2 : Nat} {u v : Value} {xs ys : List Int} (h : Spo v w w') (hv : ∀ k, v.ownBlock = some k → k < B2) (ho : Own w B2 u ys) : Own w' B2 u ys := by
  rcases h with rfl | ⟨g, hg, hb⟩
  · exact ho
  · refine ho.but hb fun e => ?_
    have h1 := hv g hg
    have h2 := ho.lt g e
    omega
theorem Spo.below {w0 w w' : World} {v : Value} (h : Spo v w w') (hv : ∀ k, v.ownBlock = some k → w0.heap.size ≤ k) (hb : Below w0.heap.size w0 w) : Below w0.heap.size w0 w' := by
  rcases h with rfl | ⟨g, hg, hbut⟩
  · exact hb
  · exact hb.trans (hbut.below (hv g hg))
theorem Spo.sl {w w' : World} {B : Nat} {v : Value} (h : Spo v w w') (hv : ∀ k, v.ownBlock = some k → B ≤ k) {a : Option Addr} {len cap : Nat} {xs : List Int} (hs : Sl w a len cap xs) (ha : 0 < len → ∀ x, a = some x → x.block < B) : Sl w' a len cap xs := by
  rcases h with rfl | ⟨g, hg, hbut⟩
  · exact hs
  · exact hs.but hbut fun h0 x hx e => by have := ha h0 x hx; have := hv g hg; omega
theorem Own.lt2 {w : World} {B : Nat} {v : Value} {xs : List Int} (h : Own w B v xs) : ∀ k, v.ownBlock = some k → k < w.heap.size := fun k hk => (World.ownsRow.lt h k hk).2
theorem Chg.of_grown {g : Nat} {w w' : World} (h : w.grownBy w' (some g)) : Chg g w w' := ⟨h.os, h.tape, h.output, h.size, fun k hk hg => h.block k hk (fun e => hg (Option.some.inj e))⟩
theorem Own.mono {w : World} {B B' : Nat} {v : Value} {xs : List Int} (h : Own w B v xs) (hb : B' ≤ B) : Own w B' v xs := by
  obtain ⟨h1, h2⟩ := h
  refine ⟨h1, ?_⟩
  rcases h2 with h2 | ⟨g, cap, cur, e, hg, r⟩
  · exact .inl h2
  · exact .inr ⟨g, cap, cur, e, Nat.le_trans hb hg, r⟩
theorem toStrO {w : World} {B : Nat} {a : Option Addr} {n cap : Nat} {xs : List Int} (h : Own w B (.slice a n cap) xs) : (convert 39 9 (.slice a n cap)).run Tryz.prog w = .ok (.string (str xs)) w := by
  rcases h.2 with ⟨e, hx⟩ | ⟨g, cap', cur, e, hB, hh, h3, h4, h5, h6⟩
  · injection e with e1 e2 e3
    subst e1
    obtain rfl : xs = [] := List.eq_nil_of_length_eq_zero hx
    exact run_convert_bytes_nil w 39 5 undBs undB n cap 9 undS
  · injection e with e1 e2 e3
    subst e1 e2 e3
    refine run_convert_bytes_arg w 39 5 undBs undB g 0 xs.length cap xs rfl (fun i hi => ?_) 9 undS
    rw [Nat.zero_add, cell_of_row w g i cur 5 (0, 0) hh]
    have e : (cur.toList.take (xs.length * 1))[i]? = some (.int .u8 (xs.getD i 0)) := by rw [h6]; exact u8s_get xs i hi
    rw [List.getElem?_take, if_pos (by omega)] at e
    simpa using e
section
variable {dst : Option Tmp} {ty : TypeId} {pos : String} {aft : Array Edge} {gd : Option (Nat × Bool)} {ops : Array Oper} {rest : List Oper} {a : Act} {w : World} {K : Act → World → Prop} {Q : Exit → Act → World → Prop}
theorem step_toStrO {x : Operand} {sa : Option Addr} {m c B : Nat} {ys : List Int} (hw : Region.wanted ⟨dst, .convert 39 9 x, ty, pos, aft, gd⟩ (yielded ops a.tmps) = true)
    (hx : a.eval x = .slice sa m c) (hy : Own w B (.slice sa m c) ys) (h : wpList Tryz.prog ops Q rest (a.put dst (.string (str ys))) w) :
    wpList Tryz.prog ops Q (⟨dst, .convert 39 9 x, ty, pos, aft, gd⟩ :: rest) a w :=
  step_run hw (.string (str ys)) w (by simp [execOp, hx, toStrO hy, Result.andThen]) h
theorem wp_toStrO {x : Operand} {sa : Option Addr} {m c B : Nat} {ys : List Int} (hx : a.eval x = .slice sa m c) (hy : Own w B (.slice sa m c) ys) (h : K (a.put dst (.string (str ys))) w) :
    Oper.wp Tryz.prog ⟨dst, .convert 39 9 x, ty, pos, aft, gd⟩ a w K Q :=
  wp_runV (.string (str ys)) w (by simp [execOp, hx, toStrO hy, Result.andThen]) h
theorem run_addSF {x y : Operand} {p q : ByteArray} {xs ys : List Int} (hx : a.eval x = .string p) (hy : a.eval y = .string q) (ex : p = str xs) (ey : q = str ys) (hl : xs.length + ys.length ≤ 9223372036854775807) :
    (execOp a.eval ⟨dst, .binOp .add 9 x y 9, ty, pos, aft, gd⟩).run Tryz.prog w = .ok (.value (.string (str (xs ++ ys)))) w := by
  subst ex ey
  have h1 : ¬ 9223372036854775807 < (str xs).size + (str ys).size := by rw [str_size, str_size]; omega
  unfold execOp
  simp only [hx, hy]
  simp [go_sem, h1]
  rw [str_append]
end

end Go.Proofs.YtninkkdbcgadpaaGreatDoor

/-
  Slices of the call's own whose elements take one cell each: an element's place, one more appended; what belongs to none of another kind.
-/
namespace Go.Proofs.YtninkkdbcgadpaaGreatDoor
open Go.RowKit
set_option linter.unusedVariables false
set_option maxRecDepth 100000

/-- What is known of a type of slices of elements of one cell. -/
structure Tin (L T : TypeId) (z : Value) (b : Nat) : Prop where
  und : Tryz.prog.underlying L = some (.slice T)
  info : (Tryz.prog.info? T).map (fun i => (i.zero, i.size, i.bytes)) = some (some z, 1, b)
  elem : Tryz.prog.elem L = T
  size : ∀ w : World, (sizeOf T).run Tryz.prog w = .ok 1 w
  one : z.cells = #[z]
  pos : 0 < b
  few : b ≤ 24
  build : ∀ (u : Value) (w : World), u.oneCell' = true → (Instr.buildSlice L 1 #[(0, u)]).run Tryz.prog w = .ok (.slice (some ⟨w.heap.size, 0, none⟩) 1 1) (w.alloc (.cells #[u] T))
theorem info_some {P : Program} {t : TypeId} {z : Option Value} {s b : Nat} (h : (P.info? t).map (fun i => (i.zero, i.size, i.bytes)) = some (z, s, b)) : ∃ i, P.info? t = some i ∧ i.zero = z ∧ i.size = s ∧ i.bytes = b := by
  cases hi : P.info? t with
  | none => simp [hi] at h
  | some i => simp [hi] at h; exact ⟨i, rfl, h.1, h.2.1, h.2.2⟩
theorem cells_one {u : Value} (h : u.oneCell' = true) : u.cells = #[u] := by
  cases u <;> simp_all [Value.oneCell', Value.cells]
theorem build_by (L T : TypeId) (z : Value) (b : Nat) (hu : Tryz.prog.underlying L = some (.slice T)) (hi : (Tryz.prog.info? T).map (fun i => (i.zero, i.size, i.bytes)) = some (some z, 1, b)) (hz : z.cells = #[z]) (hb : b ≤ 24)
    (u : Value) (w : World) (h1 : u.oneCell' = true) : (Instr.buildSlice L 1 #[(0, u)]).run Tryz.prog w = .ok (.slice (some ⟨w.heap.size, 0, none⟩) 1 1) (w.alloc (.cells #[u] T)) := by
  obtain ⟨i0, hi, hz0, hz1, hz2⟩ := info_some hi
  refine run_buildSlice w L T 1 _ _ i0 _ hu hi hz0 (by rw [hz1]; decide) (by rw [hz1]; decide) ?_
  rw [hz1]
  have e0 : ((Array.range (1 * 1)).map (z.cells[· % z.cells.size]!)) = [z].toArray := by rw [hz]; simp [Array.range_succ, Array.range_zero']
  rw [e0]
  show Instr.fill _ _ [(0, u)] = _
  rw [fill_cons (place := fun i => some (i * 1, 1)) (off := 0) (size := 1) (vs := [u]) rfl (cells_one h1) rfl (by simp), fill_nil]
  rfl
theorem tinI : Tin 77 3 (.int .i64 0) 8 := ⟨by kernel_rfl, by kernel_rfl, by kernel_rfl, fun _ => by kernel_rfl, rfl, by decide, by decide, fun u w h => build_by _ _ (.int .i64 0) 8 (by kernel_rfl) (by kernel_rfl) rfl (by decide) u w h⟩
theorem tinB : Tin 48 39 (.slice none 0 0) 24 := ⟨by kernel_rfl, by kernel_rfl, by kernel_rfl, fun _ => by kernel_rfl, rfl, by decide, by decide, fun u w h => build_by _ _ (.slice none 0 0) 24 (by kernel_rfl) (by kernel_rfl) rfl (by decide) u w h⟩

/-- A slice of the call's own that holds these values. -/
def OwnV (T : TypeId) (w : World) (B : Nat) (v : Value) (ns : List Value) : Prop := One ns ∧ w.ownsRow B T 1 v ns.length ns
section
variable {T : TypeId} {w w' : World} {B B' : Nat} {v : Value} {ns : List Value}
theorem OwnV.nil (T : TypeId) (w : World) (B : Nat) : OwnV T w B (.slice none 0 0) [] := ⟨(fun _ h => by cases h), World.ownsRow_nil _ _ _ _⟩
theorem OwnV.below (h : OwnV T w B v ns) (hb : Below w.heap.size w w') : OwnV T w' B v ns := by
  obtain ⟨h0, h1, h2⟩ := h
  refine ⟨h0, h1, ?_⟩
  rcases h2 with h2 | ⟨g, cap, cur, e, hg, hh, r⟩
  · exact .inl h2
  · refine .inr ⟨g, cap, cur, e, hg, ?_, r⟩
    rw [hb.block g (Array.getElem?_eq_some_iff.1 hh).1]
    exact hh
theorem OwnV.mono (h : OwnV T w B v ns) (hb : B' ≤ B) : OwnV T w B' v ns := by
  obtain ⟨h0, h1, h2⟩ := h
  refine ⟨h0, h1, ?_⟩
  rcases h2 with h2 | ⟨g, cap, cur, e, hg, r⟩
  · exact .inl h2
  · exact .inr ⟨g, cap, cur, e, Nat.le_trans hb hg, r⟩
theorem OwnV.lt (h : OwnV T w B v ns) : ∀ k, v.ownBlock = some k → B ≤ k ∧ k < w.heap.size := fun k hk => World.ownsRow.lt h.2 k hk
theorem OwnV.kept {row : Option Nat} (h : OwnV T w B v ns) (hg : w.grownBy w' row) (hr : v.ownBlock = none ∨ v.ownBlock ≠ row) : OwnV T w' B v ns := ⟨h.1, World.ownsRow.kept h.2 hg hr⟩
/-- What it is, and where its elements lie. -/
theorem OwnV.lies (h : OwnV T w B v ns) : (v = .slice none 0 0 ∧ ns = []) ∨ ∃ g cap cs, v = .slice (some ⟨g, 0, none⟩) ns.length cap ∧ B ≤ g ∧ Blk w g T cs ∧ ns.length ≤ cap ∧ cs.take ns.length = ns := by
  obtain ⟨h0, h1, h2⟩ := h
  rcases h2 with ⟨e, h3⟩ | ⟨g, cap, cur, rfl, hB, hh, h3, h4, h5, h6⟩
  · exact .inl ⟨e, List.eq_nil_of_length_eq_zero h3⟩
  · exact .inr ⟨g, cap, cur.toList, rfl, hB, by unfold Blk; simpa using hh, h3, by simpa using h6⟩
theorem OwnV.slice (h : OwnV T w B v ns) : ∃ a c, v = .slice a ns.length c := by
  rcases h.lies with ⟨rfl, rfl⟩ | ⟨g, cap, cs, rfl, _⟩
  · exact ⟨none, 0, rfl⟩
  · exact ⟨_, cap, rfl⟩
theorem OwnV.cell {a : Option Addr} {n c : Nat} (h : OwnV T w B (.slice a n c) ns) (i : Nat) (hi : i < ns.length) : ∃ g, a = some ⟨g, 0, none⟩ ∧ B ≤ g ∧ w.cell? ⟨g, i, none⟩ = ns[i]? := by
  rcases h.lies with ⟨_, rfl⟩ | ⟨g, cap, cs, e, hB, hb, hl, ht⟩
  · simp at hi
  · injection e with e1 _ _
    refine ⟨g, e1, hB, ?_⟩
    rw [hb.cell]
    have := congrArg (fun l => l[i]?) ht
    simp only [List.getElem?_take, if_pos hi] at this
    exact this
end
/-- Rows of elements of two kinds are two rows. -/
theorem own_ne {w : World} {B B' : Nat} {e e' : TypeId} {s s' n m : Nat} {u v : Value} {xs ys : List Value} (h : w.ownsRow B e s u n xs) (h' : w.ownsRow B' e' s' v m ys) (hne : e ≠ e') : u.ownBlock = none ∨ u.ownBlock ≠ v.ownBlock := by
  rcases h.2 with ⟨rfl, _⟩ | ⟨g, cap, cur, rfl, _, hh, _⟩
  · exact .inl rfl
  · right
    rcases h'.2 with ⟨rfl, _⟩ | ⟨g', cap', cur', rfl, _, hh', _⟩
    · intro e; cases e
    · intro e
      injection e with e
      subst e
      rw [hh] at hh'
      injection hh' with hh'
      injection hh' with _ h2 _
      exact hne h2
theorem OwnV.ne {T T' : TypeId} {w : World} {B B' : Nat} {u v : Value} {ns ms : List Value} (h : OwnV T w B u ns) (h' : OwnV T' w B' v ms) (hne : T ≠ T') : u.ownBlock = none ∨ u.ownBlock ≠ v.ownBlock := own_ne h.2 h'.2 hne
theorem Own.ne {T : TypeId} {w : World} {B B' : Nat} {u v : Value} {xs : List Int} {ms : List Value} (h : Own w B u xs) (h' : OwnV T w B' v ms) (hne : 5 ≠ T) : u.ownBlock = none ∨ u.ownBlock ≠ v.ownBlock := own_ne h h'.2 hne
theorem Own.kept {w w' : World} {B : Nat} {v : Value} {xs : List Int} {row : Option Nat} (h : Own w B v xs) (hg : w.grownBy w' row) (hr : v.ownBlock = none ∨ v.ownBlock ≠ row) : Own w' B v xs := World.ownsRow.kept h hg hr
theorem Tin.at {L T : TypeId} {z : Value} {by' : Nat} (t : Tin L T z by') (b n cap i : Nat) (I : Int) (hI : I = (i : Int)) (hi : i < n) (v : World) : (Instr.indexAt L (.slice (some ⟨b, 0, none⟩) n cap) (.int .i64 I)).run Tryz.prog v = .ok (.pointer (some ⟨b, i, none⟩)) v := by
  subst hI
  have hu : Tryz.prog.underlying L = some (.slice (Tryz.prog.elem L)) := by rw [t.elem]; exact t.und
  rw [run_indexAt_slice v _ _ _ _ .i64 i hu, if_pos ⟨by omega, by omega⟩, t.elem, t.size]
  simp only [Result.andThen_ok, Int.toNat_natCast]
  rw [Addr.add_lit, Nat.zero_add, Nat.mul_one]
section
variable {L T : TypeId} {z : Value} {by' : Nat} {dst : Option Tmp} {ty : TypeId} {pos : String} {aft : Array Edge} {gd : Option (Nat × Bool)} {ops : Array Oper} {rest : List Oper} {a : Act} {w : World} {K : Act → World → Prop} {Q : Exit → Act → World → Prop}
set_option maxRecDepth 100000 in
theorem step_one1 (t : Tin L T z by') {x : Operand} {u : Value} (hu : u.oneCell' = true) (hw : Region.wanted ⟨dst, .buildSlice L 1 #[(0, x)], ty, pos, aft, gd⟩ (yielded ops a.tmps) = true) (hx : a.eval x = u)
    (h : ∀ w1 g, Blk w1 g T [u] → w.heap.size ≤ g → Below w.heap.size w w1 → wpList Tryz.prog ops Q rest (a.put dst (.slice (some ⟨g, 0, none⟩) 1 1)) w1) :
    wpList Tryz.prog ops Q (⟨dst, .buildSlice L 1 #[(0, x)], ty, pos, aft, gd⟩ :: rest) a w := by
  refine step_run hw (.slice (some ⟨w.heap.size, 0, none⟩) 1 1) (w.alloc (.cells [u].toArray T)) ?_ (h _ _ (Blk.made _ _ _) (Nat.le_refl _) ((Below.refl _ _).alloc (Nat.le_refl _) _))
  unfold execOp
  simp only [List.map_toArray, List.map_cons, List.map_nil, hx]
  simp only [Sem.run_bind, t.build u w hu, Result.andThen_ok, Sem.run_pure]
theorem step_app1 (t : Tin L T z by') {s x : Operand} {B : Nat} {v u : Value} {ns : List Value} {g c : Nat} (hu : u.oneCell' = true) (hw : Region.wanted ⟨dst, .call { callee := .builtin .append, args := #[s, x], argTypes := #[L, L] }, ty, pos, aft, gd⟩ (yielded ops a.tmps) = true)
    (hs : a.eval s = v) (hx : a.eval x = .slice (some ⟨g, 0, none⟩) 1 c) (hown : OwnV T w B v ns) (hy : Blk w g T [u]) (hlen : ns.length ≤ 1048576) (hB : B ≤ w.heap.size)
    (h : ∀ v' w', OwnV T w' B v' (ns ++ [u]) → w.grownBy w' v.ownBlock → wpList Tryz.prog ops Q rest (a.put dst v') w') :
    wpList Tryz.prog ops Q (⟨dst, .call { callee := .builtin .append, args := #[s, x], argTypes := #[L, L] }, ty, pos, aft, gd⟩ :: rest) a w := by
  obtain ⟨i0, hi, hz0, hz1, hz2⟩ := info_some t.info
  have hone : One [u] := fun q hq => by simp at hq; rw [hq]; exact hu
  obtain ⟨g', cap', w', hr, ho, hgr, hat, hlt⟩ := run_append_lies (P := Tryz.prog) w L ty B T i0 z 1 by' t.und hi hz0 hz1 hz2 (by rw [t.one]; rfl) (by decide) v _ _ hown.2 ⟨g, 0, none⟩ 1 c [u] rfl (fun j q hq => by
    rw [Addr.add_lit, Nat.zero_add, hy.cell]
    exact hq) hone (by decide) (by unfold maxLen; omega) (by have := t.few; have : (ns.length + 1) * by' ≤ (ns.length + 1) * 24 := Nat.mul_le_mul_left _ this; omega) hB _ rfl
  refine step_run hw (.slice (some ⟨g', 0, none⟩) (ns.length + 1) cap') w' (by simp [execOp, resolve, invoke, builtin, hs, hx, hr, Result.andThen]) (h _ _ ⟨hown.1.app hone, by rw [List.length_append]; exact ho⟩ hgr)
end

end Go.Proofs.YtninkkdbcgadpaaGreatDoor

/-
  The frames of bytes: the document's All and Whole.
-/
namespace Go.Proofs.YtninkkdbcgadpaaGreatDoor
open Go.RowKit
set_option linter.unusedVariables false
set_option maxRecDepth 100000
set_option linter.unusedSimpArgs false

/-- Slices of bytes of the call's own, one for each of these. -/
def Cts (W : World) (B : Nat) (vs : List Value) (ds : List (List Int)) : Prop := vs.length = ds.length ∧ ∀ i, i < ds.length → Own W B (vs.getD i undef) (ds.getD i [])
theorem Cts.nil (W : World) (B : Nat) : Cts W B [] [] := ⟨rfl, fun i hi => by simp at hi⟩
theorem Cts.below {W W' : World} {B : Nat} {vs : List Value} {ds : List (List Int)} (h : Cts W B vs ds) (hb : Below W.heap.size W W') : Cts W' B vs ds := ⟨h.1, fun i hi => (h.2 i hi).below hb⟩
theorem Cts.snoc {W : World} {B : Nat} {vs : List Value} {ds : List (List Int)} {u : Value} {d : List Int} (h : Cts W B vs ds) (hu : Own W B u d) : Cts W B (vs ++ [u]) (ds ++ [d]) := by
  refine ⟨by simp [h.1], fun i hi => ?_⟩
  by_cases hk : i < ds.length
  · have := h.2 i hk
    simpa [List.getD, List.getElem?_append_left hk, List.getElem?_append_left (show i < vs.length by rw [h.1]; exact hk)] using this
  · obtain rfl : i = ds.length := by simp at hi; omega
    have e1 : (vs ++ [u]).getD ds.length undef = u := by rw [← h.1]; simp [List.getD]
    have e2 : (ds ++ [d]).getD ds.length [] = d := by simp [List.getD]
    rw [e1, e2]
    exact hu
theorem Cts.kept {T : TypeId} {W W' : World} {B B' : Nat} {vs : List Value} {ds : List (List Int)} {v : Value} {ns : List Value} (h : Cts W B vs ds) (ho : OwnV T W B' v ns) (hT : 5 ≠ T) (hg : W.grownBy W' v.ownBlock) : Cts W' B vs ds :=
  ⟨h.1, fun i hi => (h.2 i hi).kept hg ((h.2 i hi).ne ho hT)⟩
/-- The ends of frames, as cells. -/
def eC (L : List (Int × List Int)) : List Value := L.map fun x => .int .i64 x.1
def dLF (L : List (Int × List Int)) : List (List Int) := L.map (·.2)
theorem eC_length (L : List (Int × List Int)) : (eC L).length = L.length := by simp [eC]
theorem dL_length (L : List (Int × List Int)) : (dLF L).length = L.length := by simp [dLF]
theorem take_snocL (L : List (Int × List Int)) (k : Nat) (h : k < L.length) : L.take (k + 1) = L.take k ++ [L.getD k (0, [])] := by
  rw [List.take_succ_eq_append_getElem h]
  simp [List.getD, h]
theorem eC_snoc (L : List (Int × List Int)) (k : Nat) (h : k < L.length) : eC (L.take (k + 1)) = eC (L.take k) ++ [.int .i64 (L.getD k (0, [])).1] := by
  rw [take_snocL L k h]; simp [eC]
theorem dL_snoc (L : List (Int × List Int)) (k : Nat) (h : k < L.length) : dLF (L.take (k + 1)) = dLF (L.take k) ++ [(L.getD k (0, [])).2] := by
  rw [take_snocL L k h]; simp [dLF]
theorem Own.one {w : World} {B : Nat} {v : Value} {xs : List Int} (h : Own w B v xs) : v.oneCell' = true := by
  rcases h.2 with ⟨rfl, _⟩ | ⟨g, cap, cur, rfl, _⟩ <;> rfl
/-- What is told of all frames. -/
structure Tld (w W : World) (o e : Value) (vs : List Value) (L : List (Int × List Int)) : Prop where
  out : OwnV 39 W w.heap.size o vs
  cts : Cts W w.heap.size vs (dLF L)
  ends : OwnV 3 W w.heap.size e (eC L)
  bel : Below w.heap.size w W
set_option maxHeartbeats 1000000 in
theorem allR_any (a : Option Addr) (len cap : Nat) (xs : List Int) (L : List (Int × List Int)) (P : Nat → Nat) (E : Int) (w : World) (hs : Sl w a len cap xs) (hl : len ≤ 1048576) (hF : Frs xs L P E) :
    Calls Tryz.prog 41 #[.slice a len cap] w fun r w' => ∃ o e vs, r = .returned (.tuple #[o, e, .int .i64 E]) ∧ Tld w w' o e vs L := by
  have HS := hide hs
  have HX := hide hs.hlen
  have HB := hide hs.hbyte
  have HF := hide hF
  have hfew := hF.few hs.hbyte
  have hlL : L.length ≤ 1048576 := by have := hs.hlen; omega
  clear hs hF hfew
  go_enter Tryz.func41, Tryz.ntmps41
  go_wp2
  go_loopw [5, 6, 7] (fun o e p wr => ∃ (k : Nat) (vs : List Value), k ≤ L.length ∧ p = .int .i64 (P k : Int) ∧ Hid (Tld w wr o e vs (L.take k))) (fun _ _ p _ => len - (intOf p).toNat)
  case atStart => exact ⟨0, [], Nat.zero_le _, by rw [HF.out.p0]; rfl, hide ⟨OwnV.nil _ _ _, Cts.nil _ _, OwnV.nil _ _ _, Below.refl _ _⟩⟩
  case round =>
    obtain ⟨k, vs, hk, rfl, HT⟩ := hrel
    have hle := HF.out.le HB.out k hk
    rw [HX.out] at hle
    obtain ⟨hle1, hle2⟩ := hle
    obtain ⟨p, HP⟩ : ∃ p, Hid (P k = p) := ⟨_, hide rfl⟩
    have HR := hide (fun v (hv : Below w.heap.size w v) => readR11_any a len cap xs (P k : Int) v (HS.out.below hv))
    by_cases hlt : k < L.length
    · obtain ⟨h1, h2, h3⟩ := HF.out.step k hlt
      have HDT := hide (HF.out.data HB.out k hlt)
      have hPl := HF.out.lt HB.out k hlt
      have hPl2 := (HF.out.le HB.out (k + 1) hlt).1
      rw [HX.out] at h1 hPl2
      rw [h2] at HR
      have HEC := hide (eC_snoc L k hlt)
      have HDC := hide (dL_snoc L k hlt)
      rw [h3] at HEC
      obtain ⟨d, HD⟩ : ∃ d, Hid ((L.getD k (0, [])).2 = d) := ⟨_, hide rfl⟩
      rw [HD.out] at HR HDC HDT
      obtain ⟨q, HQ⟩ : ∃ q, Hid (P (k + 1) = q) := ⟨_, hide rfl⟩
      rw [HQ.out] at HR HEC hPl hPl2
      rw [HP.out] at HR h1 hPl hle1 hle2
      rw [HP.out]
      clear h2 h3
      have hlt' : (p : Int) < (len : Int) := by omega
      go_wp2_with fail
      refine (HR.out _ HT.out.bel).mono ?_
      rintro _ w1 ⟨v, rfl, ho, hb⟩
      have O1 := hide (ho.mono HT.out.bel.size)
      have T1 : Hid (Tld w w1 u5 u6 vs (L.take k)) := hide ⟨HT.out.out.below hb, HT.out.cts.below hb, HT.out.ends.below hb, on_below HT.out.bel hb⟩
      have hone := ho.one
      have hvl : vs.length ≤ 1048576 := by rw [HT.out.cts.1, dL_length, List.length_take]; omega
      clear ho hb HT HR
      go_wp2_with (refine step_one1 tinB hone rfl rfl ?_)
      intro w2 g2 hg2 hl2 hb2
      have T2 : Hid (Tld w w2 u5 u6 vs (L.take k)) := hide ⟨T1.out.out.below hb2, T1.out.cts.below hb2, T1.out.ends.below hb2, on_below T1.out.bel hb2⟩
      have O2 := hide (O1.out.below hb2)
      have G2 := hide hg2
      clear hg2 hb2 T1 O1
      go_wp2_with (refine step_app1 tinB hone rfl rfl rfl T2.out.out G2.out hvl T2.out.bel.size ?_)
      intro o3 w3 ho3 hg3
      have b3 := T2.out.bel.trans (Below.of_grown hg3 T2.out.bel.size (fun r e => (T2.out.out.lt r e).1))
      have c3 := (T2.out.cts.snoc O2.out).kept T2.out.out (by decide) hg3
      have e3 := T2.out.ends.kept hg3 (T2.out.ends.ne T2.out.out (by decide))
      have O3 := hide ho3
      have C3 := hide c3
      have E3 := hide e3
      have B3 := hide b3
      rw [← HDC.out] at C3
      clear ho3 hg3 c3 e3 b3 T2 O2 G2 hl2
      go_wp2_with (refine step_one1 tinI (u := .int .i64 (q : Int)) rfl rfl rfl ?_)
      intro w4 g4 hg4 hl4 hb4
      have O4 := hide (O3.out.below hb4)
      have C4 := hide (C3.out.below hb4)
      have E4 := hide (E3.out.below hb4)
      have B4 := hide (on_below B3.out hb4)
      have G4 := hide hg4
      clear hg4 hb4 O3 C3 E3 B3
      go_wp2_with (refine step_app1 tinI (u := .int .i64 (q : Int)) rfl rfl rfl rfl E4.out G4.out (by rw [eC_length, List.length_take]; omega) B4.out.size ?_)
      intro e5 w5 ho5 hg5
      have b5 := B4.out.trans (Below.of_grown hg5 B4.out.size (fun r e => (E4.out.lt r e).1))
      have c5 := C4.out.kept E4.out (by decide) hg5
      have o5 := O4.out.kept hg5 (O4.out.ne E4.out (by decide))
      rw [← HEC.out] at ho5
      have T5 : Hid (Tld w w5 o3 e5 (vs ++ [v]) (L.take (k + 1))) := hide ⟨o5, c5, ho5, b5⟩
      clear b5 c5 o5 ho5 hg5 O4 C4 E4 B4 G4
      go_wp2
      go_roundw
      case rel => exact ⟨k + 1, vs ++ [v], hlt, by rw [HQ.out], T5⟩
      case measure => simp only [intOf]; omega
    · obtain rfl : k = L.length := by omega
      rw [List.take_length] at HT
      rcases HF.out.fin with ⟨h1, rfl⟩ | ⟨h1, h2, h3⟩
      · rw [HX.out, HP.out] at h1
        rw [HP.out]
        subst h1
        clear HR
        go_wp2
        go_ret3
        exact ⟨u5, u6, vs, rfl, HT.out⟩
      · rw [h3] at HR
        rw [HX.out] at h1
        rw [HP.out] at h1 HR
        rw [HP.out]
        have hlt' : (p : Int) < (len : Int) := by omega
        have hE : (E != 0) = true := by simpa using h2
        clear h2 h3
        go_wp2_with fail
        refine (HR.out _ HT.out.bel).mono ?_
        rintro _ w1 ⟨v, rfl, ho, hb⟩
        have T1 : Hid (Tld w w1 u5 u6 vs L) := hide ⟨HT.out.out.below hb, HT.out.cts.below hb, HT.out.ends.below hb, on_below HT.out.bel hb⟩
        clear ho hb HT HR
        go_wp2
        go_ret3
        exact ⟨u5, u6, vs, rfl, T1.out⟩
end Go.Proofs.YtninkkdbcgadpaaGreatDoor

/-
  The iterator over the whole frames of bytes.
-/
namespace Go.Proofs.YtninkkdbcgadpaaGreatDoor
open Go.RowKit Go.Shelf
set_option linter.unusedVariables false
set_option maxRecDepth 100000
set_option linter.unusedSimpArgs false

set_option maxHeartbeats 400000 in
theorem allF_any (a : Option Addr) (len cap : Nat) (w : World) : Calls Tryz.prog 67 #[.slice a len cap] w fun r w' => ∃ b1, r = .returned (.func (.func 94) #[] #[.pointer (some ⟨b1, 0, none⟩)]) ∧ Blk w' b1 39 [.slice a len cap] ∧ w.heap.size ≤ b1 ∧ Below w.heap.size w w' := by
  go_enter Tryz.func67, Tryz.ntmps67
  go_wp2
  go_ret
  exact ⟨_, rfl, Blk.made w 39 [.slice a len cap], Nat.le_refl _, (Below.refl _ _).alloc (Nat.le_refl _) _⟩

theorem grown_none {A B : World} (h : Below A.heap.size A B) : A.grownBy B none := ⟨h.os, h.tape, h.output, h.size, fun k hk _ => h.block k hk⟩
/-- What is handed out: the place behind a frame, the slice that holds its data, the data. -/
abbrev Fx := Int × Value × List Int
def encF (x : Fx) : Array Value := #[.int .i64 x.1, x.2.1]
/-- Its place and data. -/
def fxP (x : Fx) : Int × List Int := (x.1, x.2.2)
/-- What is handed out behind pre is the next frame, in memory of its own above B. -/
def RF (B : Nat) (L : List (Int × List Int)) (pre : List Fx) (x : Fx) (W : World) : Prop :=
  pre.length < L.length ∧ pre.map fxP = L.take pre.length ∧ fxP x = L.getD pre.length (0, []) ∧ Own W B x.2.1 x.2.2
/-- A round that goes on leaves the table, and what lies above B but for what it was handed. -/
structure KF (B : Nat) (x : Fx) (A C : World) : Prop where
  size : A.heap.size ≤ C.heap.size
  kt : KT A → KT C
  keep : ∀ (k : Nat) (o : Obj), B ≤ k → A.heap[k]? = some o → o.isCells = true → x.2.1.ownBlock ≠ some k → C.heap[k]? = some o
theorem KF.trans {B : Nat} {x : Fx} {A C D : World} (h : KF B x A C) (k : KF B x C D) : KF B x A D :=
  ⟨Nat.le_trans h.size k.size, fun q => k.kt (h.kt q), fun i o hi ho hc hx => k.keep i o hi (h.keep i o hi ho hc hx) hc hx⟩
theorem KF.book {B : Nat} (hB : 1 ≤ B) (x : Fx) (W : World) (l : Nat) (o o' : Obj) (hl : B ≤ l) (h : W.heap[l]? = some o) (hc : o.isCells = false) : KF B x W (W.putObj l o') :=
  ⟨(grownBy_putObj' W l o').size, fun q i hi => by
    rw [World.cell?_of_block (w := W) (World.putObj_heap_other (by show 0 ≠ l; omega))]; exact q i hi, fun k q hk hq hcq _ => by
    have hne : k ≠ l := fun e => by
      subst e
      rw [h] at hq
      injection hq with hq
      subst hq
      rw [hc] at hcq
      cases hcq
    rw [World.putObj_heap_other hne]
    exact hq⟩
theorem KF.own {B B' : Nat} {x : Fx} {A C : World} {u : Value} {xs : List Int} (h : KF B x A C) (hu : Own A B' u xs) (hB : B ≤ B') (hne : ∀ k, u.ownBlock = some k → x.2.1.ownBlock ≠ some k) : Own C B' u xs := by
  obtain ⟨h1, h2⟩ := hu
  refine ⟨h1, ?_⟩
  rcases h2 with h2 | ⟨g, cap, cur, rfl, hg, hh, r⟩
  · exact .inl h2
  · exact .inr ⟨g, cap, cur, rfl, hg, h.keep g _ (Nat.le_trans hB hg) hh rfl (hne g rfl), r⟩
theorem rf_own (B : Nat) (L : List (Int × List Int)) (B0 : Nat) (pre : List Fx) (x : Fx) : OwnFrom B0 (fun (_ : Unit) W => RF B L pre x W) := fun _ W W' row h hg hr =>
  ⟨h.1, h.2.1, h.2.2.1, by
    obtain ⟨h1, h2⟩ := h.2.2.2
    refine ⟨h1, ?_⟩
    rcases h2 with h2 | ⟨g, cap, cur, e, hB, hh, r⟩
    · exact .inl h2
    · refine .inr ⟨g, cap, cur, e, hB, ?_, r⟩
      rw [hg.block g (Array.getElem?_eq_some_iff.1 hh).1 (fun e => by
        obtain ⟨o, ho, hc⟩ := (hr g e.symm).2
        rw [hh] at ho
        injection ho with ho
        subst ho
        cases hc)]
      exact hh⟩
set_option maxRecDepth 100000 in
set_option maxHeartbeats 1000000 in
theorem all_seq (a : Option Addr) (len cap : Nat) (xs : List Int) (L : List (Int × List Int)) (P : Nat → Nat) (E : Int) (b1 : Nat) (w : World) (hs : Sl w a len cap xs) (hl : len ≤ 16777216) (hF : Frs xs L P E) (hk : KT w) (hb1 : Blk w b1 39 [.slice a len cap]) :
    SeqR Fence.wide 2 Tryz.prog 94 #[.pointer (some ⟨b1, 0, none⟩)] encF (RF w.heap.size L) (KF w.heap.size) (fun ys => ys.map fxP = L) (fun ys => ∃ n, n ≤ L.length ∧ ys.map fxP = L.take n) w := by
  intro l0 J Jx W hW hJ hJx hY h0
  have HS := hide (hs.below hW)
  have HX := hide hs.hlen
  have HB := hide hs.hbyte
  have HF := hide hF
  have HK := hide (hk.on hW)
  have hc1 : W.cell? ⟨b1, 0, none⟩ = some (.slice a len cap) := by rw [(hb1.on hW).cell]; rfl
  have hsz := hW.size
  have HJ0 := hide h0
  clear hs hF hk hb1 hW h0
  refine callsIn_of_wp Tryz.func94 rfl trivial ?_ rfl
  simp only [Tryz.ntmps94, List.size_toArray, List.length_cons, List.length_nil, Nat.reduceAdd, Nat.reduceSub, Array.replicate_succ, Array.replicate_zero, List.push_toArray, List.append_toArray, List.nil_append, List.cons_append]
  gi_wp2_with fail
  refine ⟨trivial, (callsIn_wide.2 (cloneF_any _ _ _ xs W HS.out)).mono ?_⟩
  rintro _ w1 ⟨v, rfl, ho, hb⟩
  obtain ⟨ak, ck, rfl, hsk⟩ := ho.sl' HB.out (by rw [HX.out]; omega)
  have HJ1 := hide (hJ _ W w1 none HJ0.out (grown_none hb) (fun r e => by cases e))
  have HO1 := hide (ho.mono hsz)
  have HK1 := hide (HK.out.on hb)
  have hs1 := Nat.le_trans hsz hb.size
  have HKL := hide (fun k hk => (ho.lt2 k hk : k < w1.heap.size))
  rw [HX.out] at HO1 HKL
  rw [HX.out]
  clear ho hb hsk HJ0 HK hc1 HS
  gi_wp2_with fail
  try simp only [Act.put]
  gi_loopw [4] (fun p wr => ∃ (k : Nat) (pre : List Fx), k ≤ L.length ∧ p = .int .i64 (P k : Int) ∧ pre.map fxP = L.take k ∧ Hid (J pre wr) ∧ Hid (Own wr w.heap.size (.slice ak len ck) xs) ∧ Hid (KT wr) ∧ w1.heap.size ≤ wr.heap.size) (fun p _ => len - (intOf p).toNat)
  case atStart => exact ⟨0, [], Nat.zero_le _, by rw [HF.out.p0]; rfl, rfl, HJ1, HO1, HK1, Nat.le_refl _⟩
  case round =>
    obtain ⟨k, pre, hk, rfl, hpm, HJ, HO, HKT, hsw⟩ := hrel
    have HPM := hide hpm
    have hpl : pre.length = k := by
      have := congrArg List.length hpm
      rw [List.length_map, List.length_take] at this
      omega
    have HPL := hide hpl
    have hle := HF.out.le HB.out k hk
    rw [HX.out] at hle
    obtain ⟨hle1, hle2⟩ := hle
    have hsk := HO.out.sl' HB.out (by rw [HX.out]; omega)
    rw [HX.out] at hsk
    obtain ⟨ak', ck', eq', hsk⟩ := hsk
    injection eq' with eq1 _ eq3
    subst eq1 eq3
    have HR := hide (read11_any ak len ck xs (P k : Int) wr hsk HKT.out)
    clear hsk HJ1 HO1 HK1 hpm hpl
    by_cases hlt : k < L.length
    · obtain ⟨h1, h2, h3⟩ := HF.out.step k hlt
      have hPl := HF.out.lt HB.out k hlt
      have hPl2 := (HF.out.le HB.out (k + 1) hlt).1
      rw [HX.out] at h1 hPl2
      rw [h2] at HR
      have HG : Hid (((P (k + 1) : Int), (L.getD k (0, [])).2) = L.getD k (0, [])) := hide (by rw [← h3])
      obtain ⟨d, HD⟩ : ∃ d, Hid ((L.getD k (0, [])).2 = d) := ⟨_, hide rfl⟩
      rw [HD.out] at HR HG
      obtain ⟨q, HQ⟩ : ∃ q, Hid (P (k + 1) = q) := ⟨_, hide rfl⟩
      rw [HQ.out] at HR HG hPl hPl2
      obtain ⟨p, HP⟩ : ∃ p, Hid (P k = p) := ⟨_, hide rfl⟩
      rw [HP.out] at HR h1 hPl hle1 hle2
      rw [HP.out]
      clear h2 h3
      have hlt' : (p : Int) < (len : Int) := by omega
      gi_wp2_with fail
      refine ⟨trivial, (callsIn_wide.2 HR.out).mono ?_⟩
      rintro _ w6 ⟨v2, rfl, ho6, hb6⟩
      have hs6 := hb6.size
      have HJ6 := hide (hJ _ wr w6 none HJ.out (grown_none hb6) (fun r e => by cases e))
      have HO6 := hide (HO.out.below hb6)
      have HK6 := hide (HKT.out.on hb6)
      have HV2 := hide (fun j (hj : v2.ownBlock = some j) => ho6.lt j hj)
      have HRF : Hid (RF w.heap.size L pre ((q : Int), v2, d) w6) := hide ⟨by rw [HPL.out]; exact hlt, by rw [HPL.out]; exact HPM.out, by rw [HPL.out]; exact HG.out, ho6.mono (by omega)⟩
      clear ho6 hb6 HJ HO HKT HR
      obtain ⟨fn, tmps, assign, body, hy, hR⟩ := hY pre ((q : Int), v2, d) w6 HJ6.out HRF.out
      simp only [encF] at hy
      gi_wp2_with fail
      refine hR.mono ?_
      rintro r W7 (⟨rfl, hJ7, hk7⟩ | ⟨rfl, hJx7⟩)
      · have HJ7 := hide hJ7
        have HO7 := hide (hk7.own HO6.out (Nat.le_refl _) (fun j hj e => by have h1 := HKL.out j hj; have h2 := HV2.out j e; omega))
        have HK7 := hide (hk7.kt HK6.out)
        have hs7 : w1.heap.size ≤ W7.heap.size := by have := hk7.size; omega
        have HM7 : Hid ((pre ++ [((q : Int), v2, d)]).map fxP = L.take (k + 1)) := hide (by
          rw [List.map_append, HPM.out, take_snocL L k hlt, ← HG.out]
          rfl)
        clear hJ7 hk7 hy hR HJ6 HO6 HK6 hY HRF HV2
        gi_wp2
        try simp only [Act.put]
        go_roundw
        case rel => exact ⟨k + 1, _, hlt, by rw [HQ.out], HM7.out, HJ7, HO7, HK7, hs7⟩
        case measure => simp only [intOf]; omega
      · have HJx7 := hide hJx7
        have HM7 : Hid ((pre ++ [((q : Int), v2, d)]).map fxP = L.take (k + 1)) := hide (by
          rw [List.map_append, HPM.out, take_snocL L k hlt, ← HG.out]
          rfl)
        clear hJx7 hy hR
        gi_wp2
        refine bodyPost_ret (results_none rfl _ _ _) rfl ?_
        exact ⟨⟨_, rfl⟩, .inr ⟨_, ⟨k + 1, hlt, HM7.out⟩, HJx7.out⟩⟩
    · obtain rfl : k = L.length := by omega
      rw [List.take_length] at HPM
      rcases HF.out.fin with ⟨h1, h2⟩ | ⟨h1, h2, h3⟩
      · rw [HX.out] at h1
        rw [h1]
        clear HR h1
        gi_wp2
        go_end0
        exact ⟨⟨_, rfl⟩, .inl ⟨_, HPM.out, HJ.out⟩⟩
      · rw [h3] at HR
        rw [HX.out] at h1
        obtain ⟨p, HP⟩ : ∃ p, Hid (P L.length = p) := ⟨_, hide rfl⟩
        rw [HP.out] at h1 HR
        rw [HP.out]
        have hlt' : (p : Int) < (len : Int) := by omega
        have hE : (E != 0) = true := by simpa using h2
        clear h2 h3
        gi_wp2_with fail
        refine ⟨trivial, (callsIn_wide.2 HR.out).mono ?_⟩
        rintro _ w6 ⟨v2, rfl, ho6, hb6⟩
        have HJ6 := hide (hJ _ wr w6 none HJ.out (grown_none hb6) (fun r e => by cases e))
        clear ho6 hb6 HJ HO HKT HR
        gi_wp2
        refine ⟨(fun f h => by cases h), ?_⟩
        gi_wp2
        refine bodyPost_ret (results_none rfl _ _ _) rfl ?_
        exact ⟨⟨_, rfl⟩, .inl ⟨_, HPM.out, HJ6.out⟩⟩

end Go.Proofs.YtninkkdbcgadpaaGreatDoor

/-
  The iterator over the whole frames of bytes, for bodies that leave all bytes.
-/
namespace Go.Proofs.YtninkkdbcgadpaaGreatDoor
open Go.RowKit Go.Shelf
set_option linter.unusedVariables false
set_option maxRecDepth 100000
set_option linter.unusedSimpArgs false

/-- A round that goes on leaves the table, and all bytes. -/
structure KG (A C : World) : Prop where
  size : A.heap.size ≤ C.heap.size
  kt : KT A → KT C
  keep : ∀ (k : Nat) (cs : List Value), Blk A k 5 cs → Blk C k 5 cs
theorem KG.refl (A : World) : KG A A := ⟨Nat.le_refl _, fun q => q, fun _ _ h => h⟩
theorem KG.trans {A C D : World} (h : KG A C) (k : KG C D) : KG A D :=
  ⟨Nat.le_trans h.size k.size, fun q => k.kt (h.kt q), fun i cs ho => k.keep i cs (h.keep i cs ho)⟩
theorem KG.book (W : World) (l : Nat) (o o' : Obj) (h : W.heap[l]? = some o) (hc : o.isCells = false) : KG W (W.putObj l o') :=
  ⟨(grownBy_putObj' W l o').size, fun q i hi => by
    have hne : 0 ≠ l := fun e => by
      subst e
      have hq := q 0 (by decide)
      unfold World.cell? at hq
      rw [h] at hq
      cases o <;> simp_all [Obj.isCells]
    rw [World.cell?_of_block (w := W) (World.putObj_heap_other hne)]; exact q i hi, fun k cs hq => by
    have hne : k ≠ l := fun e => by
      subst e
      rw [hq] at h
      injection h with h
      subst h
      cases hc
    unfold Blk
    rw [World.putObj_heap_other hne]
    exact hq⟩
theorem KG.below {A C : World} (h : Below A.heap.size A C) : KG A C := ⟨h.size, fun q => q.on h, fun k cs hk => hk.on h⟩
theorem KG.but {g : Nat} {A C : World} {t : TypeId} {cs : List Value} (h : But g A C) (hg : Blk A g t cs) (ht : 5 ≠ t) (h0 : 0 ≠ g) : KG A C :=
  ⟨Nat.le_of_eq h.size.symm, fun q i hi => by rw [World.cell?_of_block (w := A) (h.block _ h0)]; exact q i hi, fun k ds hk => hk.but h (hk.apart hg ht)⟩
theorem KG.grown {A C : World} {row : Option Nat} (h : A.grownBy C row) (hr : ∀ g, row = some g → (∃ t cs, Blk A g t cs ∧ 5 ≠ t) ∧ 0 ≠ g) : KG A C :=
  ⟨h.size, fun q i hi => by
    rw [World.cell?_of_block (w := A) (h.block _ q.lt (fun e => (hr _ e.symm).2 rfl))]; exact q i hi, fun k ds hk => by
    unfold Blk
    rw [h.block k hk.lt (fun e => by
      obtain ⟨⟨t, cs, h1, h2⟩, _⟩ := hr k e.symm
      exact hk.apart h1 h2 rfl)]
    exact hk⟩
theorem KG.own {B : Nat} {A C : World} {u : Value} {xs : List Int} (h : KG A C) (hu : Own A B u xs) : Own C B u xs := hu.same (fun k hk => by
  obtain ⟨cs, hc⟩ := hu.lies hk
  exact (h.keep k cs hc).trans hc.symm)
set_option maxRecDepth 100000 in
set_option maxHeartbeats 1000000 in
theorem all_seqG (a : Option Addr) (len cap : Nat) (xs : List Int) (L : List (Int × List Int)) (P : Nat → Nat) (E : Int) (b1 : Nat) (w : World) (hs : Sl w a len cap xs) (hl : len ≤ 16777216) (hF : Frs xs L P E) (hk : KT w) (hb1 : Blk w b1 39 [.slice a len cap]) :
    SeqR Fence.wide 2 Tryz.prog 94 #[.pointer (some ⟨b1, 0, none⟩)] encF (RF w.heap.size L) (fun _ => KG) (fun ys => ys.map fxP = L) (fun ys => ∃ n, n ≤ L.length ∧ ys.map fxP = L.take n) w := by
  intro l0 J Jx W hW hJ hJx hY h0
  have HS := hide (hs.below hW)
  have HX := hide hs.hlen
  have HB := hide hs.hbyte
  have HF := hide hF
  have HK := hide (hk.on hW)
  have hc1 : W.cell? ⟨b1, 0, none⟩ = some (.slice a len cap) := by rw [(hb1.on hW).cell]; rfl
  have hsz := hW.size
  have HJ0 := hide h0
  clear hs hF hk hb1 hW h0
  refine callsIn_of_wp Tryz.func94 rfl trivial ?_ rfl
  simp only [Tryz.ntmps94, List.size_toArray, List.length_cons, List.length_nil, Nat.reduceAdd, Nat.reduceSub, Array.replicate_succ, Array.replicate_zero, List.push_toArray, List.append_toArray, List.nil_append, List.cons_append]
  gi_wp2_with fail
  refine ⟨trivial, (callsIn_wide.2 (cloneF_any _ _ _ xs W HS.out)).mono ?_⟩
  rintro _ w1 ⟨v, rfl, ho, hb⟩
  obtain ⟨ak, ck, rfl, hsk⟩ := ho.sl' HB.out (by rw [HX.out]; omega)
  have HJ1 := hide (hJ _ W w1 none HJ0.out (grown_none hb) (fun r e => by cases e))
  have HO1 := hide (ho.mono hsz)
  have HK1 := hide (HK.out.on hb)
  have hs1 := Nat.le_trans hsz hb.size
  have HKL := hide (fun k hk => (ho.lt2 k hk : k < w1.heap.size))
  rw [HX.out] at HO1 HKL
  rw [HX.out]
  clear ho hb hsk HJ0 HK hc1 HS
  gi_wp2_with fail
  try simp only [Act.put]
  gi_loopw [4] (fun p wr => ∃ (k : Nat) (pre : List Fx), k ≤ L.length ∧ p = .int .i64 (P k : Int) ∧ pre.map fxP = L.take k ∧ Hid (J pre wr) ∧ Hid (Own wr w.heap.size (.slice ak len ck) xs) ∧ Hid (KT wr) ∧ w1.heap.size ≤ wr.heap.size) (fun p _ => len - (intOf p).toNat)
  case atStart => exact ⟨0, [], Nat.zero_le _, by rw [HF.out.p0]; rfl, rfl, HJ1, HO1, HK1, Nat.le_refl _⟩
  case round =>
    obtain ⟨k, pre, hk, rfl, hpm, HJ, HO, HKT, hsw⟩ := hrel
    have HPM := hide hpm
    have hpl : pre.length = k := by
      have := congrArg List.length hpm
      rw [List.length_map, List.length_take] at this
      omega
    have HPL := hide hpl
    have hle := HF.out.le HB.out k hk
    rw [HX.out] at hle
    obtain ⟨hle1, hle2⟩ := hle
    have hsk := HO.out.sl' HB.out (by rw [HX.out]; omega)
    rw [HX.out] at hsk
    obtain ⟨ak', ck', eq', hsk⟩ := hsk
    injection eq' with eq1 _ eq3
    subst eq1 eq3
    have HR := hide (read11_any ak len ck xs (P k : Int) wr hsk HKT.out)
    clear hsk HJ1 HO1 HK1 hpm hpl
    by_cases hlt : k < L.length
    · obtain ⟨h1, h2, h3⟩ := HF.out.step k hlt
      have hPl := HF.out.lt HB.out k hlt
      have hPl2 := (HF.out.le HB.out (k + 1) hlt).1
      rw [HX.out] at h1 hPl2
      rw [h2] at HR
      have HG : Hid (((P (k + 1) : Int), (L.getD k (0, [])).2) = L.getD k (0, [])) := hide (by rw [← h3])
      obtain ⟨d, HD⟩ : ∃ d, Hid ((L.getD k (0, [])).2 = d) := ⟨_, hide rfl⟩
      rw [HD.out] at HR HG
      obtain ⟨q, HQ⟩ : ∃ q, Hid (P (k + 1) = q) := ⟨_, hide rfl⟩
      rw [HQ.out] at HR HG hPl hPl2
      obtain ⟨p, HP⟩ : ∃ p, Hid (P k = p) := ⟨_, hide rfl⟩
      rw [HP.out] at HR h1 hPl hle1 hle2
      rw [HP.out]
      clear h2 h3
      have hlt' : (p : Int) < (len : Int) := by omega
      gi_wp2_with fail
      refine ⟨trivial, (callsIn_wide.2 HR.out).mono ?_⟩
      rintro _ w6 ⟨v2, rfl, ho6, hb6⟩
      have hs6 := hb6.size
      have HJ6 := hide (hJ _ wr w6 none HJ.out (grown_none hb6) (fun r e => by cases e))
      have HO6 := hide (HO.out.below hb6)
      have HK6 := hide (HKT.out.on hb6)
      have HV2 := hide (fun j (hj : v2.ownBlock = some j) => ho6.lt j hj)
      have HRF : Hid (RF w.heap.size L pre ((q : Int), v2, d) w6) := hide ⟨by rw [HPL.out]; exact hlt, by rw [HPL.out]; exact HPM.out, by rw [HPL.out]; exact HG.out, ho6.mono (by omega)⟩
      clear ho6 hb6 HJ HO HKT HR
      obtain ⟨fn, tmps, assign, body, hy, hR⟩ := hY pre ((q : Int), v2, d) w6 HJ6.out HRF.out
      simp only [encF] at hy
      gi_wp2_with fail
      refine hR.mono ?_
      rintro r W7 (⟨rfl, hJ7, hk7⟩ | ⟨rfl, hJx7⟩)
      · have HJ7 := hide hJ7
        have HO7 := hide (hk7.own HO6.out)
        have HK7 := hide (hk7.kt HK6.out)
        have hs7 : w1.heap.size ≤ W7.heap.size := by have := hk7.size; omega
        have HM7 : Hid ((pre ++ [((q : Int), v2, d)]).map fxP = L.take (k + 1)) := hide (by
          rw [List.map_append, HPM.out, take_snocL L k hlt, ← HG.out]
          rfl)
        clear hJ7 hk7 hy hR HJ6 HO6 HK6 hY HRF HV2
        gi_wp2
        try simp only [Act.put]
        go_roundw
        case rel => exact ⟨k + 1, _, hlt, by rw [HQ.out], HM7.out, HJ7, HO7, HK7, hs7⟩
        case measure => simp only [intOf]; omega
      · have HJx7 := hide hJx7
        have HM7 : Hid ((pre ++ [((q : Int), v2, d)]).map fxP = L.take (k + 1)) := hide (by
          rw [List.map_append, HPM.out, take_snocL L k hlt, ← HG.out]
          rfl)
        clear hJx7 hy hR
        gi_wp2
        refine bodyPost_ret (results_none rfl _ _ _) rfl ?_
        exact ⟨⟨_, rfl⟩, .inr ⟨_, ⟨k + 1, hlt, HM7.out⟩, HJx7.out⟩⟩
    · obtain rfl : k = L.length := by omega
      rw [List.take_length] at HPM
      rcases HF.out.fin with ⟨h1, h2⟩ | ⟨h1, h2, h3⟩
      · rw [HX.out] at h1
        rw [h1]
        clear HR h1
        gi_wp2
        go_end0
        exact ⟨⟨_, rfl⟩, .inl ⟨_, HPM.out, HJ.out⟩⟩
      · rw [h3] at HR
        rw [HX.out] at h1
        obtain ⟨p, HP⟩ : ∃ p, Hid (P L.length = p) := ⟨_, hide rfl⟩
        rw [HP.out] at h1 HR
        rw [HP.out]
        have hlt' : (p : Int) < (len : Int) := by omega
        have hE : (E != 0) = true := by simpa using h2
        clear h2 h3
        gi_wp2_with fail
        refine ⟨trivial, (callsIn_wide.2 HR.out).mono ?_⟩
        rintro _ w6 ⟨v2, rfl, ho6, hb6⟩
        have HJ6 := hide (hJ _ wr w6 none HJ.out (grown_none hb6) (fun r e => by cases e))
        clear ho6 hb6 HJ HO HKT HR
        gi_wp2
        refine ⟨(fun f h => by cases h), ?_⟩
        gi_wp2
        refine bodyPost_ret (results_none rfl _ _ _) rfl ?_
        exact ⟨⟨_, rfl⟩, .inl ⟨_, HPM.out, HJ6.out⟩⟩

end Go.Proofs.YtninkkdbcgadpaaGreatDoor
