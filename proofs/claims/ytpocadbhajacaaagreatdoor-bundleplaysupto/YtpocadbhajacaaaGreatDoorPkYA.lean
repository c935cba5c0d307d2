/-
  Texts one behind the other: Kac Kmk Zfw Byf FrB5 Kqb Kqm0 Kgn Sga Frg Jrg Fkr Sgb Byi Bxn Lzc Jpa Bwa Bwb.
-/
import Derived.Test.YtpocadbhajacaaaGreatDoorMe
import Derived.Test.YtpocadbhajacaaaGreatDoorNw
import Derived.Test.YtpocadbhajacaaaGreatDoorKmj
import Derived.Test.YtpocadbhajacaaaGreatDoorFr
import Derived.Deep.Strs
import Derived.Deep.Slices
import Derived.Test.YtpocadbhajacaaaGreatDoorKmi
import Derived.Deep.Upon
import Derived.Test.YtpocadbhajacaaaGreatDoorKpb
import Derived.Test.YtpocadbhajacaaaGreatDoorKmh
import Derived.Test.YtpocadbhajacaaaGreatDoorKql
import Derived.Test.YtpocadbhajacaaaGreatDoorIs
import Derived.Test.YtpocadbhajacaaaGreatDoorOu
import Derived.Test.YtpocadbhajacaaaGreatDoorLzb
import Derived.Test.YtpocadbhajacaaaGreatDoorBu
import Derived.Great.BuildSlice
import Derived.Laws.Bits64
import Derived.Deep.AppendLies
import Derived.Test.YtpocadbhajacaaaGreatDoorLza

/-
  Acts in memory: a call's kind, names, bytes and numbers.
-/
namespace Go.Proofs.YtpocadbhajacaaaGreatDoor
open Go.RowKit
set_option linter.unusedVariables false

/-- An act's cells. -/
def acC (k : Int) (n t : ByteArray) (v : Value) (p q : Int) : List Value := [.int .i64 k, .string n, .string t, v, .int .i64 p, .int .i64 q]
/-- An act. -/
structure Ac where
  k : Int
  n : ByteArray
  t : ByteArray
  a : Option Addr
  l : Nat
  c : Nat
  xs : List Int
  p : Int
  q : Int
def Ac.cells (x : Ac) : List Value := acC x.k x.n x.t (.slice x.a x.l x.c) x.p x.q
/-- How much an act weighs. -/
def Ac.bulk (x : Ac) : Nat := x.n.size + x.t.size + x.xs.length + 1
def bulks (L : List Ac) : Nat := (L.map Ac.bulk).sum
/-- Numbers that the machine has; its bytes lie in memory. -/
structure Ac.In (w : World) (x : Ac) : Prop where
  sl : Sl w x.a x.l x.c x.xs
  k : -9223372036854775808 ≤ x.k ∧ x.k ≤ 9223372036854775807
  p : -9223372036854775808 ≤ x.p ∧ x.p ≤ 9223372036854775807
  q : -9223372036854775808 ≤ x.q ∧ x.q ≤ 9223372036854775807
theorem Ac.In.below {w w' : World} {x : Ac} (h : x.In w) (hb : Below w.heap.size w w') : x.In w' := ⟨h.sl.below hb, h.k, h.p, h.q⟩
/-- A slice of acts. -/
structure Acts (w : World) (a : Option Addr) (len cap : Nat) (L : List Ac) : Prop where
  hlen : L.length = len
  hcap : len ≤ cap
  hmax : cap ≤ 9223372036854775807
  hsum : bulks L ≤ 1048576
  hin : ∀ (i : Nat) x, L[i]? = some x → x.In w
  hcell : ∀ (i : Nat) x, L[i]? = some x → ∃ b off, a = some ⟨b, off, none⟩ ∧ w.rangeAt b (off + i * 6) x.cells
theorem rangeAt_below {w w' : World} {b o : Nat} {vs : List Value} (h : w.rangeAt b o vs) (hb : Below w.heap.size w w') : w'.rangeAt b o vs := fun j v hv => by
  have := h j v hv
  exact cell_kept this hb
theorem Acts.below {w w' : World} {a : Option Addr} {len cap : Nat} {L : List Ac} (h : Acts w a len cap L) (hb : Below w.heap.size w w') : Acts w' a len cap L :=
  ⟨h.hlen, h.hcap, h.hmax, h.hsum, fun i x hx => (h.hin i x hx).below hb, fun i x hx => by
    obtain ⟨b, off, e, hr⟩ := h.hcell i x hx
    exact ⟨b, off, e, rangeAt_below hr hb⟩⟩
end Go.Proofs.YtpocadbhajacaaaGreatDoor

/-
  The law's call: one act done to a disk; acts one behind the other.
-/
namespace Go.Proofs.YtpocadbhajacaaaGreatDoor
open Go.RowKit
set_option linter.unusedVariables false

theorem OpR.step {a b c : World} {d s : Nat} {D D1 : Dm} {rs2 : List Rw} (h2 : Chs (D.own d) a b) (h3 : ∀ k, D1.own d k → D.own d k ∨ a.heap.size ≤ k) (h4 : ∀ k, D1.ro k → D.ro k ∨ a.heap.size ≤ k) (k : OpR b c d s D1 rs2) : OpR a c d s D rs2 := by
  obtain ⟨D2, k1, k2, k3, k4⟩ := k
  have hsz := h2.size
  refine ⟨D2, k1, h2.after k2 h3, fun z hz => ?_, fun z hz => ?_⟩
  · rcases k3 z hz with h | h
    · exact h3 z h
    · exact .inr (Nat.le_trans hsz h)
  · rcases k4 z hz with h | h
    · exact h4 z h
    · exact .inr (Nat.le_trans hsz h)
section
variable {dst : Option Tmp} {ty : TypeId} {pos : String} {aft : Array Edge} {gd : Option (Nat × Bool)} {ops : Array Oper} {rest : List Oper} {a : Act} {w : World} {Q : Exit → Act → World → Prop}
theorem step_loadR {T : TypeId} {n : Nat} (hT : Wide T n) {x : Operand} (hw : Region.wanted ⟨dst, .load T x, ty, pos, aft, gd⟩ (yielded ops a.tmps) = true) {g off : Nat} (hx : a.eval x = .pointer (some ⟨g, off, none⟩)) (vs : List Value) (hg : w.rangeAt g off vs) (hn : vs.length = n)
    (h : wpList Tryz.prog ops Q rest (a.put dst (.agg vs.toArray)) w) : wpList Tryz.prog ops Q (⟨dst, .load T x, ty, pos, aft, gd⟩ :: rest) a w := by
  subst hn
  obtain ⟨d, hu, hd⟩ := hT.und
  exact BigFrame.wpList_want hw fun _ hK => wp_load_mid T x rfl g off hx vs d hg hu hd hT.size (hK _ _ h)
end

end Go.Proofs.YtpocadbhajacaaaGreatDoor

/-
  A world in memory: a slice of files.
-/
namespace Go.Proofs.YtpocadbhajacaaaGreatDoor
open Go.RowKit
set_option linter.unusedVariables false

/-- A file. -/
structure Fw where
  n : ByteArray
  a : Option Addr
  l : Nat
  c : Nat
  xs : List Int
def fwC (n : ByteArray) (v : Value) : List Value := [.string n, v]
def Fw.cells (x : Fw) : List Value := fwC x.n (.slice x.a x.l x.c)
theorem Fw.one (x : Fw) : One x.cells := by
  intro v hv
  simp [Fw.cells, fwC] at hv
  rcases hv with rfl | rfl <;> rfl
/-- How much a file weighs. -/
def Fw.bulk (x : Fw) : Nat := x.xs.length + 3
def fbulk (L : List Fw) : Nat := (L.map Fw.bulk).sum
/-- A slice of files. -/
structure Fws (w : World) (a : Option Addr) (len cap : Nat) (L : List Fw) : Prop where
  hlen : L.length = len
  hcap : len ≤ cap
  hmax : cap ≤ 9223372036854775807
  hsum : fbulk L ≤ 1048576
  hin : ∀ (i : Nat) x, L[i]? = some x → Sl w x.a x.l x.c x.xs
  hcell : ∀ (i : Nat) x, L[i]? = some x → ∃ b off, a = some ⟨b, off, none⟩ ∧ w.rangeAt b (off + i * 2) x.cells
theorem Fws.below {w w' : World} {a : Option Addr} {len cap : Nat} {L : List Fw} (h : Fws w a len cap L) (hb : Below w.heap.size w w') : Fws w' a len cap L :=
  ⟨h.hlen, h.hcap, h.hmax, h.hsum, fun i x hx => (h.hin i x hx).below hb, fun i x hx => by
    obtain ⟨b, off, e, hr⟩ := h.hcell i x hx
    exact ⟨b, off, e, rangeAt_below hr hb⟩⟩
theorem fbulk_app (L M : List Fw) : fbulk (L ++ M) = fbulk L + fbulk M := by simp [fbulk]
theorem fbulk_take (L : List Fw) : ∀ k, fbulk (L.take k) ≤ fbulk L := fun k => by
  have h := fbulk_app (L.take k) (L.drop k)
  rw [List.take_append_drop] at h
  omega
theorem fbulk_succ (L : List Fw) (k : Nat) (x : Fw) (h : L[k]? = some x) : fbulk (L.take (k + 1)) = fbulk (L.take k) + x.bulk := by
  obtain ⟨hk, rfl⟩ := List.getElem?_eq_some_iff.1 h
  rw [List.take_succ_eq_append_getElem hk, fbulk_app]
  simp [fbulk]
theorem len_fbulk (L : List Fw) : 3 * L.length ≤ fbulk L := by
  induction L with
  | nil => simp
  | cons x r ih => simp [fbulk, Fw.bulk] at ih ⊢; omega

end Go.Proofs.YtpocadbhajacaaaGreatDoor

/-
  From how an argument is read as data to what the walks are told of it: a world.
-/
namespace Go.Proofs.YtpocadbhajacaaaGreatDoor
open Go.ChangeShapes Go.WideShapes Go.ChangeAt Go.RowKit
set_option linter.unusedVariables false

theorem cbA : Tryz.prog.cellsOf 31 = 1 := by kernel_rfl
theorem ciA : Tryz.prog.cellsOf 3 = 1 := by kernel_rfl
theorem uiA : Tryz.prog.underlying 3 = some (.int .i64) := by kernel_rfl
theorem cutA {L x : List Value} {k n : Nat} (h : (L.drop k).take n = x) : L.drop k = x ++ L.drop (k + n) := by
  rw [← h, ← List.drop_drop, List.take_append_drop]
set_option maxRecDepth 100000 in
theorem slA_trod {H : Type} {enc : TypeId × Value → H} {W : World} {fuel : Nat} {cs : List Value} {x : DataW H × List MemPlace}
    (hf : DataW.trod enc Tryz.prog W 0 (fun _ => true) true fuel 31 cs = some x) :
    ∃ a len cap xs, cs = [.slice a len cap] ∧ xs.length = len ∧ (Rows.uptoBulk x.1 ≤ 1048576 → Sl W a len cap xs ∧ len + 1 ≤ Rows.uptoBulk x.1) := by
  rcases open_ints undBs undB (by kernel_rfl) hf with ⟨hcs, hx⟩ | ⟨x', l, c, zs, hcs, _, hl, hm, hz, hx, hcell, hwz⟩
  · refine ⟨none, 0, 0, [], hcs, rfl, fun _ => ⟨⟨rfl, Nat.le_refl _, by omega, by omega, (fun x hx => by simp at hx), fun _ => ⟨rfl, rfl⟩, fun h => absurd h (Nat.lt_irrefl 0)⟩, ?_⟩⟩
    rw [hx]
    simp [Rows.uptoBulk]
  · simp only [if_true] at hz
    have hb : Rows.uptoBulk x.1 = c + 1 := by
      rw [hx]
      simp only [Rows.uptoBulk, bulk_ints, List.length_take, List.length_drop]
      omega
    refine ⟨some x', l, c, zs.take l, hcs, by simp; omega, fun hb2 => ⟨⟨by simp; omega, hl, by omega, by omega, fun y hy => bounds_u8 (hwz y (List.mem_of_mem_take hy)), (fun e => by cases e), fun h0 => ?_⟩, by omega⟩⟩
    obtain ⟨b, off, spot⟩ := x'
    have hs : spot = none := by simpa [Addr.add] using World.cell?_spot (hcell 0 (by omega))
    subst hs
    refine ⟨b, off, rfl, fun i hi => ?_⟩
    have e := hcell i (by omega)
    rw [Addr.add_lit] at e
    rw [e]
    simp [List.getD, hi]

theorem bulk_each {H : Type} (D : Nat → DataW H) (f : Nat → Nat) : ∀ l : List Nat, (∀ i ∈ l, f i ≤ Rows.uptoBulk (D i)) → (l.map f).sum ≤ Rows.uptoBulkAll (l.map D)
  | [], _ => by simp [Rows.uptoBulkAll]
  | i :: r, h => by
    have h1 := h i (by simp)
    have h2 := bulk_each D f r (fun j hj => h j (by simp [hj]))
    simp only [List.map_cons, List.sum_cons, Rows.uptoBulkAll]
    omega
theorem bulk_le {H : Type} (D : Nat → DataW H) : ∀ l : List Nat, ∀ i ∈ l, Rows.uptoBulk (D i) ≤ Rows.uptoBulkAll (l.map D)
  | [], i, h => by cases h
  | j :: r, i, h => by
    simp only [List.map_cons, Rows.uptoBulkAll]
    rcases List.mem_cons.1 h with rfl | h
    · omega
    · have := bulk_le D r i h
      omega

theorem csW : Tryz.prog.cellsOf 9 = 1 := by kernel_rfl
theorem cfW : Tryz.prog.cellsOf 68 = 2 := by kernel_rfl
theorem cfsW : Tryz.prog.cellsOf 22 = 1 := by kernel_rfl
theorem cwW : Tryz.prog.cellsOf 24 = 2 := by kernel_rfl
theorem usW : Tryz.prog.underlying 9 = some .string := by kernel_rfl

set_option maxRecDepth 100000 in
set_option maxHeartbeats 1000000 in
theorem fw_trod {H : Type} {enc : TypeId × Value → H} {W : World} {fuel : Nat} {L : List Value} {x : DataW H × List MemPlace} (hL : L.length = 2)
    (hf : DataW.trod enc Tryz.prog W 0 (fun _ => true) true fuel 68 L = some x) :
    ∃ z : Fw, L = z.cells ∧ (Rows.uptoBulk x.1 ≤ 1048576 → Sl W z.a z.l z.c z.xs ∧ z.bulk ≤ Rows.uptoBulk x.1) := by
  have hu := Tryz.underlying68
  obtain ⟨xs, n, _, hx, _, hxl, hfs⟩ := DataW.trod_struct hu hf
  match xs, hxl with
  | [y0, y1], _ =>
    have h0 : DataW.trod enc Tryz.prog W 0 (fun _ => true) true n 9 ((L.drop 0).take (Tryz.prog.cellsOf 9)) = some y0 := hfs 0 _ rfl
    have h1 : DataW.trod enc Tryz.prog W 0 (fun _ => true) true n 31 ((L.drop 1).take (Tryz.prog.cellsOf 31)) = some y1 := hfs 1 _ rfl
    rw [csW] at h0
    rw [cbA] at h1
    obtain ⟨s1, e0, x0, _⟩ := DataW.trod_string usW h0
    obtain ⟨a, l, c, zs, e1, hzl, s2⟩ := slA_trod h1
    have hb : Rows.uptoBulk x.1 = (s1.size + 1) + Rows.uptoBulk y1.1 + 1 := by
      rw [hx]
      simp only [List.map_cons, List.map_nil, Rows.uptoBulk, Rows.uptoBulkAll, x0, Array.length_toList]
      have t1 : s1.data.size = s1.size := rfl
      omega
    refine ⟨⟨s1, a, l, c, zs⟩, ?_, fun hm => ?_⟩
    · have d0 := cutA e0
      have d1 := cutA e1
      have dd : L.drop 2 = [] := List.drop_of_length_le (by omega)
      simp only [Nat.reduceAdd] at d0 d1
      rw [← List.drop_zero (l := L), d0, d1, dd]
      rfl
    · obtain ⟨t1, t2⟩ := s2 (by omega)
      exact ⟨t1, by simp only [Fw.bulk, hzl]; omega⟩

set_option maxRecDepth 100000 in
theorem fws_trod {H : Type} {enc : TypeId × Value → H} {W : World} {fuel : Nat} {cs : List Value} {y : DataW H × List MemPlace}
    (hf : DataW.trod enc Tryz.prog W 0 (fun _ => true) true fuel 22 cs = some y) (hm : Rows.uptoBulk y.1 ≤ 1048576) :
    ∃ a len cap L, cs = [.slice a len cap] ∧ Fws W a len cap L ∧ fbulk L + 1 ≤ Rows.uptoBulk y.1 := by
  have hs : Tryz.prog.underlying 22 = some (.slice 68) := by kernel_rfl
  rcases Deep.open_slice hs hf with ⟨hcs, hx⟩ | ⟨x, len, cap, m, n, D, Pl, hcs, _, hl, hmx, hmm, hx, hel⟩
  · refine ⟨none, 0, 0, [], hcs, ⟨rfl, Nat.le_refl _, by omega, by simp [fbulk], fun i x hx => by simp at hx, fun i x hx => by simp at hx⟩, ?_⟩
    rw [hx]
    simp [fbulk, Rows.uptoBulk]
  · have hmc : m = cap := by simpa using hmm
    subst hmc
    have hb : Rows.uptoBulkAll ((List.range len).map D) + 1 ≤ Rows.uptoBulk y.1 := by
      rw [hx]
      simp only [Rows.uptoBulk]
      omega
    have hsp : 0 < len → x.spot = none := fun h0 => by
      obtain ⟨cs', h1, _⟩ := hel 0 (by omega)
      rw [cfW] at h1
      obtain ⟨_, hlen, hcell⟩ := World.cells?_some h1
      have := hcell 0 (by omega)
      rw [List.getElem?_eq_getElem (by omega)] at this
      simpa [Addr.add] using World.cell?_spot this
    have each : ∀ i, i < len → ∃ z : Fw, W.rangeAt x.block (x.off + i * 2) z.cells ∧ x.spot = none ∧ Sl W z.a z.l z.c z.xs ∧ z.bulk ≤ Rows.uptoBulk (D i) := by
      intro i hi
      obtain ⟨cs', h1, h2⟩ := hel i (by omega)
      rw [cfW] at h1
      obtain ⟨_, hlen, hcell⟩ := World.cells?_some h1
      obtain ⟨z, hz, hq⟩ := fw_trod hlen h2
      have hbi := bulk_le D (List.range len) i (List.mem_range.2 hi)
      obtain ⟨q1, q2⟩ := hq (by show Rows.uptoBulk (D i) ≤ 1048576; omega)
      obtain ⟨b, off, spot⟩ := x
      have hs : spot = none := hsp (by omega)
      subst hs
      refine ⟨z, fun j v hv => ?_, rfl, q1, q2⟩
      have hj : j < 2 := by
        have := (List.getElem?_eq_some_iff.1 hv).1
        rw [← hz, hlen] at this
        exact this
      have := hcell j hj
      rw [hz, hv, Addr.add_lit, Addr.add_lit] at this
      exact this
    have hI : Inhabited Fw := ⟨⟨ByteArray.empty, none, 0, 0, []⟩⟩
    obtain ⟨y', hy⟩ := Deep.choose_lt each
    have hL : ∀ i z, ((List.range len).map y')[i]? = some z → i < len ∧ z = y' i := by
      intro i z hz
      rw [List.getElem?_map] at hz
      obtain ⟨j, hj, rfl⟩ := Option.map_eq_some_iff.1 hz
      have h3 := List.getElem?_eq_some_iff.1 hj
      obtain ⟨h4, h5⟩ := h3
      simp at h4 h5
      exact ⟨h4, by rw [h5]⟩
    have hsum : fbulk ((List.range len).map y') ≤ Rows.uptoBulkAll ((List.range len).map D) := by
      unfold fbulk
      rw [List.map_map]
      exact bulk_each D _ _ (fun i hi => (hy i (List.mem_range.1 hi)).2.2.2)
    refine ⟨some x, len, m, (List.range len).map y', hcs, ⟨by simp, hl, by unfold maxLen at hmx; omega, by omega, fun i z hz => ?_, fun i z hz => ?_⟩, by omega⟩
    · obtain ⟨h1, rfl⟩ := hL i z hz
      exact (hy i h1).2.2.1
    · obtain ⟨h1, rfl⟩ := hL i z hz
      refine ⟨x.block, x.off, ?_, (hy i h1).1⟩
      have := (hy i h1).2.1
      obtain ⟨b, off, spot⟩ := x
      subst this
      rfl

set_option maxRecDepth 100000 in
theorem wld_upto {H : Type} {enc : TypeId × Value → H} {W : World} {base : Nat} {v : Value} {d : DataW H} {p : List MemPlace}
    (hv : Value.okWide Tryz.prog W .any base 24 v) (h : DataW.Trod enc Tryz.prog W 0 (fun _ => true) true 24 v d p) (hm : Rows.uptoBulk d ≤ 1048576) :
    ∃ (k : Int) (a : Option Addr) (len cap : Nat) (L : List Fw), v = .agg #[.int .i64 k, .slice a len cap] ∧ (-9223372036854775808 ≤ k ∧ k ≤ 9223372036854775807) ∧ Fws W a len cap L ∧ fbulk L ≤ Rows.uptoBulk d := by
  have hu := Tryz.underlying24
  obtain ⟨cs, rfl, hsz2⟩ := okWide_struct hu hv
  obtain ⟨L⟩ := cs
  have hL : L.length = 2 := by
    rw [cwW] at hsz2
    simpa using hsz2
  obtain ⟨fuel, hf⟩ := h
  obtain ⟨xs, n, _, hx, _, hxl, hfs⟩ := DataW.trod_struct hu hf
  match xs, hxl with
  | [y0, y1], _ =>
    have h0 : DataW.trod enc Tryz.prog W 0 (fun _ => true) true n 3 ((L.drop 0).take (Tryz.prog.cellsOf 3)) = some y0 := hfs 0 _ rfl
    have h1 : DataW.trod enc Tryz.prog W 0 (fun _ => true) true n 22 ((L.drop 1).take (Tryz.prog.cellsOf 22)) = some y1 := hfs 1 _ rfl
    rw [ciA] at h0
    rw [cfsW] at h1
    obtain ⟨k, e0, x0, w0⟩ := DataW.trod_int uiA h0
    have hb : Rows.uptoBulk d = 1 + Rows.uptoBulk y1.1 + 1 := by
      have hx' : d = .agg ([y0, y1].map (·.1)) := congrArg Prod.fst hx
      rw [hx']
      simp only [List.map_cons, List.map_nil, Rows.uptoBulk, Rows.uptoBulkAll, x0]
      omega
    obtain ⟨a, l, c, zs, e1, s1, s2⟩ := fws_trod h1 (by omega)
    refine ⟨k, a, l, c, zs, ?_, bounds_i64 w0, s1, by omega⟩
    have d0 := cutA e0
    have d1 := cutA e1
    have dd : L.drop 2 = [] := List.drop_of_length_le (by omega)
    simp only [Nat.reduceAdd] at d0 d1
    have : L = [.int .i64 k, .slice a l c] := by
      rw [← List.drop_zero (l := L), d0, d1, dd]
      rfl
    rw [this]

end Go.Proofs.YtpocadbhajacaaaGreatDoor

/-
  From how an argument is read as data to what the walks are told of it: an act, a slice of acts.
-/
namespace Go.Proofs.YtpocadbhajacaaaGreatDoor
open Go.ChangeShapes Go.WideShapes Go.ChangeAt Go.RowKit
set_option linter.unusedVariables false

/-- An act's cells. -/
def asC5 (k h i : Int) (b : Bool) (v : Value) : List Value := [.int .i64 k, .int .i64 h, .int .i64 i, .bool b, v]
theorem One.asC5 (k h i : Int) (b : Bool) (a : Option Addr) (l c : Nat) : One (asC5 k h i b (.slice a l c)) := by
  intro v hv
  unfold Go.Proofs.YtpocadbhajacaaaGreatDoor.asC5 at hv
  simp at hv
  rcases hv with rfl | rfl | rfl | rfl | rfl <;> rfl
/-- An act of the statements of bundle. -/
structure A5 where
  k : Int
  h : Int
  i : Int
  nx : Bool
  a : Option Addr
  l : Nat
  c : Nat
  x : List Int
def A5.cells (z : A5) : List Value := asC5 z.k z.h z.i z.nx (.slice z.a z.l z.c)
def rngI (z : Int) : Prop := -9223372036854775808 ≤ z ∧ z ≤ 9223372036854775807
structure A5.In (w : World) (z : A5) : Prop where
  sl : Sl w z.a z.l z.c z.x
  rk : rngI z.k
  rh : rngI z.h
  ri : rngI z.i
/-- How much an act weighs. -/
def A5.bulk (z : A5) : Nat := z.x.length + 6
def a5bulk (L : List A5) : Nat := (L.map A5.bulk).sum
/-- A slice of acts in memory. -/
structure A5s (w : World) (a : Option Addr) (len cap : Nat) (L : List A5) : Prop where
  hlen : L.length = len
  hcap : len ≤ cap
  hmax : cap ≤ 9223372036854775807
  hblk : a5bulk L ≤ 1048576
  hin : ∀ (i : Nat) x, L[i]? = some x → x.In w
  hcell : ∀ (i : Nat) x, L[i]? = some x → ∃ b off, a = some ⟨b, off, none⟩ ∧ w.rangeAt b (off + i * 5) x.cells
theorem A5.In.below {z : A5} {w w' : World} (h : z.In w) (hb : Below w.heap.size w w') : z.In w' := ⟨h.sl.below hb, h.rk, h.rh, h.ri⟩
theorem A5s.below {w w' : World} {a : Option Addr} {len cap : Nat} {L : List A5} (h : A5s w a len cap L) (hb : Below w.heap.size w w') : A5s w' a len cap L :=
  ⟨h.hlen, h.hcap, h.hmax, h.hblk, fun i x hx => (h.hin i x hx).below hb, fun i x hx => by
    obtain ⟨b, off, e, hr⟩ := h.hcell i x hx
    exact ⟨b, off, e, rangeAt_below hr hb⟩⟩
theorem caA : Tryz.prog.cellsOf 33 = 5 := by kernel_rfl
theorem cboA : Tryz.prog.cellsOf 4 = 1 := by kernel_rfl
theorem uboA : Tryz.prog.underlying 4 = some .bool := by kernel_rfl
set_option maxRecDepth 100000 in
set_option maxHeartbeats 1000000 in
theorem a5_trod {H : Type} {enc : TypeId × Value → H} {W : World} {fuel : Nat} {L : List Value} {x : DataW H × List MemPlace} (hL : L.length = 5)
    (hf : DataW.trod enc Tryz.prog W 0 (fun _ => true) true fuel 33 L = some x) :
    ∃ z : A5, L = z.cells ∧ (Rows.uptoBulk x.1 ≤ 1048576 → z.In W ∧ z.bulk ≤ Rows.uptoBulk x.1) := by
  have hu := Tryz.underlying33
  obtain ⟨xs, n, _, hx, _, hxl, hfs⟩ := DataW.trod_struct hu hf
  match xs, hxl with
  | [y0, y1, y2, y3, y4], _ =>
    have h0 : DataW.trod enc Tryz.prog W 0 (fun _ => true) true n 3 ((L.drop 0).take (Tryz.prog.cellsOf 3)) = some y0 := hfs 0 _ rfl
    have h1 : DataW.trod enc Tryz.prog W 0 (fun _ => true) true n 3 ((L.drop 1).take (Tryz.prog.cellsOf 3)) = some y1 := hfs 1 _ rfl
    have h2 : DataW.trod enc Tryz.prog W 0 (fun _ => true) true n 3 ((L.drop 2).take (Tryz.prog.cellsOf 3)) = some y2 := hfs 2 _ rfl
    have h3 : DataW.trod enc Tryz.prog W 0 (fun _ => true) true n 4 ((L.drop 3).take (Tryz.prog.cellsOf 4)) = some y3 := hfs 3 _ rfl
    have h4 : DataW.trod enc Tryz.prog W 0 (fun _ => true) true n 31 ((L.drop 4).take (Tryz.prog.cellsOf 31)) = some y4 := hfs 4 _ rfl
    rw [ciA] at h0 h1 h2
    rw [cboA] at h3
    rw [cbA] at h4
    obtain ⟨k0, e0, x0, w0⟩ := DataW.trod_int uiA h0
    obtain ⟨k1, e1, x1, w1⟩ := DataW.trod_int uiA h1
    obtain ⟨k2, e2, x2, w2⟩ := DataW.trod_int uiA h2
    obtain ⟨b, e3, x3⟩ := DataW.trod_bool uboA h3
    obtain ⟨a, l, c, zs, e4, hzl, s4⟩ := slA_trod h4
    have hb : Rows.uptoBulk x.1 = 1 + 1 + 1 + 1 + Rows.uptoBulk y4.1 + 1 := by
      rw [hx]
      simp only [List.map_cons, List.map_nil, Rows.uptoBulk, Rows.uptoBulkAll, x0, x1, x2, x3]
      omega
    refine ⟨⟨k0, k1, k2, b, a, l, c, zs⟩, ?_, fun hm => ?_⟩
    · have d0 := cutA e0
      have d1 := cutA e1
      have d2 := cutA e2
      have d3 := cutA e3
      have d4 := cutA e4
      have dd : L.drop 5 = [] := List.drop_of_length_le (by omega)
      simp only [Nat.reduceAdd] at d0 d1 d2 d3 d4
      rw [← List.drop_zero (l := L), d0, d1, d2, d3, d4, dd]
      rfl
    · obtain ⟨t1, t2⟩ := s4 (by omega)
      exact ⟨⟨t1, bounds_i64 w0, bounds_i64 w1, bounds_i64 w2⟩, by simp only [A5.bulk, hzl]; omega⟩

set_option maxRecDepth 100000 in
theorem a5s_upto {H : Type} {enc : TypeId × Value → H} {W : World} {base : Nat} {v : Value} {d : DataW H} {p : List MemPlace}
    (hv : Value.okWide Tryz.prog W .any base 25 v) (h : DataW.Trod enc Tryz.prog W 0 (fun _ => true) true 25 v d p) (hm : Rows.uptoBulk d ≤ 1048576) :
    ∃ a len cap L, v = .slice a len cap ∧ A5s W a len cap L ∧ a5bulk L ≤ Rows.uptoBulk d := by
  have hs : Tryz.prog.underlying 25 = some (.slice 33) := by kernel_rfl
  obtain ⟨a, len, cap, rfl⟩ := okWide_slice hs hv
  obtain ⟨fuel, hf⟩ := h
  rcases Deep.open_slice hs hf with ⟨hcs, hx⟩ | ⟨x, l, c, m, n, D, Pl, hcs, _, hl, hmx, hmm, hx, hel⟩
  · simp [Value.cells] at hcs
    obtain ⟨rfl, rfl, rfl⟩ := hcs
    exact ⟨none, 0, 0, [], rfl, ⟨rfl, Nat.le_refl _, by omega, by simp [a5bulk], fun i x hx => by simp at hx, fun i x hx => by simp at hx⟩, by simp [a5bulk]⟩
  · simp [Value.cells] at hcs
    obtain ⟨rfl, rfl, rfl⟩ := hcs
    have hmc : m = cap := by simpa using hmm
    subst hmc
    simp only [Prod.mk.injEq] at hx
    have hb : Rows.uptoBulkAll ((List.range len).map D) + 1 ≤ Rows.uptoBulk d := by
      rw [hx.1]
      simp only [Rows.uptoBulk]
      omega
    have hsp : 0 < len → x.spot = none := fun h0 => by
      obtain ⟨cs', h1, _⟩ := hel 0 (by omega)
      rw [caA] at h1
      obtain ⟨_, hlen, hcell⟩ := World.cells?_some h1
      have := hcell 0 (by omega)
      rw [List.getElem?_eq_getElem (by omega)] at this
      simpa [Addr.add] using World.cell?_spot this
    have each : ∀ i, i < len → ∃ z : A5, W.rangeAt x.block (x.off + i * 5) z.cells ∧ x.spot = none ∧ z.In W ∧ z.bulk ≤ Rows.uptoBulk (D i) := by
      intro i hi
      obtain ⟨cs', h1, h2⟩ := hel i (by omega)
      rw [caA] at h1
      obtain ⟨_, hlen, hcell⟩ := World.cells?_some h1
      obtain ⟨z, hz, hq⟩ := a5_trod hlen h2
      have hbi := bulk_le D (List.range len) i (List.mem_range.2 hi)
      obtain ⟨q1, q2⟩ := hq (by show Rows.uptoBulk (D i) ≤ 1048576; omega)
      obtain ⟨b, off, spot⟩ := x
      have hs : spot = none := hsp (by omega)
      subst hs
      refine ⟨z, fun j v hv => ?_, rfl, q1, q2⟩
      have hj : j < 5 := by
        have := (List.getElem?_eq_some_iff.1 hv).1
        rw [← hz, hlen] at this
        exact this
      have := hcell j hj
      rw [hz, hv, Addr.add_lit, Addr.add_lit] at this
      exact this
    have hI : Inhabited A5 := ⟨⟨0, 0, 0, false, none, 0, 0, []⟩⟩
    obtain ⟨y, hy⟩ := Deep.choose_lt each
    have hL : ∀ i z, ((List.range len).map y)[i]? = some z → i < len ∧ z = y i := by
      intro i z hz
      rw [List.getElem?_map] at hz
      obtain ⟨j, hj, rfl⟩ := Option.map_eq_some_iff.1 hz
      have h3 := List.getElem?_eq_some_iff.1 hj
      obtain ⟨h4, h5⟩ := h3
      simp at h4 h5
      exact ⟨h4, by rw [h5]⟩
    have hsum : a5bulk ((List.range len).map y) ≤ Rows.uptoBulkAll ((List.range len).map D) := by
      unfold a5bulk
      rw [List.map_map]
      exact bulk_each D _ _ (fun i hi => (hy i (List.mem_range.1 hi)).2.2.2)
    refine ⟨some x, len, m, (List.range len).map y, rfl, ⟨by simp, hl, by unfold maxLen at hmx; omega, by omega, fun i z hz => ?_, fun i z hz => ?_⟩, by omega⟩
    · obtain ⟨h1, rfl⟩ := hL i z hz
      exact (hy i h1).2.2.1
    · obtain ⟨h1, rfl⟩ := hL i z hz
      refine ⟨x.block, x.off, ?_, (hy i h1).1⟩
      have := (hy i h1).2.1
      obtain ⟨b, off, spot⟩ := x
      subst this
      rfl


end Go.Proofs.YtpocadbhajacaaaGreatDoor

/-
  Slices of wide elements over any element type: parts of them, append of a part, elements.
-/
namespace Go.Proofs.YtpocadbhajacaaaGreatDoor
open Go.RowKit
set_option linter.unusedVariables false

/-- An element's type and its slices'. -/
structure Ro (T e : TypeId) (q by' : Nat) (z : Value) : Prop where
  und : Tryz.prog.underlying T = some (.slice e)
  el : Tryz.prog.elem T = e
  info : (Tryz.prog.info? e).map (fun i => (i.zero, i.size, i.bytes)) = some (some z, q, by')
  zs : z.cells.size = q
  q0 : 0 < q
  q9 : by' ≤ 128
  sz : ∀ w, (sizeOf e).run Tryz.prog w = .ok q w
theorem Ro.und2 {T e : TypeId} {q by' : Nat} {z : Value} (R : Ro T e q by' z) : Tryz.prog.underlying T = some (.slice (Tryz.prog.elem T)) := by rw [R.el]; exact R.und
/-- A slice's elements, seen. -/
structure Vw (w : World) (e : TypeId) (q : Nat) (v : Value) (n : Nat) (xs : List Value) : Prop where
  len : xs.length = n * q
  at' : ∃ a c, v = .slice a n c ∧ n ≤ c ∧ (n ≠ 0 → ∃ g o cs, a = some ⟨g, o, none⟩ ∧ Blk w g e cs ∧ (cs.drop o).take (n * q) = xs)
section
variable {T e : TypeId} {q by' : Nat} {z : Value} {w w' : World} {v : Value} {n : Nat} {xs : List Value}
theorem Vw.of_row {B : Nat} (h : w.ownsRow B e q v n xs) : Vw w e q v n xs := by
  obtain ⟨h1, h2⟩ := h
  refine ⟨h1, ?_⟩
  rcases h2 with ⟨rfl, rfl⟩ | ⟨g, cap, cur, rfl, hg, hh, h3, h4, h5, h6⟩
  · exact ⟨none, 0, rfl, Nat.le_refl _, fun h => absurd rfl h⟩
  · exact ⟨_, _, rfl, h3, fun _ => ⟨g, 0, cur.toList, rfl, by unfold Blk; simpa using hh, by simpa using h6⟩⟩
theorem Vw.on (h : Vw w e q v n xs) (hb : Below w.heap.size w w') : Vw w' e q v n xs := by
  obtain ⟨h1, a, c, h2, h3, h4⟩ := h
  exact ⟨h1, a, c, h2, h3, fun h0 => by obtain ⟨g, o, cs, e1, e2, e3⟩ := h4 h0; exact ⟨g, o, cs, e1, e2.on hb, e3⟩⟩
theorem Vw.same (h : Vw w e q v n xs) (hk : ∀ k, v.ownBlock = some k → w'.heap[k]? = w.heap[k]?) : Vw w' e q v n xs := by
  obtain ⟨h1, a, c, h2, h3, h4⟩ := h
  subst h2
  exact ⟨h1, a, c, rfl, h3, fun h0 => by obtain ⟨g, o, cs, e1, e2, e3⟩ := h4 h0; subst e1; exact ⟨g, o, cs, rfl, e2.same (hk g rfl), e3⟩⟩
theorem Vw.to (R : Ro T e q by' z) (h : Vw w e q v n xs) {k : Nat} (hk : k ≤ n) : ∃ v1, (∀ W : World, (Instr.slice T v none (some (.int .i64 (k : Int))) none).run Tryz.prog W = .ok v1 W) ∧ ∀ W : World, Vw W e q v n xs → Vw W e q v1 k (xs.take (k * q)) := by
  obtain ⟨h1, a, c, rfl, h3, h4⟩ := h
  refine ⟨sliced a 0 k c q, fun W => ?_, fun W hW => ?_⟩
  · rw [run_slice_h W _ _ _ _ R.und2 .i64 k (by omega) (by omega), R.el, R.sz]
    simp
  · obtain ⟨g1, a', c', e', g3, g4⟩ := hW
    injection e' with e1 e2 e3
    subst e1 e3
    refine ⟨by rw [List.length_take, g1, Nat.min_eq_left (Nat.mul_le_mul_right _ hk)], ?_⟩
    unfold sliced
    refine ⟨_, _, rfl, by omega, fun h0 => ?_⟩
    obtain ⟨g, o, cs, e1, e2, e3⟩ := g4 (by omega)
    refine ⟨g, o, cs, ?_, e2, ?_⟩
    · rw [e1]
      split
      · rfl
      · simp [Addr.add_lit]
    · rw [← e3, List.take_take, Nat.min_eq_left (Nat.mul_le_mul_right _ hk)]
theorem Vw.from (R : Ro T e q by' z) (h : Vw w e q v n xs) {k : Nat} (hk : k ≤ n) : ∃ v1, (∀ W : World, (Instr.slice T v (some (.int .i64 (k : Int))) none none).run Tryz.prog W = .ok v1 W) ∧ ∀ W : World, Vw W e q v n xs → Vw W e q v1 (n - k) (xs.drop (k * q)) := by
  obtain ⟨h1, a, c, rfl, h3, h4⟩ := h
  refine ⟨sliced a k n c q, fun W => ?_, fun W hW => ?_⟩
  · rw [run_slice_l W _ _ _ _ R.und2 .i64 k (by omega) (by omega), R.el, R.sz]
    simp
  · obtain ⟨g1, a', c', e', g3, g4⟩ := hW
    injection e' with e1 e2 e3
    subst e1 e3
    refine ⟨by rw [List.length_drop, g1, Nat.sub_mul], ?_⟩
    unfold sliced
    refine ⟨_, _, rfl, by omega, fun h0 => ?_⟩
    obtain ⟨g, o, cs, e1, e2, e3⟩ := g4 (by omega)
    refine ⟨g, o + k * q, cs, ?_, e2, ?_⟩
    · rw [e1, if_neg (by omega)]
      simp [Addr.add_lit]
    · rw [← e3, List.drop_take, List.drop_drop, Nat.sub_mul]
/-- An element's place. -/
theorem vw_at (R : Ro T e q by' z) (g n cap i : Nat) (hi : i < n) (W : World) : (Instr.indexAt T (.slice (some ⟨g, 0, none⟩) n cap) (.int .i64 (i : Int))).run Tryz.prog W = .ok (.pointer (some ⟨g, i * q, none⟩)) W := by
  rw [run_indexAt_slice W _ _ _ _ .i64 i R.und2, if_pos ⟨by omega, by omega⟩, R.el, R.sz]
  simp only [Result.andThen_ok, Int.toNat_natCast]
  rw [Addr.add_lit, Nat.zero_add]
theorem row_at {B : Nat} (h : w.ownsRow B e q v n xs) (h0 : 0 < n) : ∃ g cap cs, v = .slice (some ⟨g, 0, none⟩) n cap ∧ Blk w g e cs ∧ cs.take (n * q) = xs ∧ n * q ≤ cs.length := by
  obtain ⟨h1, h2⟩ := h
  rcases h2 with ⟨rfl, rfl⟩ | ⟨g, cap, cur, rfl, hg, hh, h3, h4, h5, h6⟩
  · omega
  · refine ⟨g, cap, cur.toList, rfl, by unfold Blk; simpa using hh, h6, ?_⟩
    rw [Array.length_toList, h5]
    exact Nat.mul_le_mul_right _ h3
/-- A row whose block is turned, its first cells known. -/
theorem row_set {B : Nat} {g cap : Nat} {cs cs' ys : List Value} (h : w.ownsRow B e q (.slice (some ⟨g, 0, none⟩) n cap) n xs) (hb : Blk w g e cs) (hb' : Blk w' g e cs') (hl : cs'.length = cs.length) (hy : cs'.take (n * q) = ys) (hyl : ys.length = n * q) : w'.ownsRow B e q (.slice (some ⟨g, 0, none⟩) n cap) n ys := by
  obtain ⟨h1, h2⟩ := h
  refine ⟨hyl, ?_⟩
  rcases h2 with ⟨h2, _⟩ | ⟨g', cap', cur, h2, hg, hh, h3, h4, h5, h6⟩
  · cases h2
  · injection h2 with e1 e2 e3
    injection e1 with e1
    injection e1 with e1
    subst e1 e3
    right
    refine ⟨g, cap, cs'.toArray, rfl, hg, hb', h3, h4, ?_, by simpa using hy⟩
    have hcur : cs = cur.toList := by
      unfold Blk at hb
      rw [hh] at hb
      injection hb with hb
      injection hb with hb
      rw [hb]
    rw [List.size_toArray, hl, hcur, Array.length_toList, h5]
variable {dst : Option Tmp} {ty : TypeId} {pos : String} {aft : Array Edge} {gd : Option (Nat × Bool)} {a : Act} {K : Act → World → Prop} {Q : Exit → Act → World → Prop}
theorem grown_below {B : Nat} {row : Option Nat} (h : w.grownBy w' row) (hr : ∀ g, row = some g → B ≤ g) (hB : B ≤ w.heap.size) : Below B w w' :=
  ((Chs.refl (fun k => B ≤ k) w).thenGrown h (fun g hg => .inl (hr g hg))).below (fun k hk h => by omega) hB
theorem row_ge {B : Nat} (h : w.ownsRow B e q v n xs) {k : Nat} (hk : v.ownBlock = some k) : B ≤ k := by
  obtain ⟨h1, h2⟩ := h
  rcases h2 with ⟨rfl, rfl⟩ | ⟨g, cap, cur, rfl, hg, _⟩
  · cases hk
  · injection hk with hk
    have : g = k := hk
    omega
set_option maxRecDepth 100000 in
/-- Append of a part. -/
theorem run_appV (R : Ro T e q by' z) {B : Nat} {u : Value} {m : Nat} {ys : List Value} (hown : w.ownsRow B e q v n xs) (hu : Vw w e q u m ys) (h1 : ∀ x ∈ ys, x.oneCell' = true) (hlen : n + m ≤ 1099511627776) (hB : B ≤ w.heap.size) (ty : TypeId) :
    ∃ v' w', (Builtin.append_ #[T, T] ty #[v, u]).run Tryz.prog w = .ok v' w' ∧ w'.ownsRow B e q v' (n + m) (xs ++ ys) ∧ w.grownBy w' v.ownBlock ∧ (v'.ownBlock = v.ownBlock ∨ v'.ownBlock = some w.heap.size) := by
  obtain ⟨i0, hi, hz0, hz1, hz2⟩ := info_parts R.info
  obtain ⟨hl, ua, uc, rfl, hle, hat⟩ := hu
  by_cases h0 : m = 0
  · subst h0
    have hy : ys = [] := List.eq_nil_of_length_eq_zero (by rw [hl]; simp)
    subst hy
    obtain ⟨va, vc, rfl⟩ := row_slice hown
    have hc : n ≤ vc := by
      obtain ⟨_, h2⟩ := hown
      rcases h2 with ⟨h2, rfl⟩ | ⟨g, cap, cur, h2, hg, hh, h3, _⟩
      · omega
      · injection h2 with _ _ e3
        omega
    refine ⟨_, w, run_append_nothing w T T ty e i0 R.und hi va n vc hc _ ⟨.inl ⟨e, R.und⟩, fun w' => by simp [Builtin.lenOf], ?_, ?_, by simp, by simp⟩, by simpa using hown, ?_, .inl rfl⟩
    · cases ua <;> simp [Builtin.firstCells, loadCells, loadCellsFrom]
    · cases ua <;> simp [Builtin.firstCells, loadCells, loadCellsFrom]
    · exact World.grownBy.refl _ _
  · obtain ⟨g, o, cs, rfl, hb, hcs⟩ := hat h0
    obtain ⟨v', w', hr, ho, hg, _, hat'⟩ := run_append_own_at (P := Tryz.prog) w B T ty e i0 z q by' R.und hi hz0 hz1 hz2 R.zs R.q0 v _ _ hown ⟨g, o, none⟩ m uc ys hl (fun j x hx => by
      rw [Addr.add_lit, hb.cell]
      have : ys[j]? = cs[o + j]? := by
        rw [← hcs, List.getElem?_take, List.getElem?_drop, if_pos (by have := (List.getElem?_eq_some_iff.1 hx).1; omega)]
      rw [← this]
      exact hx) h1 (by unfold maxLen; omega) (by have := R.q9; have : (n + m) * by' ≤ 1099511627776 * 128 := Nat.mul_le_mul hlen R.q9; omega) hB
    exact ⟨v', w', hr, ho, hg, hat'⟩
theorem wp_appV (R : Ro T e q by' z) {s x : Operand} {B : Nat} {u : Value} {m : Nat} {ys : List Value} (hs : a.eval s = v) (hx : a.eval x = u) (hown : w.ownsRow B e q v n xs) (hu : Vw w e q u m ys) (h1 : ∀ x ∈ ys, x.oneCell' = true) (hlen : n + m ≤ 1099511627776) (hB : B ≤ w.heap.size)
    (h : ∀ v' w', w'.ownsRow B e q v' (n + m) (xs ++ ys) → w.grownBy w' v.ownBlock → (v'.ownBlock = v.ownBlock ∨ v'.ownBlock = some w.heap.size) → K (a.put dst v') w') :
    Oper.wp Tryz.prog ⟨dst, .call { callee := .builtin .append, args := #[s, x], argTypes := #[T, T] }, ty, pos, aft, gd⟩ a w K Q := by
  obtain ⟨v', w', hr, h2, h3, h4⟩ := run_appV R hown hu h1 hlen hB ty
  unfold Oper.wp execOp
  simp only [resolve, invoke, builtin, Sem.run_bind, Sem.run_pure, Result.andThen_ok, List.map_toArray, List.map_cons, List.map_nil, hs, hx, hr]
  exact h v' w' h2 h3 h4
theorem step_appV {ops : Array Oper} {rest : List Oper} (R : Ro T e q by' z) {s x : Operand} (hw : Region.wanted ⟨dst, .call { callee := .builtin .append, args := #[s, x], argTypes := #[T, T] }, ty, pos, aft, gd⟩ (yielded ops a.tmps) = true) {B : Nat} {u : Value} {m : Nat} {ys : List Value} (hs : a.eval s = v) (hx : a.eval x = u) (hown : w.ownsRow B e q v n xs) (hu : Vw w e q u m ys) (h1 : ∀ x ∈ ys, x.oneCell' = true) (hlen : n + m ≤ 1099511627776) (hB : B ≤ w.heap.size)
    (h : ∀ v' w', w'.ownsRow B e q v' (n + m) (xs ++ ys) → w.grownBy w' v.ownBlock → (v'.ownBlock = v.ownBlock ∨ v'.ownBlock = some w.heap.size) → wpList Tryz.prog ops Q rest (a.put dst v') w') :
    wpList Tryz.prog ops Q (⟨dst, .call { callee := .builtin .append, args := #[s, x], argTypes := #[T, T] }, ty, pos, aft, gd⟩ :: rest) a w := by
  obtain ⟨v', w', hr, h2, h3, h4⟩ := run_appV R hown hu h1 hlen hB ty
  refine step_run hw v' w' ?_ (h v' w' h2 h3 h4)
  unfold execOp
  simp only [resolve, invoke, builtin, Sem.run_bind, Sem.run_pure, Result.andThen_ok, List.map_toArray, List.map_cons, List.map_nil, hs, hx, hr]
end

end Go.Proofs.YtpocadbhajacaaaGreatDoor

/-
  Slices of names.
-/
namespace Go.Proofs.YtpocadbhajacaaaGreatDoor
open Go.RowKit
set_option linter.unusedVariables false

theorem rSt : Ro 74 9 1 16 (.string ByteArray.empty) := ⟨by kernel_rfl, by kernel_rfl, by kernel_rfl, rfl, by decide, by decide, fun w => by kernel_rfl⟩
theorem build_S (n : ByteArray) (w : World) : (Instr.buildSlice 74 1 #[(0, .string n)]).run Tryz.prog w = .ok (.slice (some ⟨w.heap.size, 0, none⟩) 1 1) (w.alloc (.cells #[.string n] 9)) := by kernel_rfl
section
variable {dst : Option Tmp} {ty : TypeId} {pos : String} {aft : Array Edge} {gd : Option (Nat × Bool)} {ops : Array Oper} {rest : List Oper} {a : Act} {w : World} {Q : Exit → Act → World → Prop}
set_option maxRecDepth 100000 in
theorem step_oneS {x : Operand} {n : ByteArray} (hw : Region.wanted ⟨dst, .buildSlice 74 1 #[(0, x)], ty, pos, aft, gd⟩ (yielded ops a.tmps) = true) (hx : a.eval x = .string n) (h : ∀ w1 v, Vw w1 9 1 v 1 [.string n] → Below w.heap.size w w1 → wpList Tryz.prog ops Q rest (a.put dst v) w1) :
    wpList Tryz.prog ops Q (⟨dst, .buildSlice 74 1 #[(0, x)], ty, pos, aft, gd⟩ :: rest) a w := by
  refine step_run hw (.slice (some ⟨w.heap.size, 0, none⟩) 1 1) (w.alloc (.cells #[.string n] 9)) ?_ (h _ _ ⟨rfl, _, _, rfl, Nat.le_refl _, fun _ => ⟨_, 0, [.string n], rfl, Blk.made w 9 [.string n], rfl⟩⟩ ((Below.refl _ _).alloc (Nat.le_refl _) _))
  unfold execOp
  simp only [List.map_toArray, List.map_cons, List.map_nil, hx]
  simp only [Sem.run_bind, build_S, Result.andThen_ok, Sem.run_pure]
end
def nmsC (l : List (ByteArray × List Int)) : List Value := l.map fun x => .string x.1
theorem nmsC_succ (l : List (ByteArray × List Int)) {k : Nat} {x : ByteArray × List Int} (h : l[k]? = some x) : nmsC (l.take (k + 1)) = nmsC (l.take k) ++ [.string x.1] := by
  obtain ⟨hi, rfl⟩ := List.getElem?_eq_some_iff.1 h
  rw [List.take_succ_eq_append_getElem hi]
  unfold nmsC
  rw [List.map_append]
  rfl

end Go.Proofs.YtpocadbhajacaaaGreatDoor

/-
  Files by names, without any program: which names may be; how many bytes they have.
-/
namespace Go.Proofs.YtpocadbhajacaaaGreatDoor
open Go.RowKit
set_option linter.unusedVariables false
set_option linter.unusedSimpArgs false

/-- Files have names. -/
def Nmd (F : ByteArray → Option (List Int)) : Prop := ∀ n, nmB n = false → F n = none
theorem Nmd.doR {F : ByteArray → Option (List Int)} (h : Nmd F) {r : Rw} (hr : Leg F r) : Nmd (doR F r) := by
  intro n hn
  have key : ∀ (m : ByteArray) v, nmB m = true → upd F m v n = F n := fun m v hm => upd_ne F v (fun e => by rw [e, hm] at hn; cases hn)
  rcases hr with ⟨m, rfl, hm, _⟩ | ⟨m, b, xs, rfl, hm, _⟩ | ⟨m, k, xs, rfl, hm, _⟩ | ⟨m, xs, rfl, hm, _⟩ | ⟨m, t, xs, rfl, hm, ht, _⟩
  · rw [do_cr, key _ _ hm]; exact h n hn
  · rw [do_ap, key _ _ hm]; exact h n hn
  · rw [do_cu, key _ _ hm]; exact h n hn
  · rw [do_rm, key _ _ hm]; exact h n hn
  · rw [do_rn, upd_ne _ _ (fun e => by rw [e, hm] at hn; cases hn), key _ _ ht]; exact h n hn
theorem Nmd.val {s : Nat} : ∀ (rs : List Rw) (F : ByteArray → Option (List Int)), Nmd F → Val s F rs → Nmd (rs.foldl Go.Proofs.YtpocadbhajacaaaGreatDoor.doR F)
  | [], F, h, _ => h
  | r :: t, F, h, hv => Nmd.val t _ (h.doR hv.1.1) hv.2
theorem Nmd.play {s : Nat} {rs : List Rw} (hv : Val s (fun _ => none) rs) : Nmd (play rs) := Nmd.val rs _ (fun _ _ => rfl) hv
theorem fl_none {F : ByteArray → Option (List Int)} {n : ByteArray} (h : F n = none) : fl F n = [] := by simp [fl, h]
theorem least (p : Nat → Bool) : ∀ B, p B = false → ∃ n, (∀ j, j < n → p j = true) ∧ p n = false
  | 0, h => ⟨0, by omega, h⟩
  | B + 1, h => by
    by_cases hq : ∀ j, j < B + 1 → p j = true
    · exact ⟨B + 1, hq, h⟩
    · obtain ⟨j, hj, hp⟩ : ∃ j, j < B + 1 ∧ p j = false := by
        apply Classical.byContradiction
        intro hn
        exact hq (fun j hj => by
          cases e : p j with
          | true => rfl
          | false => exact absurd ⟨j, hj, e⟩ hn)
      have key : ∀ m, p m = false → ∃ n, (∀ j, j < n → p j = true) ∧ p n = false := by
        intro m
        induction m using Nat.strongRecOn with
        | _ m ih =>
          intro hm
          by_cases hq : ∃ j, j < m ∧ p j = false
          · obtain ⟨j, h1, h2⟩ := hq
            exact ih j h1 h2
          · refine ⟨m, fun j hj => ?_, hm⟩
            cases e : p j with
            | true => rfl
            | false => exact absurd ⟨j, hj, e⟩ hq
      exact key j hp
theorem fl_upS (F : ByteArray → Option (List Int)) (m : ByteArray) (v : Option (List Int)) : fl (upd F m v) m = v.getD [] := by unfold fl; rw [upd_same]
end Go.Proofs.YtpocadbhajacaaaGreatDoor

/-
  What Puts write, and what calls of a disk leave: what layers above disk have in common (out of Skb, Ske, Spu, SpwLaw).
-/
namespace Go.Proofs.YtpocadbhajacaaaGreatDoor
open Go.RowKit
set_option linter.unusedVariables false
set_option linter.unusedSimpArgs false
set_option maxRecDepth 100000

/-- What Put writes: a file where there is none, and a digest. -/
def puW (s : Nat) (rs : List Rw) (n : ByteArray) (x : List Int) : List Rw := apS s (crS rs n) n x
/-! ### the raw writes of a Put -/
theorem crS_is {rs : List Rw} {n : ByteArray} (hn : nmB n = true) : crS rs n = if play rs n = none then rs ++ [rCr n] else rs := by
  unfold crS crE
  rw [if_pos hn]
  cases hf : play rs n with
  | none => simp
  | some xs => simp
/-- What Put's raw writes make, and those of a beginning of them. -/
theorem puW_play {s : Nat} {rs : List Rw} (hs : 1 ≤ s) (hv : Val s (fun _ => none) rs) {n : ByteArray} (hn : nmB n = true) {x : List Int} (h0 : x ≠ []) (hB : isB x) :
    Val s (fun _ => none) (puW s rs n x) ∧ play (puW s rs n x) = upd (play rs) n (some (fl (play rs) n ++ x)) ∧ wt (puW s rs n x) ≤ wt rs + 2 * x.length + 2 := by
  have key : ∀ qs : List Rw, Val s (fun _ => none) qs → (∃ ys, play qs n = some ys) → Val s (fun _ => none) (apS s qs n x) ∧ play (apS s qs n x) = upd (play qs) n (some (fl (play qs) n ++ x)) ∧ wt (apS s qs n x) ≤ wt qs + 2 * x.length + 1 := by
    rintro qs hq ⟨ys, hys⟩
    have e0 : fE qs n = 0 := by simp [fE, hn, hys]
    have e1 : apS s qs n x = qs ++ expd s ⟨rAp n x, qs.length, (fl (play qs) n).length⟩ := by unfold apS; rw [if_pos ⟨e0, h0⟩]
    have hl : Leg (play qs) (rAp n x) := .inr (.inl ⟨n, x, ys, rfl, hn, hys, h0, hB⟩)
    obtain ⟨d1, d2⟩ := expd_does hs (e := ⟨rAp n x, qs.length, (fl (play qs) n).length⟩) hl rfl
    rw [e1]
    refine ⟨(Val_app s qs _ _).2 ⟨hq, d2⟩, ?_, ?_⟩
    · rw [play_app]
      show List.foldl doR (play qs) _ = _
      rw [d1]
      exact do_ap _ _ _
    · rw [wt_app]
      have := expd_wt hs ⟨rAp n x, qs.length, (fl (play qs) n).length⟩
      change _ ≤ 2 * x.length + 1 at this
      omega
  unfold puW
  rw [crS_is hn]
  by_cases hf : play rs n = none
  · rw [if_pos hf]
    have e2 : play (rs ++ [rCr n]) = upd (play rs) n (some []) := by rw [play_snoc, do_cr]
    have hv2 : Val s (fun _ => none) (rs ++ [rCr n]) := (Val_app s rs _ _).2 ⟨hv, ⟨.inl ⟨n, rfl, hn, hf⟩, fun h => by simp [rCr] at h⟩, trivial⟩
    obtain ⟨a, b, c⟩ := key _ hv2 ⟨[], by rw [e2, upd_same]⟩
    refine ⟨a, ?_, ?_⟩
    · rw [b, e2, upd_upd, fl_upS]
      simp [fl_none hf]
    · rw [wt_app] at c
      have e : wt [rCr n] = 1 := rfl
      omega
  · rw [if_neg hf]
    obtain ⟨ys, hys⟩ : ∃ ys, play rs n = some ys := by
      cases h : play rs n with
      | none => exact absurd h hf
      | some ys => exact ⟨ys, rfl⟩
    obtain ⟨a, b, c⟩ := key _ hv ⟨ys, hys⟩
    exact ⟨a, b, by omega⟩

theorem DkAt.valS {w : World} {d s : Nat} {rs : List Rw} {D : Dm} (h : DkAt w d s rs D) : Val s (fun _ => none) rs := by
  have := h.rok.val h.s1 (D.es.map (·.1)).length (Nat.le_refl _)
  rwa [List.take_length, h.raw] at this
theorem DkAt.byB {w : World} {d s : Nat} {rs : List Rw} {D : Dm} (h : DkAt w d s rs D) (n : ByteArray) : isB (fl (play rs) n) := by
  cases hf : play rs n with
  | none => simp only [fl, hf]; intro x hx; cases hx
  | some xs =>
    obtain ⟨v, _, _, hb⟩ := h.fil.get hf
    simp only [fl, hf]
    exact hb
theorem isB.dropS {xs : List Int} (h : isB xs) (n : Nat) : isB (xs.drop n) := fun x hx => h x (List.mem_of_mem_drop hx)
theorem isB.takeS {xs : List Int} (h : isB xs) (n : Nat) : isB (xs.take n) := fun x hx => h x (List.mem_of_mem_take hx)
theorem crS_some {rs : List Rw} {n : ByteArray} {xs : List Int} (hn : nmB n = true) (h : play rs n = some xs) : crS rs n = rs := by
  have e : crE rs n = 120 := by simp [crE, hn, h]
  simp [crS, e]
theorem OpR.pre {w w0 w1 : World} {d s : Nat} {D : Dm} {rs : List Rw} (hb : Below w.heap.size w w0) (h : OpR w0 w1 d s D rs) : OpR w w1 d s D rs := by
  obtain ⟨D', h1, h2, h3, h4⟩ := h
  have hs := hb.size
  exact ⟨D', h1, (Chs.of_below _ hb).after h2 (fun k hk => .inl hk), fun k hk => (h3 k hk).imp id (fun h => Nat.le_trans hs h), fun k hk => (h4 k hk).imp id (fun h => Nat.le_trans hs h)⟩
theorem OpR.comp {w w1 w2 : World} {d s : Nat} {D D1 : Dm} {rs2 : List Rw} (a2 : Chs (D.own d) w w1) (a3 : ∀ k, D1.own d k → D.own d k ∨ w.heap.size ≤ k) (a4 : ∀ k, D1.ro k → D.ro k ∨ w.heap.size ≤ k) (h : OpR w1 w2 d s D1 rs2) : OpR w w2 d s D rs2 := by
  obtain ⟨D', h1, h2, h3, h4⟩ := h
  have hs := a2.size
  refine ⟨D', h1, a2.after h2 a3, fun k hk => ?_, fun k hk => ?_⟩
  · rcases h3 k hk with h | h
    · exact a3 k h
    · exact .inr (Nat.le_trans hs h)
  · rcases h4 k hk with h | h
    · exact a4 k h
    · exact .inr (Nat.le_trans hs h)
theorem OpR.post {w w1 w2 : World} {d s : Nat} {D : Dm} {rs : List Rw} (h : OpR w w1 d s D rs) (hb : Below w1.heap.size w1 w2) : OpR w w2 d s D rs := by
  obtain ⟨D', h1, h2, h3, h4⟩ := h
  exact ⟨D', h1.below hb, h2.after (Chs.of_below (fun _ => False) hb) (fun k hk => hk.elim), h3, h4⟩
end Go.Proofs.YtpocadbhajacaaaGreatDoor

/-
  A range over a function that hands out what lies in memory: at each round the body is told what lies there, and the function what the body has left as it was.
-/
namespace Go.Proofs.YtpocadbhajacaaaGreatDoor
open Go.RowKit Go.Shelf
set_option linter.unusedVariables false

section
variable {F : Fence} {n : Nat} {P : Program}
/-- What a function that is ranged over does: R: what it sees to when it hands out x behind pre; Kp: what it asks of a round that goes on. -/
def SeqR {α : Type} (F : Fence) (n : Nat) (P : Program) (g : Nat) (lb : Array Value) (encs : α → Array Value) (R : List α → α → World → Prop) (Kp : α → World → World → Prop) (S Sp : List α → Prop) (w : World) : Prop :=
  ∀ (l : Nat) (J Jx : List α → World → Prop) (W : World), Below w.heap.size w W → AbidesFrom W.heap.size J → AbidesFrom W.heap.size Jx →
    (∀ pre x W1, J pre W1 → R pre x W1 → YieldAt F (n - 1) P l (encs x) W1 fun e W' => (e = .returned (.bool true) ∧ J (pre ++ [x]) W' ∧ Kp x W1 W') ∨ (e = .returned (.bool false) ∧ Jx (pre ++ [x]) W')) →
    J [] W → CallsIn F n P g (#[.func (.yield l) #[] #[]] ++ lb) W fun e W' => (∃ v, e = .returned v) ∧ ((∃ xs, S xs ∧ J xs W') ∨ (∃ pre, Sp pre ∧ Jx pre W'))

/-- The loop's record. -/
def lrec (fn : FuncId) (tmps : Array Value) (ps : Array Tmp) (assign body : Code) (D : Nat) (st : LoopState) (pe : Option Code) : Loop :=
  { state := st, pending := pe, fn := fn, tmps := tmps, params := ps, assign := assign, body := body, defers := D }
/-- The record lies behind the block for what is deferred. -/
structure Bk (r : Loop) (D : Nat) (W : World) : Prop where
  loop : W.heap[D + 1]? = some (.loop r)
  mark : W.heap[D]? = some (.deferred (some []))
theorem Bk.keep {r : Loop} {D : Nat} {W W' : World} (h : Bk r D W) (k : KeepsFrom D W W') : Bk r D W' :=
  ⟨k.same _ _ (by omega) h.loop rfl, k.same _ _ (Nat.le_refl _) h.mark rfl⟩
theorem Bk.put {r : Loop} {D : Nat} {W : World} (h : Bk r D W) (r' : Loop) : Bk r' D (W.putObj (D + 1) (.loop r')) :=
  ⟨World.putObj_heap_same (Array.getElem?_eq_some_iff.1 h.loop).1, (World.putObj_heap_other (by omega)).trans h.mark⟩
theorem Bk.abide {r : Loop} {D B : Nat} {W W' : World} {row : Option Nat} (h : Bk r D W) (hg : W.grownBy W' row) (hr : ∀ q, row = some q → B ≤ q ∧ ∃ o : Obj, W.heap[q]? = some o ∧ o.isWalk = true) : Bk r D W' :=
  ⟨(grownBy_keeps hg (fun q e => (hr q e).2) h.loop rfl).trans h.loop, (grownBy_keeps hg (fun q e => (hr q e).2) h.mark rfl).trans h.mark⟩
theorem Bk.new (w : World) (r : Loop) : Bk r w.heap.size ((w.alloc (.deferred (some []))).alloc (.loop r)) := by
  constructor
  · have := World.alloc_heap_new (w.alloc (.deferred (some []))) (.loop r)
    rwa [World.size_alloc] at this
  · exact (Below.heap_alloc _ _ _ (by simp)).trans (World.alloc_heap_new w _)

/-- One round: what the body leaves is what yield hands back. -/
theorem round_R {m : Nat} {fn : FuncId} {tmps : Array Value} {ps : Array Tmp} {assign body : Code} {D : Nat} (hfn : F.fn fn) {args : Array Value} (hps : args.size = ps.size) {W : World} (hB : Bk (lrec fn tmps ps assign body D .ready none) D W) {a' : Act} {Post : Ending → World → Prop}
    (hassign : ∀ K : Act → World → Prop, K a' W → assign.wpIn (F.inRound (D + 1)) m P (Exit.then K (fun _ _ _ => False)) { tmps := (ps.zip args).foldl (fun t (p, v) => t.setIfInBounds p v) tmps, defers := [] } W)
    (hbody : body.wpIn (F.inRound (D + 1)) m P (fun e _ W' => match e with
      | .normal => Bk (lrec fn tmps ps assign body D .busy none) D W' ∧ Post (.returned (.bool true)) (W'.putObj (D + 1) (.loop (lrec fn tmps ps assign body D .ready none)))
      | .ret => Bk (lrec fn tmps ps assign body D .busy none) D W' ∧ Post (.returned (.bool false)) (W'.putObj (D + 1) (.loop (lrec fn tmps ps assign body D .done (some .ret))))
      | .exit id => Bk (lrec fn tmps ps assign body D .busy none) D W' ∧ Post (.returned (.bool false)) (W'.putObj (D + 1) (.loop (lrec fn tmps ps assign body D .done (some (.exit id)))))
      | .goto u => Bk (lrec fn tmps ps assign body D .busy none) D W' ∧ Post (.returned (.bool false)) (W'.putObj (D + 1) (.loop (lrec fn tmps ps assign body D .done (some (.goto u)))))
      | _ => False) a' (W.putObj (D + 1) (.loop (lrec fn tmps ps assign body D .busy none)))) :
    YieldAt F m P (D + 1) args W Post := by
  refine ⟨fn, _, assign, body, run_yield (P := P) (args := args) hB.loop hps, roundIn_of_wpIn hfn (hassign _ ?_)⟩
  refine ⟨_, run_beginRound hB.loop rfl, wpIn_mono hbody ?_⟩
  intro e a3 W3 hp
  cases e with
  | normal => exact ⟨_, _, run_endRound none hp.1.loop, hp.2⟩
  | ret => exact ⟨_, _, run_endRound (some .ret) hp.1.loop, hp.2⟩
  | exit id => exact ⟨_, _, run_endRound (some (.exit id)) hp.1.loop, hp.2⟩
  | goto u => exact ⟨_, _, run_endRound (some (.goto u)) hp.1.loop, hp.2⟩
  | panic ch => exact hp.elim
  | outgrown => exact hp.elim

theorem rangeR {α : Type} {g : Operand} {ps : Array Tmp} {assign body : Code} {Q : Exit → Act → World → Prop} {a : Act} {w : World}
    (hro : F.round = none) (h1 : 1 ≤ n) {gf : Nat} {lb : Array Value} (hg : a.eval g = .func (.func gf) #[] lb) (hFg : F.fn gf) (eg : ∀ args w, (callFunc gf args).run P w = .ok (.enter gf args) w)
    {encs : α → Array Value} {R : List α → α → World → Prop} {Kp : α → World → World → Prop} {S Sp : List α → Prop} (hseq : SeqR F (n - 1) P gf lb encs R Kp S Sp w)
    (hKt : ∀ {x : α} {A B C : World}, Kp x A B → Kp x B C → Kp x A C) (hKb : ∀ (x : α) (W : World) (l : Nat) (o o' : Obj), w.heap.size ≤ l → W.heap[l]? = some o → o.isCells = false → Kp x W (W.putObj l o')) (hps : ∀ x, (encs x).size = ps.size)
    (hR : ∀ pre x, OwnFrom w.heap.size (fun (_ : Unit) W => R pre x W))
    (I : List α → World → Prop) (Ix : Code → List α → World → Prop) (hI : OwnFrom w.heap.size I) (hIx : ∀ c, OwnFrom w.heap.size (Ix c)) (h0 : I [] w) (a₁ : α → Act)
    (hassign : ∀ (l : Nat) (x : α) (W : World) (K : Act → World → Prop), K (a₁ x) W →
      assign.wpIn (F.inRound l) (n - 1 - 1) P (Exit.then K (fun _ _ _ => False)) { tmps := (ps.zip (encs x)).foldl (fun t (p, v) => t.setIfInBounds p v) a.tmps, defers := [] } W)
    (hbody : ∀ (l : Nat) (pre : List α) (x : α) (W : World), I pre W → R pre x W → body.wpIn (F.inRound l) (n - 1 - 1) P (ownPostG w.heap.size (Kp x) I Ix (pre ++ [x]) W) (a₁ x) W)
    (hdone : ∀ (D : Nat) (xs : List α) (W : World), w.heap.size ≤ D → S xs → I xs W → W.heap[D]? = some (.deferred (some [])) → Q .normal { a with defers := { target := .collected D, args := #[] } :: a.defers } W)
    (hstop : ∀ (D : Nat) (c : Code) (pre : List α) (W : World), w.heap.size ≤ D → Sp pre → Ix c pre W → W.heap[D]? = some (.deferred (some [])) → c.wpIn F n P Q { a with defers := { target := .collected D, args := #[] } :: a.defers } W) :
    (Code.rangeFunc g ps assign body).wpIn F n P Q a w := by
  refine wpIn_rangeFunc fun fn hfn => ?_
  rw [hro]
  obtain ⟨W1, hW1⟩ : ∃ W1, (w.alloc (.deferred (some []))).alloc (.loop (lrec fn a.tmps ps assign body w.heap.size .ready none)) = W1 := ⟨_, rfl⟩
  have B1 : Bk (lrec fn a.tmps ps assign body w.heap.size .ready none) w.heap.size W1 := by rw [← hW1]; exact Bk.new w _
  have b1 : Below w.heap.size w W1 := by rw [← hW1]; exact ((Below.refl _ w).alloc (Nat.le_refl _) _).alloc (by simp) _
  have s1 : w.heap.size ≤ W1.heap.size := b1.size
  have far : ∀ {A : World} {row : Option Nat}, (∀ r, row = some r → W1.heap.size ≤ r ∧ ∃ o : Obj, A.heap[r]? = some o ∧ o.isWalk = true) → ∀ r, row = some r → w.heap.size ≤ r ∧ ∃ o : Obj, A.heap[r]? = some o ∧ o.isCells = false :=
    fun hr r e => by obtain ⟨hb, o, ho, hw⟩ := hr r e; exact ⟨by omega, o, ho, Obj.not_cells_of_walk hw⟩
  refine ⟨w.heap.size + 1, [{ target := .collected w.heap.size, args := #[] }], W1, { target := .fn (.func gf) lb, args := #[.func (.yield (w.heap.size + 1)) #[] #[]] }, W1, gf,
    #[.func (.yield (w.heap.size + 1)) #[] #[]] ++ lb, W1, by rw [← hW1]; exact run_enterLoop_outer _ _ _ _ _, by simp only [resolve, hg]; simp [go_sem], fun f' hf' => by simp [Target.leads] at hf'; subst hf'; exact hFg, by simp [invoke, go_sem, eg], fun _ => h1, ?_⟩
  refine (hseq (w.heap.size + 1) (fun pre W => I pre W ∧ Bk (lrec fn a.tmps ps assign body w.heap.size .ready none) w.heap.size W) (fun pre W => ∃ c, Ix c pre W ∧ Bk (lrec fn a.tmps ps assign body w.heap.size .done (some c)) w.heap.size W) W1 b1
    (fun s A B row hs hg' hr => ⟨hI s A B row hs.1 hg' (far hr), hs.2.abide hg' hr⟩)
    (fun s A B row hs hg' hr => by obtain ⟨c, hc, hb⟩ := hs; exact ⟨c, hIx c s A B row hc hg' (far hr), hb.abide hg' hr⟩) ?_
    ⟨by rw [← hW1]; exact hI.alloc _ (hI.alloc _ h0), B1⟩).mono ?_
  · rintro pre x W ⟨hi, hB⟩ hr
    refine round_R hfn (hps x) hB (hassign _ x W) ?_
    have hB2 := hB.put (lrec fn a.tmps ps assign body w.heap.size .busy none)
    have hK2 : Kp x W (W.putObj (w.heap.size + 1) (.loop (lrec fn a.tmps ps assign body w.heap.size .busy none))) := hKb x _ _ _ _ (by omega) hB.loop rfl
    refine wpIn_mono (hbody _ pre x _ (hI.putObj _ hi (by omega) hB.loop rfl) ((hR pre x).putObj (s := ()) _ hr (by omega) hB.loop rfl)) ?_
    intro e a3 W3 hp
    cases e with
    | normal =>
      have hB3 := hB2.keep hp.1
      exact ⟨hB3, .inl ⟨rfl, ⟨hI.putObj _ hp.2.2 (by omega) hB3.loop rfl, hB3.put _⟩, hKt hK2 (hKt hp.2.1 (hKb x _ _ _ _ (by omega) hB3.loop rfl))⟩⟩
    | ret =>
      have hB3 := hB2.keep hp.1
      exact ⟨hB3, .inr ⟨rfl, .ret, (hIx _).putObj _ hp.2 (by omega) hB3.loop rfl, hB3.put _⟩⟩
    | exit id =>
      have hB3 := hB2.keep hp.1
      exact ⟨hB3, .inr ⟨rfl, .exit id, (hIx _).putObj _ hp.2 (by omega) hB3.loop rfl, hB3.put _⟩⟩
    | goto u =>
      have hB3 := hB2.keep hp.1
      exact ⟨hB3, .inr ⟨rfl, .goto u, (hIx _).putObj _ hp.2 (by omega) hB3.loop rfl, hB3.put _⟩⟩
    | panic ch => exact hp.elim
    | outgrown => exact hp.elim
  · rintro e W2 ⟨⟨v, rfl⟩, (⟨xs, hS, hi, hB⟩ | ⟨pre, hSp, c, hi, hB⟩)⟩
    · exact ⟨none, _, run_endLoop (P := P) hB.loop (by simp [lrec]), hdone _ xs _ (Nat.le_refl _) hS (hI.putObj _ hi (by omega) hB.loop rfl) ((World.putObj_heap_other (by omega)).trans hB.mark)⟩
    · exact ⟨some c, _, run_endLoop (P := P) hB.loop (by simp [lrec]), hstop _ c pre _ (Nat.le_refl _) hSp ((hIx c).putObj _ hi (by omega) hB.loop rfl) ((World.putObj_heap_other (by omega)).trans hB.mark)⟩
end

end Go.Proofs.YtpocadbhajacaaaGreatDoor

/-
  A range over a function that hands out what lies in memory: the body is told besides where the last round left the world.
-/
namespace Go.Proofs.YtpocadbhajacaaaGreatDoor
open Go.RowKit Go.Shelf
set_option linter.unusedVariables false

section
variable {F : Fence} {n : Nat} {P : Program}
/-- What a function that is ranged over does: R: what it sees to when it hands out x behind pre, with the world as the last round left it; Kp: what it asks of a round that goes on. -/
def SeqQ {α : Type} (F : Fence) (n : Nat) (P : Program) (g : Nat) (lb : Array Value) (encs : α → Array Value) (R : List α → α → World → World → Prop) (Kp : α → World → World → Prop) (S Sp : List α → Prop) (w : World) : Prop :=
  ∀ (l : Nat) (J Jx : List α → World → Prop) (W : World), Below w.heap.size w W → AbidesFrom W.heap.size J → AbidesFrom W.heap.size Jx →
    (∀ pre x W0 W1, J pre W0 → Below W0.heap.size W0 W1 → J pre W1 → R pre x W0 W1 → YieldAt F (n - 1) P l (encs x) W1 fun e W' => (e = .returned (.bool true) ∧ J (pre ++ [x]) W' ∧ Kp x W1 W') ∨ (e = .returned (.bool false) ∧ Jx (pre ++ [x]) W')) →
    J [] W → CallsIn F n P g (#[.func (.yield l) #[] #[]] ++ lb) W fun e W' => (∃ v, e = .returned v) ∧ ((∃ xs, S xs ∧ J xs W') ∨ (∃ pre, Sp pre ∧ Jx pre W'))

end

end Go.Proofs.YtpocadbhajacaaaGreatDoor

/-
  A region that draws its order and only reads, inside a round of a range over a function (the text of Km, for seats that keep other things).
-/

namespace Go.Proofs.YtpocadbhajacaaaGreatDoor
open Go.RowKit Go.Shelf
set_option linter.unusedVariables false

/-- A region that draws its order and only reads, inside a round: one walk serves every order. -/
def noDefer (o : Oper) : Bool := match o.op with
  | .defer _ => false
  | _ => true
section
variable {F : Fence} {n : Nat} {P : Program} {ops : Array Oper} {md : Region.Mode} {C : World → Prop}
end

end Go.Proofs.YtpocadbhajacaaaGreatDoor

/-
  Worlds in which some blocks, or all cells, are kept; a range over a function within another one (out of Skf, Sck).
-/
namespace Go.Proofs.YtpocadbhajacaaaGreatDoor
open Go.RowKit Go.Shelf
set_option linter.unusedVariables false
set_option linter.unusedSimpArgs false
set_option maxRecDepth 100000

theorem PT.sameS {w w' : World} (h : PT w) (hb : w'.heap[2]? = w.heap[2]?) : PT w' := by
  unfold PT Lib.TabIs World.var? at *
  rw [gPT] at h ⊢
  simp only [Option.bind_some] at h ⊢
  rw [hb]
  exact h
theorem size_is {w : World} {d s : Nat} {rs : List Rw} {D : Dm} (h : DkAt w d s rs D) (n : ByteArray) : (if fE rs n = 0 then ((fl (play rs) n).length : Int) else 0) = ((fl (play rs) n).length : Int) := by
  by_cases hf : fE rs n = 0
  · rw [if_pos hf]
  · rw [if_neg hf]
    have hnone : play rs n = none := by
      by_cases hn : nmB n = true
      · cases hp : play rs n with
        | none => rfl
        | some xs => simp [fE, hn, hp] at hf
      · exact Nmd.play h.valS n (by simpa using hn)
    simp [fl, hnone]
/-- All cells are kept. -/
structure CK (A C : World) : Prop where
  size : A.heap.size ≤ C.heap.size
  keep : ∀ (k : Nat) (o : Obj), A.heap[k]? = some o → o.isCells = true → C.heap[k]? = some o
theorem CK.of_grown {A C : World} {row : Option Nat} (hg : A.grownBy C row) (hr : ∀ r, row = some r → ∃ o : Obj, A.heap[r]? = some o ∧ o.isCells = false) : CK A C :=
  ⟨hg.size, fun k o ho hc => by
    rw [hg.block k (Array.getElem?_eq_some_iff.1 ho).1 (fun e => by
      obtain ⟨q, hq, hn⟩ := hr k e.symm
      rw [ho] at hq
      injection hq with hq
      subst hq
      rw [hc] at hn
      cases hn)]
    exact ho⟩
theorem CK.below {A C : World} (h : Below A.heap.size A C) : CK A C := ⟨h.size, fun k o ho _ => (h.block k (Array.getElem?_eq_some_iff.1 ho).1).trans ho⟩
theorem CK.put {V : World} {D : Nat} {o : Obj} (o' : Obj) (h : V.heap[D]? = some o) (hc : o.isCells = false) : CK V (V.putObj D o') :=
  ⟨(grownBy_putObj' V D o').size, fun k q hq hcq => by
    rw [World.putObj_heap_other (fun e => by
      subst e
      rw [h] at hq
      injection hq with hq
      subst hq
      rw [hc] at hcq
      cases hcq)]
    exact hq⟩
theorem Blk.ck {A C : World} {g : Nat} {t : TypeId} {cs : List Value} (h : Blk A g t cs) (hk : CK A C) : Blk C g t cs := hk.keep g _ h rfl
theorem Own.ck {A C : World} {B : Nat} {v : Value} {xs : List Int} (h : Own A B v xs) (hk : CK A C) : Own C B v xs := h.same (fun k e => by
  obtain ⟨cs, hc⟩ := h.lies e
  exact (hc.ck hk).trans hc.symm)
theorem keepsO_below {A B : World} (h : Below A.heap.size A B) : KeepsOthers A B := ⟨h.size, fun k o hk _ => (h.block k (Array.getElem?_eq_some_iff.1 hk).1).trans hk⟩
theorem keepsO_but {A B : World} {g : Nat} {t : TypeId} {cs : List Value} (h : But g A B) (hg : Blk A g t cs) : KeepsOthers A B := ⟨Nat.le_of_eq h.size.symm, fun k o hk hc => (h.block k (fun e => by
  subst e
  rw [hg] at hk
  injection hk with hk
  subst hk
  cases hc)).trans hk⟩
theorem keepsO_grown {A B : World} {row : Option Nat} (h : A.grownBy B row) (hr : ∀ g, row = some g → ∃ t cs, Blk A g t cs) : KeepsOthers A B := ⟨h.size, fun k o hk hc => (h.block k (Array.getElem?_eq_some_iff.1 hk).1 (fun e => by
  obtain ⟨t, cs, hg⟩ := hr k e.symm
  rw [hg] at hk
  injection hk with hk
  subst hk
  cases hc)).trans hk⟩

/-- What is to be deferred is left. -/
def MarksFrom (B : Nat) (A C : World) : Prop := ∀ k : Nat, B ≤ k → A.heap[k]? = some (.deferred (some [])) → C.heap[k]? = some (.deferred (some []))
theorem marks_round {B q : Nat} {W W3 : World} {r r2 : Loop} {o o' : Obj} (hl : W.heap[q]? = some (.loop r)) (hk : KeepsFrom B (W.putObj q o) W3) (h3 : W3.heap[q]? = some (.loop r2)) : MarksFrom B W (W3.putObj q o') := fun k hB hq => by
  have hne : k ≠ q := fun e => by
    subst e
    rw [hq] at hl
    injection hl with hl
    cases hl
  rw [World.putObj_heap_other hne]
  exact hk.same k _ hB ((World.putObj_heap_other hne).trans hq) rfl
theorem Bk.own {r : Loop} {D : Nat} {W W' : World} {row : Option Nat} (h : Bk r D W) (hg : W.grownBy W' row) (hr : ∀ q, row = some q → D + 1 < q) : Bk r D W' :=
  ⟨(hg.block _ (Array.getElem?_eq_some_iff.1 h.loop).1 (fun e => by have := hr _ e.symm; omega)).trans h.loop, (hg.block _ (Array.getElem?_eq_some_iff.1 h.mark).1 (fun e => by have := hr _ e.symm; omega)).trans h.mark⟩
section
variable {F : Fence} {n : Nat} {P : Program}
/-- As SeqQ; of a round it knows besides that what is to be deferred is left. -/
def SeqL {α : Type} (F : Fence) (n : Nat) (P : Program) (g : Nat) (lb : Array Value) (encs : α → Array Value) (R : List α → α → World → World → Prop) (Kp : α → World → World → Prop) (S Sp : List α → Prop) (w : World) : Prop :=
  ∀ (l : Nat) (J Jx : List α → World → Prop) (W : World), Below w.heap.size w W → OwnFrom W.heap.size J → OwnFrom W.heap.size Jx →
    (∀ pre x W0 W1, J pre W0 → Below W0.heap.size W0 W1 → J pre W1 → R pre x W0 W1 → YieldAt F (n - 1) P l (encs x) W1 fun e W' => (e = .returned (.bool true) ∧ J (pre ++ [x]) W' ∧ Kp x W1 W' ∧ MarksFrom w.heap.size W1 W') ∨ (e = .returned (.bool false) ∧ Jx (pre ++ [x]) W' ∧ MarksFrom w.heap.size W1 W')) →
    J [] W → CallsIn F n P g (#[.func (.yield l) #[] #[]] ++ lb) W fun e W' => (∃ v, e = .returned v) ∧ ((∃ xs, S xs ∧ J xs W') ∨ (∃ pre, Sp pre ∧ Jx pre W'))

end

end Go.Proofs.YtpocadbhajacaaaGreatDoor

/-
  Slices of numbers of the call's own (out of Bxn).
-/
namespace Go.Proofs.YtpocadbhajacaaaGreatDoor
open Go.RowKit
set_option linter.unusedVariables false
set_option maxRecDepth 100000

/-- The cells of names. -/
def iC (hs : List Int) : List Value := hs.map (Value.int .i64)
theorem One.iC (hs : List Int) : One (iC hs) := by intro v hv; obtain ⟨x, _, rfl⟩ := List.mem_map.1 hv; rfl
theorem iC_length (hs : List Int) : (iC hs).length = hs.length := by simp [iC]
theorem iC_at (hs : List Int) (i : Nat) (n : Int) (h : hs[i]? = some n) : (iC hs)[i]? = some (.int .i64 n) := by simp [iC, h]
theorem info_someI {P : Program} {t : TypeId} {z : Option Value} {s b : Nat} (h : (P.info? t).map (fun i => (i.zero, i.size, i.bytes)) = some (z, s, b)) : ∃ i, P.info? t = some i ∧ i.zero = z ∧ i.size = s ∧ i.bytes = b := by
  cases hi : P.info? t with
  | none => simp [hi] at h
  | some i => simp [hi] at h; exact ⟨i, rfl, h.1, h.2.1, h.2.2⟩
theorem infoI : (Tryz.prog.info? 3).map (fun i => (i.zero, i.size, i.bytes)) = some (some (.int .i64 0), 1, 8) := by kernel_rfl
theorem undIl : Tryz.prog.underlying 84 = some (.slice 3) := by kernel_rfl
theorem undIs : Tryz.prog.underlying 84 = some (.slice (Tryz.prog.elem 84)) := by kernel_rfl
theorem elemIi : Tryz.prog.elem 84 = 3 := by kernel_rfl
theorem sizeIi (w : World) : (sizeOf 3).run Tryz.prog w = .ok 1 w := by kernel_rfl
theorem atIi (b n cap i : Nat) (I : Int) (hI : I = (i : Int)) (hi : i < n) (v : World) : (Instr.indexAt 84 (.slice (some ⟨b, 0, none⟩) n cap) (.int .i64 I)).run Tryz.prog v = .ok (.pointer (some ⟨b, i, none⟩)) v := by
  subst hI
  rw [run_indexAt_slice v _ _ _ _ .i64 i undIs, if_pos ⟨by omega, by omega⟩, elemIi, sizeIi]
  simp only [Result.andThen_ok, Int.toNat_natCast]
  rw [Addr.add_lit, Nat.zero_add, Nat.mul_one]
/-- In a slice of the call's own. -/
def OwnI (w : World) (B : Nat) (v : Value) (ns : List Int) : Prop := w.ownsRow B 3 1 v ns.length (iC ns)
theorem OwnI.nil (w : World) (B : Nat) : OwnI w B (.slice none 0 0) [] := World.ownsRow_nil _ _ _ _
theorem OwnI.below {w w' : World} {B : Nat} {v : Value} {ns : List Int} (h : OwnI w B v ns) (hb : Below w.heap.size w w') : OwnI w' B v ns := by
  obtain ⟨h1, h2⟩ := h
  refine ⟨h1, ?_⟩
  rcases h2 with h2 | ⟨g, cap, cur, e, hg, hh, r⟩
  · exact .inl h2
  · refine .inr ⟨g, cap, cur, e, hg, ?_, r⟩
    rw [hb.block g (Array.getElem?_eq_some_iff.1 hh).1]
    exact hh
theorem OwnI.but {w w' : World} {B g : Nat} {v : Value} {ns : List Int} (h : OwnI w B v ns) (hb : But g w w') (hg : v.ownBlock ≠ some g) : OwnI w' B v ns := by
  obtain ⟨h1, h2⟩ := h
  refine ⟨h1, ?_⟩
  rcases h2 with h2 | ⟨k, cap, cur, rfl, hk, hh, r⟩
  · exact .inl h2
  · refine .inr ⟨k, cap, cur, rfl, hk, ?_, r⟩
    rw [hb.block k (fun e => hg (by rw [← e]; rfl))]
    exact hh
theorem OwnI.lies {w : World} {B : Nat} {v : Value} {ns : List Int} (h : OwnI w B v ns) : (v = .slice none 0 0 ∧ ns = []) ∨
    ∃ g cap cs, v = .slice (some ⟨g, 0, none⟩) ns.length cap ∧ B ≤ g ∧ Blk w g 3 cs ∧ ns.length ≤ cap ∧ cap ≤ 9223372036854775807 ∧ cs.length = cap ∧ cs.take ns.length = iC ns := by
  obtain ⟨h1, h2⟩ := h
  rcases h2 with ⟨e, h0⟩ | ⟨g, cap, cur, rfl, hB, hh, h3, h4, h5, h6⟩
  · exact .inl ⟨e, List.eq_nil_of_length_eq_zero h0⟩
  · exact .inr ⟨g, cap, cur.toList, rfl, hB, by unfold Blk; simpa using hh, h3, by simpa [maxLen] using h4, by simpa using h5, by simpa using h6⟩
theorem OwnI.slice {w : World} {B : Nat} {v : Value} {ns : List Int} (h : OwnI w B v ns) : ∃ a c, v = Value.slice a ns.length c := by
  rcases h.lies with ⟨rfl, rfl⟩ | ⟨g, cap, cs, rfl, _⟩
  · exact ⟨_, _, rfl⟩
  · exact ⟨_, _, rfl⟩
theorem OwnI.mk {w : World} {B g cap : Nat} {cs : List Value} {ns : List Int} (hB : B ≤ g) (hb : Blk w g 3 cs) (hn : ns.length ≤ cap) (hc : cap ≤ 9223372036854775807) (hl : cs.length = cap) (ht : cs.take ns.length = iC ns) : OwnI w B (.slice (some ⟨g, 0, none⟩) ns.length cap) ns := by
  refine ⟨by rw [iC_length]; omega, .inr ⟨g, cap, cs.toArray, rfl, hB, by unfold Blk at hb; simpa using hb, hn, by simpa [maxLen] using hc, by simpa using hl, by simpa using ht⟩⟩
theorem OwnI.lt {w : World} {B : Nat} {v : Value} {ns : List Int} (h : OwnI w B v ns) : ∀ k, v.ownBlock = some k → B ≤ k ∧ k < w.heap.size := fun k hk => World.ownsRow.lt h k hk
theorem OwnI.cell {w : World} {B g cap : Nat} {ns : List Int} {m : Nat} (h : OwnI w B (.slice (some ⟨g, 0, none⟩) m cap) ns) (i : Nat) (n : Int) (hi : ns[i]? = some n) : w.cell? ⟨g, i, none⟩ = some (.int .i64 n) := by
  rcases h.lies with ⟨e, _⟩ | ⟨g', c, cs, e, _, hb, _, _, _, ht⟩
  · cases e
  · injection e with e1 _ _
    injection e1 with e1
    injection e1 with e1 _ _
    subst e1
    rw [hb.cell]
    have hlt : i < ns.length := (List.getElem?_eq_some_iff.1 hi).1
    have := iC_at ns i n hi
    rw [← ht, List.getElem?_take, if_pos hlt] at this
    exact this
theorem buildI (n : Int) (w : World) : (Instr.buildSlice 84 1 #[(0, .int .i64 n)]).run Tryz.prog w = .ok (.slice (some ⟨w.heap.size, 0, none⟩) 1 1) (w.alloc (.cells (iC [n]).toArray 3)) := by
  obtain ⟨i0, hi, hz0, hz1, hz2⟩ := info_someI infoI
  refine run_buildSlice w 84 3 1 _ _ i0 _ undIl hi hz0 (by rw [hz1]; decide) (by rw [hz1]; decide) ?_
  rw [hz1]
  have e0 : ((Array.range (1 * 1)).map ((Value.int .i64 0).cells[· % (Value.int .i64 0).cells.size]!)) = (iC [0]).toArray := by kernel_rfl
  rw [e0]
  show Instr.fill _ _ [(0, Value.int .i64 n)] = _
  rw [fill_cons (place := fun i => some (i * 1, 1)) (off := 0) (size := 1) (vs := iC [n]) rfl rfl rfl (by decide), fill_nil]
  rfl
section
variable {dst : Option Tmp} {ty : TypeId} {pos : String} {aft : Array Edge} {gd : Option (Nat × Bool)} {ops : Array Oper} {rest : List Oper} {a : Act} {w : World} {K : Act → World → Prop} {Q : Exit → Act → World → Prop}
set_option maxRecDepth 100000 in
theorem wponeI {x : Operand} {n : Int} (hx : a.eval x = .int .i64 n) (h : ∀ w1 g, Blk w1 g 3 (iC [n]) → w.heap.size ≤ g → Below w.heap.size w w1 → K (a.put dst (.slice (some ⟨g, 0, none⟩) 1 1)) w1) :
    Oper.wp Tryz.prog ⟨dst, .buildSlice 84 1 #[(0, x)], ty, pos, aft, gd⟩ a w K Q := by
  refine wp_runV (.slice (some ⟨w.heap.size, 0, none⟩) 1 1) (w.alloc (.cells (iC [n]).toArray 3)) ?_ (h _ _ (Blk.made _ _ _) (Nat.le_refl _) ((Below.refl _ _).alloc (Nat.le_refl _) _))
  unfold execOp
  simp only [List.map_toArray, List.map_cons, List.map_nil, hx]
  simp only [Sem.run_bind, buildI n, Result.andThen_ok, Sem.run_pure]
theorem wpappI {s x : Operand} {B : Nat} {v : Value} {ns : List Int} {n : Int} {g c : Nat} (hs : a.eval s = v) (hx : a.eval x = .slice (some ⟨g, 0, none⟩) 1 c) (hown : OwnI w B v ns) (hy : Blk w g 3 (iC [n])) (hlen : ns.length ≤ 1048576) (hB : B ≤ w.heap.size)
    (h : ∀ v' w', OwnI w' B v' (ns ++ [n]) → w.grownBy w' v.ownBlock → (∀ k, v'.ownBlock = some k → v.ownBlock = some k ∨ w.heap.size ≤ k) → K (a.put dst v') w') :
    Oper.wp Tryz.prog ⟨dst, .call { callee := .builtin .append, args := #[s, x], argTypes := #[84, 84] }, ty, pos, aft, gd⟩ a w K Q := by
  obtain ⟨i0, hi, hz0, hz1, hz2⟩ := info_someI infoI
  obtain ⟨g', cap', w', hr, ho, hgr, hat, hlt⟩ := run_append_lies (P := Tryz.prog) w 84 ty B 3 i0 (.int .i64 0) 1 8 undIl hi hz0 hz1 hz2 rfl (by decide) v _ _ hown ⟨g, 0, none⟩ 1 c (iC [n]) rfl (fun j u hu => by
    rw [Addr.add_lit, Nat.zero_add, hy.cell]
    exact hu) (One.iC [n]) (by decide) (by unfold maxLen; omega) (by omega) hB _ rfl
  unfold Oper.wp
  simp [execOp, resolve, invoke, builtin, hs, hx, hr, Result.andThen]
  refine h _ _ (by unfold OwnI; rw [show iC (ns ++ [n]) = iC ns ++ iC [n] by simp [iC], List.length_append]; exact ho) hgr (fun k hk => ?_)
  injection hk with hk
  subst hk
  rcases hat with hat | hat
  · exact .inl hat
  · exact .inr (Nat.le_of_eq hat.symm)
set_option maxRecDepth 100000 in
theorem steponeI {x : Operand} {n : Int} (hw : Region.wanted ⟨dst, .buildSlice 84 1 #[(0, x)], ty, pos, aft, gd⟩ (yielded ops a.tmps) = true) (hx : a.eval x = .int .i64 n) (h : ∀ w1 g, Blk w1 g 3 (iC [n]) → w.heap.size ≤ g → Below w.heap.size w w1 → wpList Tryz.prog ops Q rest (a.put dst (.slice (some ⟨g, 0, none⟩) 1 1)) w1) :
    wpList Tryz.prog ops Q (⟨dst, .buildSlice 84 1 #[(0, x)], ty, pos, aft, gd⟩ :: rest) a w :=
  BigFrame.wpList_want hw fun K hK => wponeI hx fun w1 g h1 h2 h3 => hK _ _ (h w1 g h1 h2 h3)
set_option maxRecDepth 100000 in
theorem stepappI {s x : Operand} {B : Nat} {v : Value} {ns : List Int} {n : Int} {g c : Nat} (hw : Region.wanted ⟨dst, .call { callee := .builtin .append, args := #[s, x], argTypes := #[84, 84] }, ty, pos, aft, gd⟩ (yielded ops a.tmps) = true)
    (hs : a.eval s = v) (hx : a.eval x = .slice (some ⟨g, 0, none⟩) 1 c) (hown : OwnI w B v ns) (hy : Blk w g 3 (iC [n])) (hlen : ns.length ≤ 1048576) (hB : B ≤ w.heap.size)
    (h : ∀ v' w', OwnI w' B v' (ns ++ [n]) → w.grownBy w' v.ownBlock → (∀ k, v'.ownBlock = some k → v.ownBlock = some k ∨ w.heap.size ≤ k) → wpList Tryz.prog ops Q rest (a.put dst v') w') :
    wpList Tryz.prog ops Q (⟨dst, .call { callee := .builtin .append, args := #[s, x], argTypes := #[84, 84] }, ty, pos, aft, gd⟩ :: rest) a w :=
  BigFrame.wpList_want hw fun K hK => wpappI hs hx hown hy hlen hB fun v' w' h1 h2 h3 => hK _ _ (h v' w' h1 h2 h3)
end

end Go.Proofs.YtpocadbhajacaaaGreatDoor

/-
  Slices of names of the call's own, and slices.Reverse over them (out of Vh and Vr).
-/
namespace Go.Proofs.YtpocadbhajacaaaGreatDoor
open Go.RowKit
set_option linter.unusedVariables false
set_option maxRecDepth 100000

/-- The cells of names. -/
def nC (hs : List ByteArray) : List Value := hs.map Value.string
theorem One.nC (hs : List ByteArray) : One (nC hs) := by intro v hv; obtain ⟨x, _, rfl⟩ := List.mem_map.1 hv; rfl
theorem nC_length (hs : List ByteArray) : (nC hs).length = hs.length := by simp [nC]
theorem nC_at (hs : List ByteArray) (i : Nat) (n : ByteArray) (h : hs[i]? = some n) : (nC hs)[i]? = some (.string n) := by simp [nC, h]
theorem info_someN {P : Program} {t : TypeId} {z : Option Value} {s b : Nat} (h : (P.info? t).map (fun i => (i.zero, i.size, i.bytes)) = some (z, s, b)) : ∃ i, P.info? t = some i ∧ i.zero = z ∧ i.size = s ∧ i.bytes = b := by
  cases hi : P.info? t with
  | none => simp [hi] at h
  | some i => simp [hi] at h; exact ⟨i, rfl, h.1, h.2.1, h.2.2⟩
theorem infoN : (Tryz.prog.info? 9).map (fun i => (i.zero, i.size, i.bytes)) = some (some (.string ByteArray.empty), 1, 16) := by kernel_rfl
theorem undNl : Tryz.prog.underlying 74 = some (.slice 9) := by kernel_rfl
theorem undNs : Tryz.prog.underlying 74 = some (.slice (Tryz.prog.elem 74)) := by kernel_rfl
theorem elemN : Tryz.prog.elem 74 = 9 := by kernel_rfl
theorem sizeN (w : World) : (sizeOf 9).run Tryz.prog w = .ok 1 w := by kernel_rfl
theorem atN (b n cap i : Nat) (I : Int) (hI : I = (i : Int)) (hi : i < n) (v : World) : (Instr.indexAt 74 (.slice (some ⟨b, 0, none⟩) n cap) (.int .i64 I)).run Tryz.prog v = .ok (.pointer (some ⟨b, i, none⟩)) v := by
  subst hI
  rw [run_indexAt_slice v _ _ _ _ .i64 i undNs, if_pos ⟨by omega, by omega⟩, elemN, sizeN]
  simp only [Result.andThen_ok, Int.toNat_natCast]
  rw [Addr.add_lit, Nat.zero_add, Nat.mul_one]
/-- In a slice of the call's own. -/
def OwnN (w : World) (B : Nat) (v : Value) (ns : List ByteArray) : Prop := w.ownsRow B 9 1 v ns.length (nC ns)
theorem OwnN.nil (w : World) (B : Nat) : OwnN w B (.slice none 0 0) [] := World.ownsRow_nil _ _ _ _
theorem OwnN.below {w w' : World} {B : Nat} {v : Value} {ns : List ByteArray} (h : OwnN w B v ns) (hb : Below w.heap.size w w') : OwnN w' B v ns := by
  obtain ⟨h1, h2⟩ := h
  refine ⟨h1, ?_⟩
  rcases h2 with h2 | ⟨g, cap, cur, e, hg, hh, r⟩
  · exact .inl h2
  · refine .inr ⟨g, cap, cur, e, hg, ?_, r⟩
    rw [hb.block g (Array.getElem?_eq_some_iff.1 hh).1]
    exact hh
theorem OwnN.but {w w' : World} {B g : Nat} {v : Value} {ns : List ByteArray} (h : OwnN w B v ns) (hb : But g w w') (hg : v.ownBlock ≠ some g) : OwnN w' B v ns := by
  obtain ⟨h1, h2⟩ := h
  refine ⟨h1, ?_⟩
  rcases h2 with h2 | ⟨k, cap, cur, rfl, hk, hh, r⟩
  · exact .inl h2
  · refine .inr ⟨k, cap, cur, rfl, hk, ?_, r⟩
    rw [hb.block k (fun e => hg (by rw [← e]; rfl))]
    exact hh
theorem OwnN.lies {w : World} {B : Nat} {v : Value} {ns : List ByteArray} (h : OwnN w B v ns) : (v = .slice none 0 0 ∧ ns = []) ∨
    ∃ g cap cs, v = .slice (some ⟨g, 0, none⟩) ns.length cap ∧ B ≤ g ∧ Blk w g 9 cs ∧ ns.length ≤ cap ∧ cap ≤ 9223372036854775807 ∧ cs.length = cap ∧ cs.take ns.length = nC ns := by
  obtain ⟨h1, h2⟩ := h
  rcases h2 with ⟨e, h0⟩ | ⟨g, cap, cur, rfl, hB, hh, h3, h4, h5, h6⟩
  · exact .inl ⟨e, List.eq_nil_of_length_eq_zero h0⟩
  · exact .inr ⟨g, cap, cur.toList, rfl, hB, by unfold Blk; simpa using hh, h3, by simpa [maxLen] using h4, by simpa using h5, by simpa using h6⟩
theorem OwnN.slice {w : World} {B : Nat} {v : Value} {ns : List ByteArray} (h : OwnN w B v ns) : ∃ a c, v = Value.slice a ns.length c := by
  rcases h.lies with ⟨rfl, rfl⟩ | ⟨g, cap, cs, rfl, _⟩
  · exact ⟨_, _, rfl⟩
  · exact ⟨_, _, rfl⟩
theorem OwnN.mk {w : World} {B g cap : Nat} {cs : List Value} {ns : List ByteArray} (hB : B ≤ g) (hb : Blk w g 9 cs) (hn : ns.length ≤ cap) (hc : cap ≤ 9223372036854775807) (hl : cs.length = cap) (ht : cs.take ns.length = nC ns) : OwnN w B (.slice (some ⟨g, 0, none⟩) ns.length cap) ns := by
  refine ⟨by rw [nC_length]; omega, .inr ⟨g, cap, cs.toArray, rfl, hB, by unfold Blk at hb; simpa using hb, hn, by simpa [maxLen] using hc, by simpa using hl, by simpa using ht⟩⟩
theorem OwnN.lt {w : World} {B : Nat} {v : Value} {ns : List ByteArray} (h : OwnN w B v ns) : ∀ k, v.ownBlock = some k → B ≤ k ∧ k < w.heap.size := fun k hk => World.ownsRow.lt h k hk
theorem OwnN.cell {w : World} {B g cap : Nat} {ns : List ByteArray} {m : Nat} (h : OwnN w B (.slice (some ⟨g, 0, none⟩) m cap) ns) (i : Nat) (n : ByteArray) (hi : ns[i]? = some n) : w.cell? ⟨g, i, none⟩ = some (.string n) := by
  rcases h.lies with ⟨e, _⟩ | ⟨g', c, cs, e, _, hb, _, _, _, ht⟩
  · cases e
  · injection e with e1 _ _
    injection e1 with e1
    injection e1 with e1 _ _
    subst e1
    rw [hb.cell]
    have hlt : i < ns.length := (List.getElem?_eq_some_iff.1 hi).1
    have := nC_at ns i n hi
    rw [← ht, List.getElem?_take, if_pos hlt] at this
    exact this
theorem buildN (n : ByteArray) (w : World) : (Instr.buildSlice 74 1 #[(0, .string n)]).run Tryz.prog w = .ok (.slice (some ⟨w.heap.size, 0, none⟩) 1 1) (w.alloc (.cells (nC [n]).toArray 9)) := by
  obtain ⟨i0, hi, hz0, hz1, hz2⟩ := info_someN infoN
  refine run_buildSlice w 74 9 1 _ _ i0 _ undNl hi hz0 (by rw [hz1]; decide) (by rw [hz1]; decide) ?_
  rw [hz1]
  have e0 : ((Array.range (1 * 1)).map ((Value.string ByteArray.empty).cells[· % (Value.string ByteArray.empty).cells.size]!)) = (nC [ByteArray.empty]).toArray := by kernel_rfl
  rw [e0]
  show Instr.fill _ _ [(0, Value.string n)] = _
  rw [fill_cons (place := fun i => some (i * 1, 1)) (off := 0) (size := 1) (vs := nC [n]) rfl rfl rfl (by decide), fill_nil]
  rfl
section
variable {dst : Option Tmp} {ty : TypeId} {pos : String} {aft : Array Edge} {gd : Option (Nat × Bool)} {ops : Array Oper} {rest : List Oper} {a : Act} {w : World} {K : Act → World → Prop} {Q : Exit → Act → World → Prop}
set_option maxRecDepth 100000 in
theorem wponeN {x : Operand} {n : ByteArray} (hx : a.eval x = .string n) (h : ∀ w1 g, Blk w1 g 9 (nC [n]) → w.heap.size ≤ g → Below w.heap.size w w1 → K (a.put dst (.slice (some ⟨g, 0, none⟩) 1 1)) w1) :
    Oper.wp Tryz.prog ⟨dst, .buildSlice 74 1 #[(0, x)], ty, pos, aft, gd⟩ a w K Q := by
  refine wp_runV (.slice (some ⟨w.heap.size, 0, none⟩) 1 1) (w.alloc (.cells (nC [n]).toArray 9)) ?_ (h _ _ (Blk.made _ _ _) (Nat.le_refl _) ((Below.refl _ _).alloc (Nat.le_refl _) _))
  unfold execOp
  simp only [List.map_toArray, List.map_cons, List.map_nil, hx]
  simp only [Sem.run_bind, buildN n, Result.andThen_ok, Sem.run_pure]
theorem wpappN {s x : Operand} {B : Nat} {v : Value} {ns : List ByteArray} {n : ByteArray} {g c : Nat} (hs : a.eval s = v) (hx : a.eval x = .slice (some ⟨g, 0, none⟩) 1 c) (hown : OwnN w B v ns) (hy : Blk w g 9 (nC [n])) (hlen : ns.length ≤ 1048576) (hB : B ≤ w.heap.size)
    (h : ∀ v' w', OwnN w' B v' (ns ++ [n]) → w.grownBy w' v.ownBlock → (∀ k, v'.ownBlock = some k → v.ownBlock = some k ∨ w.heap.size ≤ k) → K (a.put dst v') w') :
    Oper.wp Tryz.prog ⟨dst, .call { callee := .builtin .append, args := #[s, x], argTypes := #[74, 74] }, ty, pos, aft, gd⟩ a w K Q := by
  obtain ⟨i0, hi, hz0, hz1, hz2⟩ := info_someN infoN
  obtain ⟨g', cap', w', hr, ho, hgr, hat, hlt⟩ := run_append_lies (P := Tryz.prog) w 74 ty B 9 i0 (.string ByteArray.empty) 1 16 undNl hi hz0 hz1 hz2 rfl (by decide) v _ _ hown ⟨g, 0, none⟩ 1 c (nC [n]) rfl (fun j u hu => by
    rw [Addr.add_lit, Nat.zero_add, hy.cell]
    exact hu) (One.nC [n]) (by decide) (by unfold maxLen; omega) (by omega) hB _ rfl
  unfold Oper.wp
  simp [execOp, resolve, invoke, builtin, hs, hx, hr, Result.andThen]
  refine h _ _ (by unfold OwnN; rw [show nC (ns ++ [n]) = nC ns ++ nC [n] by simp [nC], List.length_append]; exact ho) hgr (fun k hk => ?_)
  injection hk with hk
  subst hk
  rcases hat with hat | hat
  · exact .inl hat
  · exact .inr (Nat.le_of_eq hat.symm)
set_option maxRecDepth 100000 in
theorem steponeN {x : Operand} {n : ByteArray} (hw : Region.wanted ⟨dst, .buildSlice 74 1 #[(0, x)], ty, pos, aft, gd⟩ (yielded ops a.tmps) = true) (hx : a.eval x = .string n) (h : ∀ w1 g, Blk w1 g 9 (nC [n]) → w.heap.size ≤ g → Below w.heap.size w w1 → wpList Tryz.prog ops Q rest (a.put dst (.slice (some ⟨g, 0, none⟩) 1 1)) w1) :
    wpList Tryz.prog ops Q (⟨dst, .buildSlice 74 1 #[(0, x)], ty, pos, aft, gd⟩ :: rest) a w :=
  BigFrame.wpList_want hw fun K hK => wponeN hx fun w1 g h1 h2 h3 => hK _ _ (h w1 g h1 h2 h3)
set_option maxRecDepth 100000 in
theorem stepappN {s x : Operand} {B : Nat} {v : Value} {ns : List ByteArray} {n : ByteArray} {g c : Nat} (hw : Region.wanted ⟨dst, .call { callee := .builtin .append, args := #[s, x], argTypes := #[74, 74] }, ty, pos, aft, gd⟩ (yielded ops a.tmps) = true)
    (hs : a.eval s = v) (hx : a.eval x = .slice (some ⟨g, 0, none⟩) 1 c) (hown : OwnN w B v ns) (hy : Blk w g 9 (nC [n])) (hlen : ns.length ≤ 1048576) (hB : B ≤ w.heap.size)
    (h : ∀ v' w', OwnN w' B v' (ns ++ [n]) → w.grownBy w' v.ownBlock → (∀ k, v'.ownBlock = some k → v.ownBlock = some k ∨ w.heap.size ≤ k) → wpList Tryz.prog ops Q rest (a.put dst v') w') :
    wpList Tryz.prog ops Q (⟨dst, .call { callee := .builtin .append, args := #[s, x], argTypes := #[74, 74] }, ty, pos, aft, gd⟩ :: rest) a w :=
  BigFrame.wpList_want hw fun K hK => wpappN hs hx hown hy hlen hB fun v' w' h1 h2 h3 => hK _ _ (h v' w' h1 h2 h3)
end
theorem nC_set (ns : List ByteArray) (i : Nat) (n : ByteArray) : (nC ns).set i (.string n) = nC (ns.set i n) := by simp [nC, List.map_set]
/-- One element is written over. -/
theorem OwnN.set {w : World} {B g cap : Nat} {ns : List ByteArray} {m : Nat} (h : OwnN w B (.slice (some ⟨g, 0, none⟩) m cap) ns) (i : Nat) (n : ByteArray) : OwnN (w.setCell ⟨g, i, none⟩ (.string n)) B (.slice (some ⟨g, 0, none⟩) m cap) (ns.set i n) := by
  rcases h.lies with ⟨e, _⟩ | ⟨g', c, cs, e, hB, hb, h1, h2, h3, h4⟩
  · cases e
  · injection e with e1 e2 e3
    injection e1 with e1
    injection e1 with e1 _ _
    subst e1 e2 e3
    have := OwnN.mk (ns := ns.set i n) hB (hb.set i (.string n)) (by simpa using h1) h2 (by simpa using h3) (by rw [List.length_set, List.take_set, h4, nC_set])
    rwa [List.length_set] at this
theorem OwnN.free {w : World} {B g cap : Nat} {ns : List ByteArray} {m : Nat} (h : OwnN w B (.slice (some ⟨g, 0, none⟩) m cap) ns) (i : Nat) : w.frozen? ⟨g, i, none⟩ = false := by
  rcases h.lies with ⟨e, _⟩ | ⟨g', c, cs, e, hB, hb, h1, h2, h3, h4⟩
  · cases e
  · injection e with e1 e2 e3
    injection e1 with e1
    injection e1 with e1 _ _
    subst e1 e2 e3
    exact hb.free i

def pgN (ns : List ByteArray) (t : Nat) : ByteArray := ns.getD t ByteArray.empty
theorem pgN_get {ns : List ByteArray} {t : Nat} (h : t < ns.length) : ns[t]? = some (pgN ns t) := by simp [pgN, List.getD, h]
/-- The first k and the last k are exchanged. -/
def rvN (ns : List ByteArray) (k : Nat) : List ByteArray := (List.range ns.length).map fun t => if t < k ∨ ns.length ≤ t + k then pgN ns (ns.length - 1 - t) else pgN ns t
theorem rvN_len (ns : List ByteArray) (k : Nat) : (rvN ns k).length = ns.length := by simp [rvN]
theorem rvN_get (ns : List ByteArray) (k t : Nat) : (rvN ns k)[t]? = if t < ns.length then some (if t < k ∨ ns.length ≤ t + k then pgN ns (ns.length - 1 - t) else pgN ns t) else none := by
  unfold rvN
  by_cases h : t < ns.length
  · simp [h]
  · simp [h]
theorem rvN_zero (ns : List ByteArray) : rvN ns 0 = ns := by
  apply List.ext_getElem?
  intro t
  rw [rvN_get]
  by_cases h : t < ns.length
  · rw [if_pos h, if_neg (by omega), pgN_get h]
  · rw [if_neg h, List.getElem?_eq_none (by omega)]
theorem rvN_step (ns : List ByteArray) (k J : Nat) (hJ : k + J + 1 = ns.length) (h : k < J) : ((rvN ns k).set k (pgN ns J)).set J (pgN ns k) = rvN ns (k + 1) := by
  apply List.ext_getElem?
  intro t
  rw [rvN_get, List.getElem?_set, List.getElem?_set, List.length_set, rvN_len, rvN_get]
  by_cases h1 : J = t
  · subst h1
    rw [if_pos rfl, if_pos (by omega), if_pos (by omega), if_pos (by omega), show ns.length - 1 - J = k by omega]
  · rw [if_neg h1]
    by_cases h2 : k = t
    · subst h2
      rw [if_pos rfl, if_pos (by omega), if_pos (by omega), if_pos (by omega), show ns.length - 1 - k = J by omega]
    · rw [if_neg h2]
      by_cases h3 : t < ns.length
      · rw [if_pos h3, if_pos h3]
        by_cases h4 : t < k ∨ ns.length ≤ t + k
        · rw [if_pos h4, if_pos (by omega)]
        · rw [if_neg h4, if_neg (by omega)]
      · rw [if_neg h3, if_neg h3]
theorem rvN_end (ns : List ByteArray) (k : Nat) (h : ns.length ≤ 2 * k + 1) : rvN ns k = ns.reverse := by
  apply List.ext_getElem?
  intro t
  rw [rvN_get]
  by_cases h1 : t < ns.length
  · rw [if_pos h1, List.getElem?_reverse h1, pgN_get (by omega)]
    by_cases h2 : t < k ∨ ns.length ≤ t + k
    · rw [if_pos h2]
    · rw [if_neg h2]
      congr 2
      omega
  · rw [if_neg h1, List.getElem?_eq_none (by simpa using h1)]
theorem rvN_lo (ns : List ByteArray) (k : Nat) (h : 2 * k < ns.length) : (rvN ns k)[k]? = some (pgN ns k) := by
  rw [rvN_get, if_pos (by omega), if_neg (by omega)]
theorem rvN_hi (ns : List ByteArray) (k J : Nat) (hJ : k + J + 1 = ns.length) (h : k < J) : (rvN ns k)[J]? = some (pgN ns J) := by
  rw [rvN_get, if_pos (by omega), if_neg (by omega)]

section
variable {dst : Option Tmp} {ty : TypeId} {pos : String} {aft : Array Edge} {gd : Option (Nat × Bool)} {a : Act} {w : World} {K : Act → World → Prop} {Q : Exit → Act → World → Prop}
theorem wploadN {x : Operand} {B g cap m i : Nat} {ns : List ByteArray} {n : ByteArray} (hx : a.eval x = .pointer (some ⟨g, i, none⟩)) (ho : OwnN w B (.slice (some ⟨g, 0, none⟩) m cap) ns) (hi : ns[i]? = some n) (h : K (a.put dst (.string n)) w) :
    Oper.wp Tryz.prog ⟨dst, .load 9 x, ty, pos, aft, gd⟩ a w K Q := by
  have hc := ho.cell i n hi
  refine wp_runV (.string n) w ?_ h
  unfold execOp
  simp only [hx]
  go_simp
theorem wpstoreN {x y : Operand} {B g cap m i : Nat} {ns : List ByteArray} {n : ByteArray} (hx : a.eval x = .pointer (some ⟨g, i, none⟩)) (hy : a.eval y = .string n) (ho : OwnN w B (.slice (some ⟨g, 0, none⟩) m cap) ns) (hi : i < ns.length)
    (h : ∀ w1, OwnN w1 B (.slice (some ⟨g, 0, none⟩) m cap) (ns.set i n) → But g w w1 → K (a.put dst undef) w1) : Oper.wp Tryz.prog ⟨dst, .store 9 x y, ty, pos, aft, gd⟩ a w K Q := by
  have hc := ho.cell i _ (List.getElem?_eq_getElem hi)
  have hf := ho.free i
  have H := h _ (ho.set i n) (But.setCell _ _ _ _)
  clear h
  unfold Oper.wp execOp
  simp only [hx, hy]
  go_simp
  exact H
end

set_option maxHeartbeats 1000000 in
theorem reverseN_own (B g cap n : Nat) (ns : List ByteArray) (w : World) (hn : ns.length = n) (hn2 : n ≤ 1048576) (h : OwnN w B (.slice (some ⟨g, 0, none⟩) n cap) ns) :
    Calls Tryz.prog 70 #[.slice (some ⟨g, 0, none⟩) n cap] w fun r w' => (∃ x, r = .returned x) ∧ OwnN w' B (.slice (some ⟨g, 0, none⟩) n cap) ns.reverse ∧ But g w w' := by
  have H := hide h
  have HN := hide hn
  clear h hn
  go_enter Tryz.func70, Tryz.ntmps70
  go_wp2_with fail
  go_loopw [2, 3] (fun s2 s3 wr => ∃ k : Nat, s2 = .int .i64 (k : Int) ∧ s3 = .int .i64 ((n : Int) - 1 - (k : Int)) ∧ 2 * k ≤ n + 1 ∧ Hid (OwnN wr B (.slice (some ⟨g, 0, none⟩) n cap) (rvN ns k)) ∧ Hid (But g w wr)) (fun s2 _ _ => n + 1 - (intOf s2).toNat)
  case atStart => exact ⟨0, rfl, by simp, by omega, hide (by rw [rvN_zero]; exact H.out), hide (But.refl _ _)⟩
  case round =>
    obtain ⟨k, rfl, rfl, hk2, O, BU⟩ := hrel
    by_cases hlt : 2 * k + 1 < n
    · obtain ⟨J, hJ'⟩ : ∃ J : Nat, J = n - 1 - k := ⟨_, rfl⟩
      have hj : (n : Int) - 1 - (k : Int) = (J : Int) := by omega
      rw [hj]
      have hkJ : k < J := by omega
      have hkJ' : (k : Int) < (J : Int) := by omega
      have hkn : k < n := by omega
      have hJn : J < n := by omega
      have hJ : k + J + 1 = ns.length := by rw [HN.out]; omega
      have HJ := hide hJ
      clear hJ hj hJ'
      have hJ := HJ.out
      go_wp2_with fail
      refine wp_region_held_drew (S := fun _ => True) (by kernel_rfl) trivial (fun hHeld => ?_)
      refine takeH 0 14 (.slice (some ⟨g, 0, none⟩) n cap) hHeld rfl rfl (by kernel_rfl) (by kernel_rfl) (by kernel_rfl) (fun _ _ _ h => h) (Or.inl ⟨by rfl, fun w _ => by go_simp⟩) ?_
      simp only [Act.put, List.setIfInBounds_toArray, List.set_cons_zero, List.set_cons_succ]
      refine takeH 1 15 (.int .i64 (k : Int)) hHeld rfl rfl (by kernel_rfl) (by kernel_rfl) (by kernel_rfl) (fun _ _ _ h => h) (Or.inl ⟨by rfl, fun w _ => by go_simp⟩) ?_
      simp only [Act.put, List.setIfInBounds_toArray, List.set_cons_zero, List.set_cons_succ]
      refine takeH 2 16 (.slice (some ⟨g, 0, none⟩) n cap) hHeld rfl rfl (by kernel_rfl) (by kernel_rfl) (by kernel_rfl) (fun _ _ _ h => h) (Or.inl ⟨by rfl, fun w _ => by go_simp⟩) ?_
      simp only [Act.put, List.setIfInBounds_toArray, List.set_cons_zero, List.set_cons_succ]
      refine takeH 3 17 (.int .i64 (J : Int)) hHeld rfl rfl (by kernel_rfl) (by kernel_rfl) (by kernel_rfl) (fun _ _ _ h => h) (Or.inl ⟨by rfl, fun w _ => by go_simp⟩) ?_
      simp only [Act.put, List.setIfInBounds_toArray, List.set_cons_zero, List.set_cons_succ]
      refine takeH 4 18 (.slice (some ⟨g, 0, none⟩) n cap) hHeld rfl rfl (by kernel_rfl) (by kernel_rfl) (by kernel_rfl) (fun _ _ _ h => h) (Or.inl ⟨by rfl, fun w _ => by go_simp⟩) ?_
      simp only [Act.put, List.setIfInBounds_toArray, List.set_cons_zero, List.set_cons_succ]
      refine takeH 5 19 (.int .i64 (J : Int)) hHeld rfl rfl (by kernel_rfl) (by kernel_rfl) (by kernel_rfl) (fun _ _ _ h => h) (Or.inl ⟨by rfl, fun w _ => by go_simp⟩) ?_
      simp only [Act.put, List.setIfInBounds_toArray, List.set_cons_zero, List.set_cons_succ]
      refine takeH 6 20 (.pointer (some ⟨g, J, none⟩)) hHeld rfl rfl (by kernel_rfl) (by kernel_rfl) (by kernel_rfl) (fun _ _ _ h => h) (Or.inl ⟨by rfl, fun w _ => run_op rfl ((atN g n cap J _ rfl hJn) w)⟩) ?_
      simp only [Act.put, List.setIfInBounds_toArray, List.set_cons_zero, List.set_cons_succ]
      refine takeH 8 22 (.slice (some ⟨g, 0, none⟩) n cap) hHeld rfl rfl (by kernel_rfl) (by kernel_rfl) (by kernel_rfl) (fun _ _ _ h => h) (Or.inl ⟨by rfl, fun w _ => by go_simp⟩) ?_
      simp only [Act.put, List.setIfInBounds_toArray, List.set_cons_zero, List.set_cons_succ]
      refine takeH 9 23 (.int .i64 (k : Int)) hHeld rfl rfl (by kernel_rfl) (by kernel_rfl) (by kernel_rfl) (fun _ _ _ h => h) (Or.inl ⟨by rfl, fun w _ => by go_simp⟩) ?_
      simp only [Act.put, List.setIfInBounds_toArray, List.set_cons_zero, List.set_cons_succ]
      refine takeH 10 24 (.pointer (some ⟨g, k, none⟩)) hHeld rfl rfl (by kernel_rfl) (by kernel_rfl) (by kernel_rfl) (fun _ _ _ h => h) (Or.inl ⟨by rfl, fun w _ => run_op rfl ((atN g n cap k _ rfl hkn) w)⟩) ?_
      simp only [Act.put, List.setIfInBounds_toArray, List.set_cons_zero, List.set_cons_succ]
      have O' := hide (O.out.below ((Below.refl _ _).drew))
      clear O
      have O := O'
      clear O'
      refine wpAnyH_ready (rs := [7, 11]) (by kernel_rfl) (by simp) (AllReadyH.cons rfl (fun K hK => ?_) (AllReadyH.cons rfl (fun K hK => ?_) AllReadyH.nil))
      · rw [if_pos (by rfl)]
        refine wploadN (i := J) rfl O.out (rvN_hi ns k J hJ hkJ) ?_
        refine hK.out _ _ (trivial) (fun hHeld => ?_)
        clear hK K
        simp only [Act.put, List.setIfInBounds_toArray, List.set_cons_zero, List.set_cons_succ]
        refine wpAnyH_ready (rs := [11]) (by kernel_rfl) (by simp) (AllReadyH.cons rfl (fun K hK => ?_) AllReadyH.nil)
        rw [if_pos (by rfl)]
        refine wploadN (i := k) rfl O.out (rvN_lo ns k (by omega)) ?_
        refine hK.out _ _ (trivial) (fun hHeld => ?_)
        clear hK K
        simp only [Act.put, List.setIfInBounds_toArray, List.set_cons_zero, List.set_cons_succ]
        refine takeH 12 26 (.pointer (some ⟨g, k, none⟩)) hHeld rfl rfl (by kernel_rfl) (by kernel_rfl) (by kernel_rfl) (fun _ _ _ h => h) (Or.inl ⟨by rfl, fun w _ => run_op rfl ((atN g n cap k _ rfl hkn) w)⟩) ?_
        simp only [Act.put, List.setIfInBounds_toArray, List.set_cons_zero, List.set_cons_succ]
        refine wpAnyH_ready (rs := [13]) (by kernel_rfl) (by simp) (AllReadyH.cons rfl (fun K hK => ?_) AllReadyH.nil)
        rw [if_pos (by rfl)]
        refine wpstoreN (n := pgN ns J) (i := k) rfl rfl O.out (by rw [rvN_len]; omega) ?_
        intro w5 ho5 hbut5
        have O5 := hide ho5
        refine hK.out _ _ trivial (fun hHeld => ?_)
        clear hK K ho5
        refine takeH 14 27 (.pointer (some ⟨g, J, none⟩)) hHeld rfl rfl (by kernel_rfl) (by kernel_rfl) (by kernel_rfl) (fun _ _ _ h => h) (Or.inl ⟨by rfl, fun w _ => run_op rfl ((atN g n cap J _ rfl hJn) w)⟩) ?_
        simp only [Act.put, List.setIfInBounds_toArray, List.set_cons_zero, List.set_cons_succ]
        refine wpAnyH_ready (rs := [15]) (by kernel_rfl) (by simp) (AllReadyH.cons rfl (fun K hK => ?_) AllReadyH.nil)
        rw [if_pos (by rfl)]
        refine wpstoreN (n := pgN ns k) (i := J) rfl rfl O5.out (by rw [List.length_set, rvN_len]; omega) ?_
        intro w6 ho6 hbut6
        refine hK.out _ _ trivial (fun hHeld => ?_)
        clear hK K
        have O6 : Hid (OwnN w6 B (.slice (some ⟨g, 0, none⟩) n cap) (rvN ns (k + 1))) := hide (by rw [← rvN_step ns k J hJ hkJ]; exact ho6)
        have BU6 := hide ((BU.out.trans (b := wr) (c := wr.drew) ⟨rfl, rfl, rfl, rfl, fun _ _ => rfl⟩).trans (hbut5.trans hbut6))
        clear ho6 hbut5 hbut6
        refine wpAnyH_done (by kernel_rfl) ?_ _
        clear hHeld
        go_wp2
        go_roundw
        case rel => exact ⟨k + 1, by simp, by have := HN.out; simp; omega, by omega, O6, BU6⟩
        case measure => simp only [intOf]; omega
      · rw [if_pos (by rfl)]
        refine wploadN (i := k) rfl O.out (rvN_lo ns k (by omega)) ?_
        refine hK.out _ _ (trivial) (fun hHeld => ?_)
        clear hK K
        simp only [Act.put, List.setIfInBounds_toArray, List.set_cons_zero, List.set_cons_succ]
        refine wpAnyH_ready (rs := [7]) (by kernel_rfl) (by simp) (AllReadyH.cons rfl (fun K hK => ?_) AllReadyH.nil)
        rw [if_pos (by rfl)]
        refine wploadN (i := J) rfl O.out (rvN_hi ns k J hJ hkJ) ?_
        refine hK.out _ _ (trivial) (fun hHeld => ?_)
        clear hK K
        simp only [Act.put, List.setIfInBounds_toArray, List.set_cons_zero, List.set_cons_succ]
        refine takeH 12 26 (.pointer (some ⟨g, k, none⟩)) hHeld rfl rfl (by kernel_rfl) (by kernel_rfl) (by kernel_rfl) (fun _ _ _ h => h) (Or.inl ⟨by rfl, fun w _ => run_op rfl ((atN g n cap k _ rfl hkn) w)⟩) ?_
        simp only [Act.put, List.setIfInBounds_toArray, List.set_cons_zero, List.set_cons_succ]
        refine wpAnyH_ready (rs := [13]) (by kernel_rfl) (by simp) (AllReadyH.cons rfl (fun K hK => ?_) AllReadyH.nil)
        rw [if_pos (by rfl)]
        refine wpstoreN (n := pgN ns J) (i := k) rfl rfl O.out (by rw [rvN_len]; omega) ?_
        intro w5 ho5 hbut5
        have O5 := hide ho5
        refine hK.out _ _ trivial (fun hHeld => ?_)
        clear hK K ho5
        refine takeH 14 27 (.pointer (some ⟨g, J, none⟩)) hHeld rfl rfl (by kernel_rfl) (by kernel_rfl) (by kernel_rfl) (fun _ _ _ h => h) (Or.inl ⟨by rfl, fun w _ => run_op rfl ((atN g n cap J _ rfl hJn) w)⟩) ?_
        simp only [Act.put, List.setIfInBounds_toArray, List.set_cons_zero, List.set_cons_succ]
        refine wpAnyH_ready (rs := [15]) (by kernel_rfl) (by simp) (AllReadyH.cons rfl (fun K hK => ?_) AllReadyH.nil)
        rw [if_pos (by rfl)]
        refine wpstoreN (n := pgN ns k) (i := J) rfl rfl O5.out (by rw [List.length_set, rvN_len]; omega) ?_
        intro w6 ho6 hbut6
        refine hK.out _ _ trivial (fun hHeld => ?_)
        clear hK K
        have O6 : Hid (OwnN w6 B (.slice (some ⟨g, 0, none⟩) n cap) (rvN ns (k + 1))) := hide (by rw [← rvN_step ns k J hJ hkJ]; exact ho6)
        have BU6 := hide ((BU.out.trans (b := wr) (c := wr.drew) ⟨rfl, rfl, rfl, rfl, fun _ _ => rfl⟩).trans (hbut5.trans hbut6))
        clear ho6 hbut5 hbut6
        refine wpAnyH_done (by kernel_rfl) ?_ _
        clear hHeld
        go_wp2
        go_roundw
        case rel => exact ⟨k + 1, by simp, by have := HN.out; simp; omega, by omega, O6, BU6⟩
        case measure => simp only [intOf]; omega
    · have hc : ¬ ((k : Int) < (n : Int) - 1 - (k : Int)) := by omega
      go_wp2
      refine bodyPost_end (results_none rfl _ _ _) rfl ⟨⟨_, rfl⟩, ?_, BU.out⟩
      rw [← rvN_end ns k (by rw [HN.out]; omega)]
      exact O.out

theorem reverseN_nil (w : World) : Calls Tryz.prog 70 #[.slice none 0 0] w fun r w' => (∃ x, r = .returned x) ∧ w' = w := by
  go_enter Tryz.func70, Tryz.ntmps70
  go_wp2_with fail
  go_loopw [2, 3] (fun s2 s3 wr => s2 = .int .i64 0 ∧ s3 = .int .i64 (-1) ∧ wr = w) (fun _ _ _ => 0)
  case atStart => exact ⟨rfl, rfl, rfl⟩
  case round =>
    obtain ⟨rfl, rfl, rfl⟩ := hrel
    go_wp2
    exact bodyPost_end (results_none rfl _ _ _) rfl ⟨⟨_, rfl⟩, rfl⟩
end Go.Proofs.YtpocadbhajacaaaGreatDoor

/-
  The document's digits and numbers (out of Wz, Wnu and Wnr, for seats without wire).
-/
namespace Go.Proofs.YtpocadbhajacaaaGreatDoor
open Go.RowKit
set_option linter.unusedVariables false
set_option linter.unusedSimpArgs false

set_option maxRecDepth 100000 in
theorem digits_one (n : Nat) (w : World) (h : n < 10) : Calls Tryz.prog 75 #[.int .i64 (n : Int)] w fun r w' => r = .returned (.string (bA (Lib.decDigits n))) ∧ w' = w := by
  rw [Lib.decDigits_one h]
  have hn : n = 0 ∨ n = 1 ∨ n = 2 ∨ n = 3 ∨ n = 4 ∨ n = 5 ∨ n = 6 ∨ n = 7 ∨ n = 8 ∨ n = 9 := by omega
  rcases hn with rfl | rfl | rfl | rfl | rfl | rfl | rfl | rfl | rfl | rfl
  all_goals
    clear h
    go_enter Tryz.func75, Tryz.ntmps75
    go_wp2
    go_ret
    exact ⟨by kernel_rfl, rfl⟩

set_option maxRecDepth 100000 in
theorem digits_any (m : Nat) : ∀ (n : Nat) (w : World), n ≤ m → n < 9223372036854775808 → Calls Tryz.prog 75 #[.int .i64 (n : Int)] w fun r w' => r = .returned (.string (bA (Lib.decDigits n))) ∧ w' = w := by
  induction m with
  | zero => intro n w hm hn; exact digits_one n w (by omega)
  | succ m ih =>
    intro n w hm hn
    by_cases h : n < 10
    · exact digits_one n w h
    have H1 := hide (fun V => ih (n / 10) V (by omega) (by omega))
    clear ih
    have H2 := hide (fun V => digits_one (n % 10) V (Nat.mod_lt _ (by decide)))
    have hl : ¬ (n : Int) < 10 := by omega
    have l1 := dec_len (n / 10) (by omega)
    have l2 := dec_len (n % 10) (by omega)
    have e := dec_step h
    obtain ⟨p, hp⟩ : ∃ p, n / 10 = p := ⟨_, rfl⟩
    obtain ⟨q, hq⟩ : ∃ q, n % 10 = q := ⟨_, rfl⟩
    rw [hp] at H1 l1 e
    rw [hq] at H2 l2 e
    have q1 : (n : Int) / 10 = (p : Int) := by omega
    have q2 : (n : Int) % 10 = (q : Int) := by omega
    have q3 : (n : Int).tdiv 10 = (p : Int) := by rw [Int.tdiv_eq_ediv_of_nonneg (by omega)]; exact q1
    have q4 : (n : Int).tmod 10 = (q : Int) := by rw [Int.tmod_eq_emod_of_nonneg (by omega)]; exact q2
    clear hp hq
    obtain ⟨A, hA⟩ : ∃ A, bA (Lib.decDigits p) = A := ⟨_, rfl⟩
    obtain ⟨B, hB⟩ : ∃ B, bA (Lib.decDigits q) = B := ⟨_, rfl⟩
    have sA : A.size ≤ 20 := by rw [← hA, ← strL_length, strL_bA]; exact l1
    have sB : B.size ≤ 20 := by rw [← hB, ← strL_length, strL_bA]; exact l2
    have eAB : bA (Lib.decDigits n) = A ++ B := eq_of_strL (by rw [strL_app, ← hA, ← hB, strL_bA, strL_bA, strL_bA, e])
    rw [hA] at H1
    rw [hB] at H2
    rw [eAB]
    clear eAB hA hB e l1 l2 h
    have hs : ¬ 9223372036854775807 < A.size + B.size := by omega
    go_enter Tryz.func75, Tryz.ntmps75
    go_wp2_with fail
    refine (H1.out _).mono ?_
    rintro r w1 ⟨rfl, rfl⟩
    go_wp2_with fail
    refine (H2.out _).mono ?_
    rintro r w1 ⟨rfl, rfl⟩
    go_wp2
    go_ret
    exact ⟨rfl, rfl⟩

theorem decFrom_snoc : ∀ (l : List UInt8) (acc : Nat) (b : UInt8), Lib.decFrom acc (l ++ [b]) = (Lib.decFrom acc l).bind fun m => (Lib.digitVal b).map fun d => m * 10 + d
  | [], acc, b => by
    simp only [List.nil_append, Lib.decFrom, Option.bind_some]
    cases Lib.digitVal b <;> rfl
  | a :: t, acc, b => by
    simp only [List.cons_append, Lib.decFrom]
    cases h : Lib.digitVal a with
    | none => rfl
    | some d => exact decFrom_snoc t _ b
theorem dec_head (m : Nat) : ∀ n, n ≤ m → 0 < n → (Lib.decDigits n).head? ≠ some 48 := by
  induction m with
  | zero => intro n hn h0; omega
  | succ m ih =>
    intro n hn h0
    by_cases h : n < 10
    · rw [Lib.decDigits_one h]
      have : n = 1 ∨ n = 2 ∨ n = 3 ∨ n = 4 ∨ n = 5 ∨ n = 6 ∨ n = 7 ∨ n = 8 ∨ n = 9 := by omega
      rcases this with rfl | rfl | rfl | rfl | rfl | rfl | rfl | rfl | rfl <;> decide
    · rw [dec_snoc h]
      have e := ih (n / 10) (by omega) (by omega)
      have hne := dec_ne (n / 10)
      cases hd : Lib.decDigits (n / 10) with
      | nil => exact absurd hd hne
      | cons a t => rw [hd] at e; simpa using e
theorem decFrom_le : ∀ (l : List UInt8) (acc n : Nat), Lib.decFrom acc l = some n → acc ≤ n
  | [], acc, n, h => by simp only [Lib.decFrom, Option.some.injEq] at h; omega
  | a :: t, acc, n, h => by
    simp only [Lib.decFrom] at h
    cases ha : Lib.digitVal a with
    | none => simp [ha] at h
    | some d =>
      simp only [ha] at h
      have := decFrom_le t _ n h
      omega
theorem digit_val {b : UInt8} {d : Nat} (h : Lib.digitVal b = some d) : d < 10 ∧ b = UInt8.ofNat (48 + d) := by
  unfold Lib.digitVal at h
  split at h
  · rename_i hb
    simp only [Option.some.injEq] at h
    refine ⟨by omega, UInt8.toNat_inj.1 ?_⟩
    rw [UInt8.toNat_ofNat']
    omega
  · cases h
/-- Digits without a nought ahead are those of their number. -/
theorem dec_canon : ∀ (k : Nat) (l : List UInt8) (n : Nat), l.length ≤ k → l ≠ [] → (1 < l.length → l.head? ≠ some 48) → Lib.decFrom 0 l = some n → Lib.decDigits n = l := by
  intro k
  induction k with
  | zero => intro l n hk h0 _ _; exact absurd (List.eq_nil_of_length_eq_zero (by omega)) h0
  | succ k ih =>
    intro l n hk h0 hh hd
    obtain ⟨m, b, rfl⟩ : ∃ m b, l = m ++ [b] := ⟨l.dropLast, l.getLast h0, (List.dropLast_concat_getLast h0).symm⟩
    rw [decFrom_snoc] at hd
    cases hm : Lib.decFrom 0 m with
    | none => rw [hm] at hd; cases hd
    | some n' =>
      rw [hm] at hd
      simp only [Option.bind_some] at hd
      cases hb : Lib.digitVal b with
      | none => rw [hb] at hd; cases hd
      | some d =>
        rw [hb] at hd
        simp only [Option.map_some, Option.some.injEq] at hd
        obtain ⟨hd10, rfl⟩ := digit_val hb
        cases m with
        | nil =>
          simp only [Lib.decFrom, Option.some.injEq] at hm
          have : n = d := by omega
          rw [this, Lib.decDigits_one hd10]
          rfl
        | cons a t =>
          have hx : a ≠ 48 := by have := hh (by simp); simpa using this
          have h1 : 1 ≤ n' := by
            simp only [Lib.decFrom] at hm
            cases ha : Lib.digitVal a with
            | none => simp [ha] at hm
            | some e =>
              simp only [ha] at hm
              have := decFrom_le t _ n' hm
              obtain ⟨_, he⟩ := digit_val ha
              have : e ≠ 0 := fun h => hx (by rw [he, h]; rfl)
              omega
          have hr := ih (a :: t) n' (by simp at hk ⊢; omega) (by simp) (fun _ => by simpa using hx) hm
          have e1 : n / 10 = n' := by omega
          have e2 : n % 10 = d := by omega
          rw [dec_snoc (by omega), e1, e2, hr]
/-- The number that a text writes, if it is one that may be. -/
def nmO (l : List UInt8) : Option Nat := (Lib.decFrom 0 l).bind fun v => if v ≤ 281474976710656 ∧ Lib.decDigits v = l then some v else none
theorem nmO_some {l : List UInt8} {v : Nat} (h : nmO l = some v) : v ≤ 281474976710656 ∧ Lib.decDigits v = l := by
  unfold nmO at h
  cases hd : Lib.decFrom 0 l with
  | none => rw [hd] at h; cases h
  | some n =>
    rw [hd] at h
    simp only [Option.bind_some] at h
    split at h
    · rename_i hc
      simp only [Option.some.injEq] at h
      subst h
      exact hc
    · cases h
theorem nmO_of {l : List UInt8} {v : Nat} (h0 : v ≤ 281474976710656) (h1 : Lib.decDigits v = l) : nmO l = some v := by
  unfold nmO
  rw [← h1, dec_of v v (Nat.le_refl _)]
  simp [h0]
theorem dec_short {v : Nat} (h : v < 10 ^ 18) : (Lib.decDigits v).length ≤ 18 := by
  have key : ∀ (k v : Nat), v < 10 ^ k → 0 < k → (Lib.decDigits v).length ≤ k := by
    intro k
    induction k with
    | zero => intro v _ h; omega
    | succ k ih =>
      intro v hv _
      by_cases h10 : v < 10
      · rw [Lib.decDigits_one h10]; simp
      · rw [dec_snoc h10, List.length_append]
        have hk : 0 < k := by
          rcases Nat.eq_zero_or_pos k with rfl | h
          · simp at hv; omega
          · exact h
        have := ih (v / 10) (by rw [Nat.pow_succ] at hv; omega) hk
        simp; omega
  exact key 18 v h (by decide)
theorem nmO_len {l : List UInt8} {v : Nat} (h : nmO l = some v) : 1 ≤ l.length ∧ l.length ≤ 18 ∧ (1 < l.length → l.head? ≠ some 48) := by
  obtain ⟨hv, rfl⟩ := nmO_some h
  refine ⟨?_, dec_short (by omega), fun hl => ?_⟩
  · have := dec_ne v
    cases hd : Lib.decDigits v with
    | nil => exact absurd hd this
    | cons a t => simp
  · refine dec_head v v (Nat.le_refl _) ?_
    rcases Nat.eq_zero_or_pos v with rfl | h0
    · rw [Lib.decDigits_one (by decide)] at hl; simp at hl
    · exact h0
theorem nmO_dec {l : List UInt8} {v : Nat} (h : nmO l = some v) : Lib.decFrom 0 l = some v := by
  obtain ⟨hv, rfl⟩ := nmO_some h
  exact dec_of v v (Nat.le_refl _)
theorem decFrom_lt : ∀ (l : List UInt8) (acc n : Nat), Lib.decFrom acc l = some n → n < (acc + 1) * 10 ^ l.length
  | [], acc, n, h => by simp only [Lib.decFrom, Option.some.injEq] at h; simp; omega
  | a :: t, acc, n, h => by
    simp only [Lib.decFrom] at h
    cases ha : Lib.digitVal a with
    | none => simp [ha] at h
    | some d =>
      simp only [ha] at h
      have h1 := decFrom_lt t _ n h
      have h2 := (digit_val ha).1
      have h3 : (acc * 10 + d + 1) * 10 ^ t.length ≤ ((acc + 1) * 10) * 10 ^ t.length := Nat.mul_le_mul_right _ (by omega)
      rw [Nat.mul_assoc] at h3
      rw [List.length_cons, Nat.pow_succ, Nat.mul_comm (10 ^ t.length) 10]
      omega

end Go.Proofs.YtpocadbhajacaaaGreatDoor

/-
  The names of generations, without any program.
-/
namespace Go.Proofs.YtpocadbhajacaaaGreatDoor
open Go.RowKit
set_option linter.unusedVariables false
set_option linter.unusedSimpArgs false

/-- The digits of a generation, six at least. -/
def jD (g : Nat) : List UInt8 := List.replicate (6 - (Lib.decDigits g).length) 48 ++ Lib.decDigits g
theorem dec_rep : ∀ (m : Nat) (l : List UInt8), Lib.decFrom 0 (List.replicate m 48 ++ l) = Lib.decFrom 0 l
  | 0, l => by simp
  | m + 1, l => by
    rw [List.replicate_succ, List.cons_append]
    have e : Lib.digitVal 48 = some 0 := rfl
    simp only [Lib.decFrom, e]
    exact dec_rep m l
theorem jD_dec (g : Nat) : Lib.decFrom 0 (jD g) = some g := by
  unfold jD
  rw [dec_rep]
  exact dec_of g g (Nat.le_refl _)
theorem jD_inj {g k : Nat} (h : jD g = jD k) : g = k := by
  have := jD_dec g
  rw [h, jD_dec k] at this
  injection this with this
  exact this.symm
theorem dec_len10 {g : Nat} (h : g ≤ 2147483647) : (Lib.decDigits g).length ≤ 10 := by
  have key : ∀ (k v : Nat), v < 10 ^ k → 0 < k → (Lib.decDigits v).length ≤ k := by
    intro k
    induction k with
    | zero => intro v _ h; omega
    | succ k ih =>
      intro v hv _
      by_cases h10 : v < 10
      · rw [Lib.decDigits_one h10]; simp
      · rw [dec_snoc h10, List.length_append]
        have hk : 0 < k := by
          rcases Nat.eq_zero_or_pos k with rfl | h
          · simp at hv; omega
          · exact h
        have := ih (v / 10) (by rw [Nat.pow_succ] at hv; omega) hk
        simp; omega
  exact key 10 g (by omega) (by decide)
theorem dec_pos (g : Nat) : 1 ≤ (Lib.decDigits g).length := by
  cases hd : Lib.decDigits g with
  | nil => exact absurd hd (dec_ne g)
  | cons a t => simp
theorem jD_len (g : Nat) : (jD g).length = max 6 (Lib.decDigits g).length := by
  unfold jD
  rw [List.length_append, List.length_replicate]
  omega
theorem jD_le {g : Nat} (h : g ≤ 2147483647) : 6 ≤ (jD g).length ∧ (jD g).length ≤ 10 := by
  have := dec_len10 h
  rw [jD_len]
  omega
end Go.Proofs.YtpocadbhajacaaaGreatDoor

/-
  Leaves in files: names of files, whole leaves of a file's bytes. No program here.
-/
namespace Go.Proofs.YtpocadbhajacaaaGreatDoor
open Go.RowKit
set_option linter.unusedVariables false
set_option linter.unusedSimpArgs false

/-! ### names -/
/-- A height. -/
def hB (h : Nat) : Prop := 1 ≤ h ∧ h ≤ 8
theorem hB.pow {h : Nat} (k : hB h) : 2 ≤ 2 ^ h ∧ 2 ^ h ≤ 256 := by
  obtain ⟨a, b⟩ := k
  have h1 := Nat.pow_le_pow_right (n := 2) (by decide) a
  have h2 := Nat.pow_le_pow_right (n := 2) (by decide) b
  omega
/-- leaf/ -/
def lfP : List UInt8 := [108, 101, 97, 102, 47]
/-- The name of a file of leaves. -/
def lfL (h k : Nat) : List UInt8 := lfP ++ Lib.decDigits h ++ [47] ++ jD k
def lfN (h k : Nat) : ByteArray := bA (lfL h k)
theorem dec_h {h : Nat} (k : hB h) : Lib.decDigits h = [UInt8.ofNat (48 + h)] := by
  have := k.2
  rw [Lib.decDigits_one (by omega)]
theorem lfN_inj {h k h' k' : Nat} (a : hB h) (b : hB h') (e : lfN h k = lfN h' k') : h = h' ∧ k = k' := by
  have e1 := bA_inj e
  unfold lfL at e1
  rw [dec_h a, dec_h b, List.append_assoc, List.append_assoc, List.append_assoc, List.append_assoc] at e1
  have e2 := List.append_cancel_left e1
  simp only [List.cons_append, List.nil_append, List.cons.injEq, true_and] at e2
  refine ⟨?_, jD_inj e2.2⟩
  have e3 := congrArg UInt8.toNat e2.1
  have h1 := a.2
  have h2 := b.2
  simp only [UInt8.toNat_ofNat'] at e3
  omega
theorem lfN_size {h k : Nat} (a : hB h) (hk : k ≤ 2147483647) : (lfN h k).size = 7 + (jD k).length ∧ 13 ≤ (lfN h k).size ∧ (lfN h k).size ≤ 17 := by
  have h1 := jD_le hk
  have e : (lfN h k).size = 7 + (jD k).length := by
    unfold lfN
    rw [bA_size]
    unfold lfL
    rw [dec_h a]
    simp [lfP]
    omega
  omega
theorem lfN_nm {h k : Nat} (a : hB h) (hk : k ≤ 2147483647) : nmB (lfN h k) = true := by
  have := lfN_size a hk
  simp [nmB]
  omega

/-! ### whole leaves -/
/-- A leaf in a file. -/
def lfB (x : List Int) : List Int := ((x.length / 256 : Nat) : Int) :: ((x.length % 256 : Nat) : Int) :: x
theorem lfB_len (x : List Int) : (lfB x).length = x.length + 2 := by simp [lfB]
/-- The bytes of leaves. -/
def lfF (ls : List (List Int)) : List Int := ls.flatMap lfB
theorem lfF_app (a b : List (List Int)) : lfF (a ++ b) = lfF a ++ lfF b := by simp [lfF]
theorem lfF_cons (x : List Int) (t : List (List Int)) : lfF (x :: t) = lfB x ++ lfF t := by simp [lfF]
/-- A file's whole leaves, at most so many. -/
def wl : Nat → List Int → List (List Int)
  | 0, _ => []
  | m + 1, a :: b :: t => if (a * 256 + b).toNat ≤ t.length then t.take (a * 256 + b).toNat :: wl m (t.drop (a * 256 + b).toNat) else []
  | _ + 1, _ => []
/-- How many bytes these have. -/
def wlE (m : Nat) (b : List Int) : Nat := (lfF (wl m b)).length
theorem wl_le : ∀ (m : Nat) (b : List Int), (wl m b).length ≤ m
  | 0, _ => by simp [wl]
  | m + 1, [] => by simp [wl]
  | m + 1, [_] => by simp [wl]
  | m + 1, a :: b :: t => by
    unfold wl
    split
    · have := wl_le m (t.drop (a * 256 + b).toNat)
      simp
      omega
    · simp
/-- Bytes begin with their whole leaves. -/
theorem wl_pre : ∀ (m : Nat) (b : List Int), isB b → ∃ rest, b = lfF (wl m b) ++ rest ∧ ((wl m b).length = m ∨ wl 1 rest = [])
  | 0, b, _ => ⟨b, by simp [wl, lfF], .inl rfl⟩
  | m + 1, [], _ => ⟨[], by simp [wl, lfF], .inr (by simp [wl])⟩
  | m + 1, [x], _ => ⟨[x], by simp [wl, lfF], .inr (by simp [wl])⟩
  | m + 1, a :: b :: t, hb => by
    have ha := hb a (by simp)
    have hbb := hb b (by simp)
    by_cases hk : (a * 256 + b).toNat ≤ t.length
    · obtain ⟨rest, e1, e2⟩ := wl_pre m (t.drop (a * 256 + b).toNat) (fun y hy => hb y (by simp [List.mem_of_mem_drop hy]))
      have ew : wl (m + 1) (a :: b :: t) = t.take (a * 256 + b).toNat :: wl m (t.drop (a * 256 + b).toNat) := by
        conv => lhs; unfold wl
        rw [if_pos hk]
      refine ⟨rest, ?_, ?_⟩
      · rw [ew, lfF_cons, List.append_assoc, ← e1]
        unfold lfB
        have hl : (t.take (a * 256 + b).toNat).length = (a * 256 + b).toNat := by rw [List.length_take]; omega
        rw [hl]
        have h1 : (((a * 256 + b).toNat / 256 : Nat) : Int) = a := by omega
        have h2 : (((a * 256 + b).toNat % 256 : Nat) : Int) = b := by omega
        rw [h1, h2]
        simp
      · rw [ew]
        rcases e2 with e2 | e2
        · exact .inl (by rw [List.length_cons, e2])
        · exact .inr e2
    · have ew : wl (m + 1) (a :: b :: t) = [] := by
        conv => lhs; unfold wl
        rw [if_neg hk]
      refine ⟨a :: b :: t, by rw [ew]; simp [lfF], .inr ?_⟩
      unfold wl
      rw [if_neg hk]
theorem wl_one {rest : List Int} (h : wl 1 rest = []) : ∀ m, wl m rest = []
  | 0 => by simp [wl]
  | m + 1 => by
    match rest, h with
    | [], _ => simp [wl]
    | [_], _ => simp [wl]
    | a :: b :: t, h =>
      unfold wl at h ⊢
      split at h
      · simp at h
      · rename_i hk
        rw [if_neg hk]
/-- A leaf that may be. -/
def LfOk (x : List Int) : Prop := x.length ≤ 65535 ∧ isB x
theorem wl_ok : ∀ (m : Nat) (b : List Int), isB b → ∀ x ∈ wl m b, LfOk x
  | 0, _, _, x, hx => by simp [wl] at hx
  | m + 1, [], _, x, hx => by simp [wl] at hx
  | m + 1, [_], _, x, hx => by simp [wl] at hx
  | m + 1, a :: b :: t, hb, x, hx => by
    have ha := hb a (by simp)
    have hbb := hb b (by simp)
    unfold wl at hx
    split at hx
    · rename_i hk
      rcases List.mem_cons.1 hx with rfl | hx
      · exact ⟨by rw [List.length_take]; omega, fun y hy => hb y (by simp [List.mem_of_mem_take hy])⟩
      · exact wl_ok m _ (fun y hy => hb y (by simp [List.mem_of_mem_drop hy])) x hx
    · simp at hx
theorem wlE_le (m : Nat) (b : List Int) (hb : isB b) : wlE m b ≤ b.length := by
  obtain ⟨rest, e, _⟩ := wl_pre m b hb
  unfold wlE
  have := congrArg List.length e
  rw [List.length_append] at this
  omega
/-- Fewer leaves. -/
theorem wl_take : ∀ (m k : Nat) (b : List Int), (wl (m + k) b).take m = wl m b
  | 0, k, b => by simp [wl]
  | m + 1, k, [] => by rw [show m + 1 + k = (m + k) + 1 by omega]; simp [wl]
  | m + 1, k, [_] => by rw [show m + 1 + k = (m + k) + 1 by omega]; simp [wl]
  | m + 1, k, a :: b :: t => by
    rw [show m + 1 + k = (m + k) + 1 by omega]
    unfold wl
    split
    · rw [List.take_succ_cons, wl_take m k]
    · simp

end Go.Proofs.YtpocadbhajacaaaGreatDoor

/-
  The names of the files of leaves: the program's folder, nameOf, Name; isMade.
-/
namespace Go.Proofs.YtpocadbhajacaaaGreatDoor
open Go.RowKit
set_option linter.unusedVariables false
set_option linter.unusedSimpArgs false
set_option maxRecDepth 100000

theorem repN_one (c : Nat) : Lib.repeatL [48] c = List.replicate c 48 := by
  induction c with
  | zero => rfl
  | succ c ih => rw [Lib.repeatL, ih, List.replicate_succ]; rfl
theorem repN_any (c : Nat) (w : World) (hc : c ≤ 6) : Calls Tryz.prog 73 #[.string { data := #[48] }, .int .i64 (c : Int)] w fun r w' => r = .returned (.string (bA (List.replicate c 48))) ∧ Below w.heap.size w w' := by
  refine (Tryz.strings_Repeat { data := #[48] } c w (by omega) (by show 1 * c ≤ _; omega)).mono ?_
  rintro e w' ⟨rfl, hb⟩
  refine ⟨?_, hb⟩
  show Ending.returned (.string ⟨(Lib.repeatL [48] c).toArray⟩) = _
  rw [repN_one]
  rfl
/-- A height's folder. -/
def lfD (h : Nat) : List UInt8 := lfP ++ Lib.decDigits h ++ [47]
theorem lfD_len {h : Nat} (a : hB h) : (lfD h).length = 7 := by
  unfold lfD
  rw [dec_h a]
  rfl
theorem lfN_D (h k : Nat) : lfN h k = bA (lfD h ++ jD k) := rfl
theorem bA_lfP (l : List UInt8) : (⟨#[108, 101, 97, 102, 47]⟩ : ByteArray) ++ bA l = bA (lfP ++ l) := bA_app lfP l
theorem bA_sl (l : List UInt8) : bA l ++ (⟨#[47]⟩ : ByteArray) = bA (l ++ [47]) := bA_app l [47]
set_option maxHeartbeats 400000 in
theorem folder_any (h : Nat) (w : World) (hh : hB h) (ht : PT w) : Calls Tryz.prog 72 #[.int .i64 (h : Int)] w fun r w' => r = .returned (.string (bA (lfD h))) ∧ Below w.heap.size w w' := by
  have HI := hide (itoa_any h w (by have := hh.2; omega) ht)
  obtain ⟨A, HA⟩ : ∃ A, Hid (bA (Lib.decDigits h) = A) := ⟨_, hide rfl⟩
  have hA : A.size = 1 := by rw [← HA.out, bA_size, dec_h hh]; rfl
  rw [HA.out] at HI
  obtain ⟨Y, HY⟩ : ∃ Y, Hid ((⟨#[108, 101, 97, 102, 47]⟩ : ByteArray) ++ A = Y) := ⟨_, hide rfl⟩
  have hP : (⟨#[108, 101, 97, 102, 47]⟩ : ByteArray).size = 5 := rfl
  have hQ : (⟨#[47]⟩ : ByteArray).size = 1 := rfl
  have hY : Y.size = 6 := by rw [← HY.out, app_size, hP, hA]
  have HE : Hid (Y ++ (⟨#[47]⟩ : ByteArray) = bA (lfD h)) := hide (by rw [← HY.out, ← HA.out, bA_lfP, bA_sl]; rfl)
  rw [← HE.out]
  have s1 : ¬ 9223372036854775807 < (⟨#[108, 101, 97, 102, 47]⟩ : ByteArray).size + A.size := by rw [hP, hA]; omega
  have s2 : ¬ 9223372036854775807 < Y.size + (⟨#[47]⟩ : ByteArray).size := by rw [hY, hQ]; omega
  clear hY hP hQ hA HE ht
  go_enter Tryz.func72, Tryz.ntmps72
  go_wp2_with fail
  refine HI.out.mono ?_
  rintro e w1 ⟨rfl, hb1⟩
  have B1 := hide hb1
  have hadd := HY.out
  clear hb1
  go_wp2
  go_ret
  exact ⟨rfl, B1.out⟩
set_option maxHeartbeats 400000 in
theorem nameOf_any (h k : Nat) (w : World) (hh : hB h) (hk : k ≤ 2147483647) (ht : PT w) : Calls Tryz.prog 41 #[.int .i64 (h : Int), .int .i64 (k : Int)] w fun r w' => r = .returned (.string (lfN h k)) ∧ Below w.heap.size w w' := by
  have h10 := dec_len10 hk
  have HI := hide (itoa_any k w (by omega) ht)
  have HF := hide (fun (V : World) (hV : PT V) => folder_any h V hh hV)
  have HT := hide ht
  obtain ⟨A, HA⟩ : ∃ A, Hid (bA (Lib.decDigits k) = A) := ⟨_, hide rfl⟩
  rw [HA.out] at HI
  have hA : A.size = (Lib.decDigits k).length := by rw [← HA.out, bA_size]
  obtain ⟨n, HN⟩ : ∃ n, Hid ((Lib.decDigits k).length = n) := ⟨_, hide rfl⟩
  rw [HN.out] at hA h10
  obtain ⟨c, HC⟩ : ∃ c, Hid (6 - n = c) := ⟨_, hide rfl⟩
  have hc6 : c ≤ 6 := by rw [← HC.out]; omega
  have HMX : Hid (max (6 - (n : Int)) 0 = (c : Int)) := hide (by rw [← HC.out]; omega)
  have HR := hide (fun V => repN_any c V hc6)
  obtain ⟨Z, HZ⟩ : ∃ Z, Hid (bA (List.replicate c 48) = Z) := ⟨_, hide rfl⟩
  rw [HZ.out] at HR
  have hZ : Z.size = c := by rw [← HZ.out, bA_size, List.length_replicate]
  obtain ⟨D, HD⟩ : ∃ D, Hid (bA (lfD h) = D) := ⟨_, hide rfl⟩
  rw [HD.out] at HF
  have hD : D.size = 7 := by rw [← HD.out, bA_size, lfD_len hh]
  have HE : Hid ((D ++ Z) ++ A = lfN h k) := hide (by
    rw [← HZ.out, ← HA.out, ← HD.out, lfN_D, bA_app, bA_app]
    unfold jD
    rw [HN.out, HC.out, List.append_assoc])
  obtain ⟨Y, HY⟩ : ∃ Y, Hid (D ++ Z = Y) := ⟨_, hide rfl⟩
  have hY : Y.size = 7 + c := by rw [← HY.out, app_size, hD, hZ]
  rw [HY.out] at HE
  rw [← HE.out]
  have s1 : ¬ 9223372036854775807 < D.size + Z.size := by rw [hD, hZ]; omega
  have s2 : ¬ 9223372036854775807 < Y.size + A.size := by rw [hY, hA]; omega
  clear hY hZ hD HE HZ HN HD h10 ht
  go_enter Tryz.func41, Tryz.ntmps41
  go_wp2_with fail
  refine HI.out.mono ?_
  rintro e w1 ⟨rfl, hb1⟩
  have B1 := hide hb1
  clear hb1
  go_wp2_with fail
  refine (HF.out _ (HT.out.below B1.out)).mono ?_
  rintro e w2 ⟨rfl, hb2⟩
  have B2 := hide (on_below B1.out hb2)
  clear hb2 B1
  go_wp2_with fail
  rw [HMX.out]
  refine (HR.out _).mono ?_
  rintro e w3 ⟨rfl, hb3⟩
  have B3 := hide (on_below B2.out hb3)
  have hadd := HY.out
  clear hb3 B2
  go_wp2
  go_ret
  exact ⟨rfl, B3.out⟩
/-- May a leaf of this height and index be? -/
def nmO' (h i : Int) : Bool := decide (1 ≤ h) && decide (h ≤ 8) && decide (0 ≤ i) && decide (i < 1048576)
/-- What Name tells. -/
def bnP (h i : Int) : ByteArray := if nmO' h i = true then lfN h.toNat (i.toNat / 2 ^ h.toNat) else bA []
def bnE (h i : Int) : Int := if nmO' h i = true then 0 else 2
theorem nmO'_is {h i : Int} : nmO' h i = true ↔ 1 ≤ h ∧ h ≤ 8 ∧ 0 ≤ i ∧ i < 1048576 := by
  simp only [nmO', Bool.and_eq_true, decide_eq_true_eq]
  omega
theorem nmO'_nats {h i : Int} (k : nmO' h i = true) : ∃ H I : Nat, h = H ∧ i = I ∧ hB H ∧ I < 1048576 := by
  have := nmO'_is.1 k
  exact ⟨h.toNat, i.toNat, by omega, by omega, ⟨by omega, by omega⟩, by omega⟩
theorem bnE_nat {H I : Nat} (a : hB H) (b : I < 1048576) : bnE (H : Int) (I : Int) = 0 := by
  unfold bnE
  rw [if_pos (nmO'_is.2 ⟨by have := a.1; omega, by have := a.2; omega, by omega, by omega⟩)]
theorem bnP_nat {H I : Nat} (a : hB H) (b : I < 1048576) : bnP (H : Int) (I : Int) = lfN H (I / 2 ^ H) := by
  unfold bnP
  rw [if_pos (nmO'_is.2 ⟨by have := a.1; omega, by have := a.2; omega, by omega, by omega⟩)]
  simp only [Int.toNat_natCast]
theorem bnE_bin (h i : Int) : bnE h i = 0 ∨ bnE h i = 2 := by unfold bnE; split <;> simp
theorem bnE_zero {h i : Int} (k : bnE h i = 0) : nmO' h i = true := by
  unfold bnE at k
  split at k
  · assumption
  · cases k
theorem shrN (I H : Nat) : ((I : Int) / 2 ^ H) = ((I / 2 ^ H : Nat) : Int) := by rw [Int.natCast_ediv, Int.natCast_pow]; rfl
set_option maxHeartbeats 1000000 in
theorem bname_any (h i : Int) (w : World) (ht : PT w) : Calls Tryz.prog 32 #[.int .i64 h, .int .i64 i] w fun r w' => r = .returned (.tuple #[.string (bnP h i), .int .i64 (bnE h i)]) ∧ Below w.heap.size w w' := by
  by_cases hk : nmO' h i = true
  · obtain ⟨H, I, rfl, rfl, hh, hI⟩ := nmO'_nats hk
    rw [bnP_nat hh hI, bnE_nat hh hI]
    have h1 := hh.1
    have h8 := hh.2
    have hp := hh.pow
    have hf1 : ¬ (H : Int) < 1 := by omega
    have hf2 : ¬ (8 : Int) < (H : Int) := by omega
    have hf3 : ¬ (I : Int) < 0 := by omega
    have hf4 : ¬ (1048576 : Int) ≤ (I : Int) := by omega
    have hdv : I / 2 ^ H ≤ I := Nat.div_le_self _ _
    have HN := hide (nameOf_any H (I / 2 ^ H) w hh (by omega) ht)
    obtain ⟨q, HQ⟩ : ∃ q, Hid (I / 2 ^ H = q) := ⟨_, hide rfl⟩
    have hq : ((I : Int) / 2 ^ H) = (q : Int) := by rw [shrN, HQ.out]
    rw [HQ.out] at HN ⊢
    generalize lfN H q = nm at *
    clear ht hh hI hp hdv hk HQ
    go_enter Tryz.func32, Tryz.ntmps32
    go_wp2_with fail
    refine HN.out.mono ?_
    rintro e w1 ⟨rfl, hb1⟩
    go_wp2
    go_ret2
    exact ⟨rfl, hb1⟩
  · have e1 : bnP h i = bA [] := by unfold bnP; rw [if_neg hk]
    have e2 : bnE h i = 2 := by unfold bnE; rw [if_neg hk]
    rw [e1, e2]
    have hk2 := fun a => hk (nmO'_is.2 a)
    clear e1 e2 hk ht
    by_cases h1 : h < 1
    · clear hk2
      go_enter Tryz.func32, Tryz.ntmps32
      go_wp2
      go_ret2
      exact ⟨rfl, Below.refl _ _⟩
    · by_cases h8 : 8 < h
      · clear hk2
        go_enter Tryz.func32, Tryz.ntmps32
        go_wp2
        go_ret2
        exact ⟨rfl, Below.refl _ _⟩
      · by_cases h0 : i < 0
        · clear hk2
          go_enter Tryz.func32, Tryz.ntmps32
          go_wp2
          go_ret2
          exact ⟨rfl, Below.refl _ _⟩
        · have hm : 1048576 ≤ i := by
            rcases Int.lt_or_le i 1048576 with hlt | hge
            · exact absurd ⟨by omega, by omega, by omega, hlt⟩ hk2
            · exact hge
          clear hk2
          go_enter Tryz.func32, Tryz.ntmps32
          go_wp2
          go_ret2
          exact ⟨rfl, Below.refl _ _⟩

end Go.Proofs.YtpocadbhajacaaaGreatDoor
