/-
  The files of a disk in memory: what holds of them, and what a change of one leaves.
-/
import Derived.Test.YtpocadbhajacaaaGreatDoorKma
import Derived.Test.YtpocadbhajacaaaGreatDoorKnb
namespace Go.Proofs.YtpocadbhajacaaaGreatDoor
open Go.RowKit
set_option linter.unusedVariables false

/-- Only blocks of S have turned. -/
structure Chs (S : Nat → Prop) (w w' : World) : Prop where
  os : w'.os = w.os
  tape : w'.tape = w.tape
  output : w'.output = w.output
  size : w.heap.size ≤ w'.heap.size
  block : ∀ k, k < w.heap.size → ¬ S k → w'.heap[k]? = w.heap[k]?
section
variable {S T : Nat → Prop} {w a b c : World}
theorem Chs.refl (S : Nat → Prop) (w : World) : Chs S w w := ⟨rfl, rfl, rfl, Nat.le_refl _, fun _ _ _ => rfl⟩
theorem Chs.mono (h : Chs S a b) (hs : ∀ k, k < a.heap.size → S k → T k) : Chs T a b := ⟨h.os, h.tape, h.output, h.size, fun k hk hn => h.block k hk (fun hk' => hn (hs k hk hk'))⟩
theorem Chs.trans (h : Chs S a b) (k : Chs S b c) : Chs S a c :=
  ⟨k.os.trans h.os, k.tape.trans h.tape, k.output.trans h.output, Nat.le_trans h.size k.size, fun i hi hg => (k.block i (Nat.lt_of_lt_of_le hi h.size) hg).trans (h.block i hi hg)⟩
/-- One change behind another, whose blocks are those of the first or new ones. -/
theorem Chs.after (h : Chs S a b) (k : Chs T b c) (ht : ∀ i, T i → S i ∨ a.heap.size ≤ i) : Chs S a c :=
  ⟨k.os.trans h.os, k.tape.trans h.tape, k.output.trans h.output, Nat.le_trans h.size k.size, fun i hi hg => (k.block i (Nat.lt_of_lt_of_le hi h.size) (fun hT => by rcases ht i hT with h1 | h1; exact hg h1; omega)).trans (h.block i hi hg)⟩
theorem Chs.of_below (S : Nat → Prop) (h : Below a.heap.size a b) : Chs S a b := ⟨h.os, h.tape, h.output, h.size, fun i hi _ => h.block i hi⟩
theorem Chs.thenBelow (h : Chs S a b) (k : Below b.heap.size b c) : Chs S a c := h.trans (Chs.of_below S k)
theorem Chs.thenBut {g : Nat} (h : Chs S a b) (k : But g b c) (hg : S g ∨ a.heap.size ≤ g) : Chs S a c :=
  ⟨k.os.trans h.os, k.tape.trans h.tape, k.output.trans h.output, by rw [k.size]; exact h.size, fun i hi hn => (k.block i (fun e => by subst e; rcases hg with hg | hg; exact hn hg; omega)).trans (h.block i hi hn)⟩
theorem Chs.thenGrown {row : Option Nat} (h : Chs S a b) (k : b.grownBy c row) (hr : ∀ g, row = some g → S g ∨ a.heap.size ≤ g) : Chs S a c :=
  ⟨k.os.trans h.os, k.tape.trans h.tape, k.output.trans h.output, Nat.le_trans h.size k.size, fun i hi hn => (k.block i (Nat.lt_of_lt_of_le hi h.size) (fun e => by rcases hr i e.symm with hg | hg; exact hn hg; omega)).trans (h.block i hi hn)⟩
theorem Chs.below {B : Nat} (h : Chs S a b) (hS : ∀ k, k < B → ¬ S k) (hB : B ≤ a.heap.size) : Below B a b := ⟨h.os, h.tape, h.output, h.size, fun k hk => h.block k (by omega) (hS k hk)⟩
theorem Blk.chs {k : Nat} {t : TypeId} {cs : List Value} (h : Blk a k t cs) (hc : Chs S a b) (hk : ¬ S k) : Blk b k t cs := by
  unfold Blk; rw [hc.block k h.lt hk]; exact h
end
theorem Blk.same {w w' : World} {g : Nat} {t : TypeId} {cs : List Value} (h : Blk w g t cs) (hb : w'.heap[g]? = w.heap[g]?) : Blk w' g t cs := hb.trans h
theorem Blk.apart {W : World} {g g' : Nat} {t t' : TypeId} {cs cs' : List Value} (h : Blk W g t cs) (h' : Blk W g' t' cs') (ht : t ≠ t') : g ≠ g' := by
  rintro rfl
  rw [Blk, h] at h'
  injection h' with h'
  injection h' with _ h2 _
  exact ht h2
/-- Rows of any type: kept where their block is. -/
theorem row_same {w w' : World} {B : Nat} {e : TypeId} {q n : Nat} {v : Value} {xs : List Value} (h : w.ownsRow B e q v n xs) (hk : ∀ k, v.ownBlock = some k → w'.heap[k]? = w.heap[k]?) : w'.ownsRow B e q v n xs := by
  obtain ⟨h1, h2⟩ := h
  refine ⟨h1, ?_⟩
  rcases h2 with h2 | ⟨g, cap, cur, rfl, hg, hh, r⟩
  · exact .inl h2
  · exact .inr ⟨g, cap, cur, rfl, hg, (hk g rfl).trans hh, r⟩
theorem row_lies {w : World} {B : Nat} {e : TypeId} {q n : Nat} {v : Value} {xs : List Value} (h : w.ownsRow B e q v n xs) {k : Nat} (hk : v.ownBlock = some k) : ∃ cs, Blk w k e cs := by
  obtain ⟨h1, h2⟩ := h
  rcases h2 with ⟨rfl, _⟩ | ⟨g, cap, cur, rfl, hg, hh, r⟩
  · cases hk
  · injection hk with hk
    subst hk
    exact ⟨cur.toList, by unfold Blk; simpa using hh⟩
theorem row_slice {w : World} {B : Nat} {e : TypeId} {q n : Nat} {v : Value} {xs : List Value} (h : w.ownsRow B e q v n xs) : ∃ a c, v = .slice a n c := by
  obtain ⟨h1, h2⟩ := h
  rcases h2 with ⟨rfl, rfl⟩ | ⟨g, cap, cur, rfl, _⟩
  · exact ⟨_, _, rfl⟩
  · exact ⟨_, _, rfl⟩
theorem Own.same {w w' : World} {B : Nat} {v : Value} {xs : List Int} (h : Own w B v xs) (hk : ∀ k, v.ownBlock = some k → w'.heap[k]? = w.heap[k]?) : Own w' B v xs := row_same h hk
theorem Own.lies {w : World} {B : Nat} {v : Value} {xs : List Int} (h : Own w B v xs) {k : Nat} (hk : v.ownBlock = some k) : ∃ cs, Blk w k 5 cs := row_lies h hk
theorem Own.slice {w : World} {B : Nat} {v : Value} {xs : List Int} (h : Own w B v xs) : ∃ a c, v = .slice a xs.length c := row_slice h
theorem Sl.same {w w' : World} {a : Option Addr} {len cap : Nat} {xs : List Int} (h : Sl w a len cap xs) (hk : ∀ x, a = some x → w'.heap[x.block]? = w.heap[x.block]?) : Sl w' a len cap xs := by
  obtain ⟨h1, h2, h3, h4, h5, h6, h7⟩ := h
  refine ⟨h1, h2, h3, h4, h5, h6, fun h0 => ?_⟩
  obtain ⟨bl, off, e, hce⟩ := h7 h0
  refine ⟨bl, off, e, fun i hi => ?_⟩
  have hbl : w'.heap[bl]? = w.heap[bl]? := hk _ e
  rw [World.cell?_of_block (w := w) (a := ⟨bl, off + i, none⟩) hbl]
  exact hce i hi
/-- A slice that holds bytes: none where there are none. -/
def BV (w : World) (v : Value) (xs : List Int) : Prop := (v = .slice none 0 0 ∧ xs = []) ∨ ∃ b o l c, v = .slice (some ⟨b, o, none⟩) l c ∧ 0 < l ∧ Sl w (some ⟨b, o, none⟩) l c xs ∧ ∃ cs, Blk w b 5 cs
theorem Sl.none0 (w : World) : Sl w none 0 0 [] := ⟨rfl, Nat.le_refl _, by omega, by omega, (fun x hx => by cases hx), (fun _ => ⟨rfl, rfl⟩), fun h => absurd h (Nat.lt_irrefl 0)⟩
theorem BV.sl {w : World} {v : Value} {xs : List Int} (h : BV w v xs) : ∃ a c, v = .slice a xs.length c ∧ Sl w a xs.length c xs := by
  rcases h with ⟨rfl, rfl⟩ | ⟨b, o, l, c, rfl, _, hs, _⟩
  · exact ⟨none, 0, rfl, Sl.none0 w⟩
  · have := hs.hlen
    subst this
    exact ⟨_, _, rfl, hs⟩
theorem BV.same {w w' : World} {v : Value} {xs : List Int} (h : BV w v xs) (hk : ∀ k, v.ownBlock = some k → w'.heap[k]? = w.heap[k]?) : BV w' v xs := by
  rcases h with h | ⟨b, o, l, c, rfl, h0, hs, cs, hb⟩
  · exact .inl h
  · exact .inr ⟨b, o, l, c, rfl, h0, hs.same (fun x e => by injection e with e; subst e; exact hk b rfl), cs, hb.same (hk b rfl)⟩
theorem BV.lies {w : World} {v : Value} {xs : List Int} (h : BV w v xs) {k : Nat} (hk : v.ownBlock = some k) : ∃ cs, Blk w k 5 cs := by
  rcases h with ⟨rfl, _⟩ | ⟨b, o, l, c, rfl, h0, hs, hb⟩
  · cases hk
  · injection hk with hk
    subst hk
    exact hb

theorem mfind_put {m : List (ByteArray × Value)} (h1 : (m.map (·.1)).Nodup) (n : ByteArray) (v : Value) (x : ByteArray) : mfind (mput m n v) x = if x = n then some v else mfind m x := by
  unfold mput
  split
  · rename_i hin
    have e : ∀ l : List (ByteArray × Value), l.any (fun x => decide (x.1 = n)) = true ∨ x ≠ n → mfind (l.map (fun y => if y.1 = n then (n, v) else y)) x = if x = n then some v else mfind l x := by
      intro l
      induction l with
      | nil =>
        intro h
        rcases h with h | h
        · simp at h
        · simp [mfind, h]
      | cons y r ih =>
        intro h
        by_cases hy : y.1 = n
        · simp only [List.map_cons, if_pos hy]
          by_cases hx : x = n
          · subst hx; simp [mfind]
          · have : mfind ((n, v) :: r.map (fun y => if y.1 = n then (n, v) else y)) x = mfind (r.map (fun y => if y.1 = n then (n, v) else y)) x := by
              unfold mfind
              rw [List.find?_cons_of_neg (by simpa using fun e => hx e.symm)]
            rw [this, ih (.inr hx), if_neg hx, if_neg hx]
            unfold mfind
            rw [List.find?_cons_of_neg (by rw [hy]; simpa using fun e => hx e.symm)]
        · simp only [List.map_cons, if_neg hy]
          by_cases hx : y.1 = x
          · have hxn : x ≠ n := fun e => hy (hx.trans e)
            rw [if_neg hxn]
            simp [mfind, hx]
          · have e1 : ∀ q, mfind (y :: q) x = mfind q x := fun q => by
              unfold mfind
              rw [List.find?_cons_of_neg (by simpa using hx)]
            rw [e1, e1]
            apply ih
            rcases h with h | h
            · left
              simpa [hy] using h
            · exact .inr h
    exact e m (.inl hin)
  · rename_i hin
    have hno : n ∉ m.map (·.1) := fun h => hin (any_in.2 h)
    unfold mfind
    rw [List.find?_append]
    by_cases hx : x = n
    · subst hx
      have := mfind_no hno
      unfold mfind at this
      rw [Option.map_eq_none_iff] at this
      rw [this]
      simp
    · simp [hx, Ne.symm hx]
theorem mfind_del {m : List (ByteArray × Value)} (n x : ByteArray) : mfind (mdel m n) x = if x = n then none else mfind m x := by
  unfold mfind mdel
  rw [List.find?_filter]
  by_cases hx : x = n
  · subst hx
    rw [if_pos rfl, List.find?_eq_none.2]
    · rfl
    · intro y hy
      simp
  · rw [if_neg hx]
    congr 1
    congr 1
    funext y
    by_cases hy : y.1 = x
    · simp [hy, hx]
    · simp [hy]

/-- The files of a disk in memory. -/
structure FilAt (w : World) (m : Nat) (fm : List (ByteArray × Value)) (f : (ByteArray → Option (List Int))) : Prop where
  map : Mp w m fm
  iff : ∀ n, (mfind fm n).isSome = (f n).isSome
  own : ∀ n v, mfind fm n = some v → Own w 0 v (fl f n) ∧ isB (fl f n)
  apt : ∀ n n' v v', mfind fm n = some v → mfind fm n' = some v' → n ≠ n' → ∀ k, v.ownBlock = some k → v'.ownBlock ≠ some k
/-- The files' blocks. -/
def fB (fm : List (ByteArray × Value)) (k : Nat) : Prop := ∃ n v, mfind fm n = some v ∧ v.ownBlock = some k
section
variable {w w' : World} {m : Nat} {fm fm' : List (ByteArray × Value)} {f : (ByteArray → Option (List Int))}
theorem FilAt.lies (h : FilAt w m fm f) {k : Nat} (hk : fB fm k) : ∃ cs, Blk w k 5 cs := by
  obtain ⟨n, v, h1, h2⟩ := hk
  exact (h.own n v h1).1.lies h2
theorem FilAt.offm (h : FilAt w m fm f) : ¬ fB fm m := fun hk => by
  obtain ⟨cs, hb⟩ := h.lies hk
  obtain ⟨es, clock, h1, _⟩ := h.map.ex
  rw [Blk, h1] at hb
  injection hb with hb
  cases hb
theorem FilAt.same (h : FilAt w m fm f) (hm : w'.heap[m]? = w.heap[m]?) (hk : ∀ k, fB fm k → w'.heap[k]? = w.heap[k]?) : FilAt w' m fm f :=
  ⟨h.map.same hm, h.iff, fun n v hv => ⟨(h.own n v hv).1.same (fun k e => hk k ⟨n, v, hv, e⟩), (h.own n v hv).2⟩, h.apt⟩
theorem FilAt.get (h : FilAt w m fm f) {n : ByteArray} {xs : List Int} (hn : f n = some xs) : ∃ v, mfind fm n = some v ∧ Own w 0 v xs ∧ isB xs := by
  have h1 := h.iff n
  rw [hn] at h1
  obtain ⟨v, hv⟩ := Option.isSome_iff_exists.1 h1
  have h2 := h.own n v hv
  have e : fl f n = xs := by simp [fl, hn]
  rw [e] at h2
  exact ⟨v, hv, h2⟩
theorem FilAt.no (h : FilAt w m fm f) {n : ByteArray} (hn : f n = none) : mfind fm n = none := by
  have h1 := h.iff n
  rw [hn] at h1
  cases hv : mfind fm n with
  | none => rfl
  | some v => rw [hv] at h1; cases h1
theorem fl_upd_same (f : (ByteArray → Option (List Int))) (n : ByteArray) (xs : List Int) : fl (upd f n (some xs)) n = xs := by simp [fl, upd_same]
theorem fl_upd_ne (f : (ByteArray → Option (List Int))) {n x : ByteArray} (v : Option (List Int)) (h : x ≠ n) : fl (upd f n v) x = fl f x := by simp [fl, upd_ne f v h]
/-- One file put, the others as they were. -/
theorem FilAt.put (h : FilAt w m fm f) {n : ByteArray} {v : Value} {xs : List Int} (hm : Mp w' m (mput fm n v)) (ho : Own w' 0 v xs) (hb : isB xs) (hk : ∀ x u, mfind fm x = some u → x ≠ n → ∀ k, u.ownBlock = some k → w'.heap[k]? = w.heap[k]? ∧ v.ownBlock ≠ some k) : FilAt w' m (mput fm n v) (upd f n (some xs)) := by
  have e := mfind_put h.map.one n v
  refine ⟨hm, fun x => ?_, fun x u hu => ?_, fun x y u z hu hz hne k hk1 => ?_⟩
  · rw [e]
    by_cases hx : x = n
    · subst hx; rw [if_pos rfl, upd_same]; rfl
    · rw [if_neg hx, upd_ne _ _ hx]; exact h.iff x
  · rw [e] at hu
    by_cases hx : x = n
    · subst hx
      rw [if_pos rfl] at hu
      obtain rfl := Option.some.inj hu
      rw [fl_upd_same]
      exact ⟨ho, hb⟩
    · rw [if_neg hx] at hu
      rw [fl_upd_ne _ _ hx]
      exact ⟨(h.own x u hu).1.same (fun k e => (hk x u hu hx k e).1), (h.own x u hu).2⟩
  · rw [e] at hu hz
    by_cases hx : x = n
    · subst hx
      rw [if_pos rfl] at hu
      obtain rfl := Option.some.inj hu
      rw [if_neg (Ne.symm hne)] at hz
      exact fun e2 => (hk y z hz (Ne.symm hne) k e2).2 hk1
    · rw [if_neg hx] at hu
      by_cases hy : y = n
      · subst hy
        rw [if_pos rfl] at hz
        obtain rfl := Option.some.inj hz
        exact (hk x u hu hx k hk1).2
      · rw [if_neg hy] at hz
        exact h.apt x y u z hu hz hne k hk1
/-- One file taken away. -/
theorem FilAt.del (h : FilAt w m fm f) {n : ByteArray} (hm : Mp w' m (mdel fm n)) (hk : ∀ k, fB fm k → w'.heap[k]? = w.heap[k]?) : FilAt w' m (mdel fm n) (upd f n none) := by
  have e := mfind_del (m := fm) n
  refine ⟨hm, fun x => ?_, fun x u hu => ?_, fun x y u z hu hz hne => ?_⟩
  · rw [e]
    by_cases hx : x = n
    · subst hx; rw [if_pos rfl, upd_same]; rfl
    · rw [if_neg hx, upd_ne _ _ hx]; exact h.iff x
  · rw [e] at hu
    by_cases hx : x = n
    · subst hx; rw [if_pos rfl] at hu; cases hu
    · rw [if_neg hx] at hu
      rw [fl_upd_ne _ _ hx]
      exact ⟨(h.own x u hu).1.same (fun k e => hk k ⟨x, u, hu, e⟩), (h.own x u hu).2⟩
  · rw [e] at hu hz
    by_cases hx : x = n
    · rw [if_pos hx] at hu; cases hu
    · by_cases hy : y = n
      · rw [if_pos hy] at hz; cases hz
      · rw [if_neg hx] at hu
        rw [if_neg hy] at hz
        exact h.apt x y u z hu hz hne
/-- A file given another name. -/
theorem FilAt.ren (h : FilAt w m fm f) {n t : ByteArray} {v : Value} (hnt : n ≠ t) (hv : mfind fm n = some v) (hm : Mp w' m (mdel (mput fm t v) n)) (hk : ∀ k, fB fm k → w'.heap[k]? = w.heap[k]?) : FilAt w' m (mdel (mput fm t v) n) (upd (upd f t (some (fl f n))) n none) := by
  have e : ∀ x, mfind (mdel (mput fm t v) n) x = if x = n then none else if x = t then some v else mfind fm x := fun x => by rw [mfind_del, mfind_put h.map.one]
  refine ⟨hm, fun x => ?_, fun x u hu => ?_, fun x y u z hu hz hne k hk1 => ?_⟩
  · rw [e]
    by_cases hx : x = n
    · subst hx; rw [if_pos rfl, upd_same]; rfl
    · rw [if_neg hx, upd_ne _ _ hx]
      by_cases hy : x = t
      · subst hy; rw [if_pos rfl, upd_same]; rfl
      · rw [if_neg hy, upd_ne _ _ hy]; exact h.iff x
  · rw [e] at hu
    by_cases hx : x = n
    · rw [if_pos hx] at hu; cases hu
    · rw [if_neg hx] at hu
      rw [fl_upd_ne _ _ hx]
      by_cases hy : x = t
      · subst hy
        rw [if_pos rfl] at hu
        obtain rfl := Option.some.inj hu
        rw [fl_upd_same]
        exact ⟨(h.own n v hv).1.same (fun k e => hk k ⟨n, v, hv, e⟩), (h.own n v hv).2⟩
      · rw [if_neg hy] at hu
        rw [fl_upd_ne _ _ hy]
        exact ⟨(h.own x u hu).1.same (fun k e => hk k ⟨x, u, hu, e⟩), (h.own x u hu).2⟩
  · rw [e] at hu hz
    by_cases hx : x = n
    · rw [if_pos hx] at hu; cases hu
    · by_cases hy : y = n
      · rw [if_pos hy] at hz; cases hz
      · rw [if_neg hx] at hu
        rw [if_neg hy] at hz
        by_cases hx2 : x = t
        · subst hx2
          rw [if_pos rfl] at hu
          obtain rfl := Option.some.inj hu
          rw [if_neg (Ne.symm hne)] at hz
          exact h.apt n y v z hv hz (Ne.symm hy) k hk1
        · rw [if_neg hx2] at hu
          by_cases hy2 : y = t
          · subst hy2
            rw [if_pos rfl] at hz
            obtain rfl := Option.some.inj hz
            exact h.apt x n u v hu hv hx k hk1
          · rw [if_neg hy2] at hz
            exact h.apt x y u z hu hz hne k hk1
end
theorem mput_length (m : List (ByteArray × Value)) (n : ByteArray) (v : Value) : (mput m n v).length ≤ m.length + 1 := by
  unfold mput
  split <;> simp
theorem mdel_length (m : List (ByteArray × Value)) (n : ByteArray) : (mdel m n).length ≤ m.length := List.length_filter_le _ _

end Go.Proofs.YtpocadbhajacaaaGreatDoor
