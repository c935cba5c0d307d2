/-
  The walk of OctetLines.
-/
import Derived.Test.YtjfambchoijfhaaLi
import Derived.Test.YtjfambchoijfhaaMc
import Derived.Laws.EntriesVeiled
namespace Go.Proofs.Ytjfambchoijfhaa
open Go.RowKit Go.Shelf
set_option linter.unusedVariables false

theorem linesP_any (s : ByteArray) (w : World) : Calls Try.prog 5 #[.string s] w fun e w' => e = .returned (.func (.func 6) #[] #[.pointer (some ⟨w.heap.size, 0, none⟩)]) ∧ w' = w.alloc (.cells #[.string s] 9) := by
  go_enter Try.func5, Try.ntmps5
  go_wp2
  go_ret
  exact ⟨rfl, rfl⟩

theorem Blk.kept {A B : World} {g : Nat} {t : TypeId} {cs : List Value} {row : Option Nat} (h : Blk A g t cs) (hg : A.grownBy B row) (hr : ∀ r, row = some r → ∃ o : Obj, A.heap[r]? = some o ∧ o.isCells = false) : Blk B g t cs := by
  have e : B.heap[g]? = A.heap[g]? := hg.block g h.lt (fun e => by
    obtain ⟨o, ho, hc⟩ := hr g e.symm
    rw [h] at ho
    injection ho with ho
    subst ho
    cases hc)
  unfold Blk
  rw [e]
  exact h
theorem Blk.ne {W : World} {g g' : Nat} {t t' : TypeId} {cs cs' : List Value} (h : Blk W g t cs) (h' : Blk W g' t' cs') (ht : t ≠ t') : g ≠ g' := by
  rintro rfl
  rw [Blk, h] at h'
  injection h' with h'
  injection h' with _ h2 _
  exact ht h2
/-- The texts of a slice. -/
def TB (W : World) (a : Option Addr) (ls : List ByteArray) : Prop := ls = [] ∨ ∃ g cs, a = some ⟨g, 0, none⟩ ∧ Blk W g 9 cs ∧ cs.take ls.length = sts ls
theorem TB.of {w : World} {B : Nat} {v : Value} {ls : List ByteArray} (h : TOwn w B v ls) : ∃ a cv, v = .slice a ls.length cv ∧ TB w a ls := by
  obtain ⟨_, h2⟩ := h
  rcases h2 with ⟨rfl, h0⟩ | ⟨g, cap, cur, rfl, hB, hh, h3, h4, h5, h6⟩
  · exact ⟨none, 0, by rw [h0], .inl (List.eq_nil_of_length_eq_zero h0)⟩
  · exact ⟨_, cap, rfl, .inr ⟨g, cur.toList, rfl, by unfold Blk; simpa using hh, by simpa using h6⟩⟩
theorem TB.below {W W' : World} {a : Option Addr} {ls : List ByteArray} (h : TB W a ls) (hb : Below W.heap.size W W') : TB W' a ls := by
  rcases h with h | ⟨g, cs, e, hg, hc⟩
  · exact .inl h
  · exact .inr ⟨g, cs, e, hg.below hb hg.lt, hc⟩
/-- What the rounds keep. -/
structure LS (w W : World) (b5 b7 b8 : Nat) (stop rd : Int) (a : Option Addr) (cv : Nat) (ls : List ByteArray) (k : Nat) : Prop where
  c3 : Blk W w.heap.size 3 [.int .i64 stop]
  c4 : Blk W (w.heap.size + 1) 4 [.bool false]
  c5 : Blk W b5 22 [.slice a ls.length cv]
  c7 : Blk W b7 3 [.int .i64 rd]
  c8 : Blk W b8 3 [.int .i64 (k : Int)]
  tb : TB W a ls
  bel : Below w.heap.size w W
theorem LS.kept {w A B : World} {b5 b7 b8 : Nat} {stop rd : Int} {a : Option Addr} {cv : Nat} {ls : List ByteArray} {k : Nat} {row : Option Nat} (h : LS w A b5 b7 b8 stop rd a cv ls k) (hg : A.grownBy B row) (hr : ∀ r, row = some r → w.heap.size ≤ r ∧ ∃ o : Obj, A.heap[r]? = some o ∧ o.isCells = false) : LS w B b5 b7 b8 stop rd a cv ls k := by
  have hr2 : ∀ r, row = some r → ∃ o : Obj, A.heap[r]? = some o ∧ o.isCells = false := fun r e => (hr r e).2
  refine ⟨h.c3.kept hg hr2, h.c4.kept hg hr2, h.c5.kept hg hr2, h.c7.kept hg hr2, h.c8.kept hg hr2, ?_, h.bel.grown hg h.bel.size (fun r e => (hr r e).1)⟩
  rcases h.tb with e | ⟨g, cs, e, hg', hc⟩
  · exact .inl e
  · exact .inr ⟨g, cs, e, hg'.kept hg hr2, hc⟩
theorem LS.set {w W : World} {b5 b7 b8 : Nat} {stop rd : Int} {a : Option Addr} {cv : Nat} {ls : List ByteArray} {k : Nat} (h : LS w W b5 b7 b8 stop rd a cv ls k) (k' : Nat) (h3 : w.heap.size ≠ b8) (h7 : b7 ≠ b8) (hB : w.heap.size ≤ b8) : LS w (W.setCell ⟨b8, 0, none⟩ (.int .i64 (k' : Int))) b5 b7 b8 stop rd a cv ls k' := by
  have hb := But.setCell W b8 0 (.int .i64 (k' : Int))
  refine ⟨h.c3.but hb h3, h.c4.but hb (h.c4.ne h.c8 (by decide)), h.c5.but hb (h.c5.ne h.c8 (by decide)), h.c7.but hb h7, h.c8.set 0 _, ?_, h.bel.trans (hb.below hB)⟩
  rcases h.tb with e | ⟨g, cs, e, hg', hc⟩
  · exact .inl e
  · exact .inr ⟨g, cs, e, hg'.but hb (hg'.ne h.c8 (by decide)), hc⟩
theorem TB.cell {W : World} {a : Option Addr} {ls : List ByteArray} (h : TB W a ls) (i : Nat) (hi : i < ls.length) : ∃ g, a = some ⟨g, 0, none⟩ ∧ W.cell? ⟨g, i, none⟩ = some (.string (ls.getD i ByteArray.empty)) := by
  rcases h with rfl | ⟨g, cs, e, hg', hc⟩
  · cases hi
  · refine ⟨g, e, ?_⟩
    have e2 : (cs.take ls.length)[i]? = some (.string (ls.getD i ByteArray.empty)) := by rw [hc]; simp [sts, List.getD, hi]
    rw [hg'.cell]
    rw [List.getElem?_take, if_pos hi] at e2
    exact e2

theorem undTs : Try.prog.underlying 22 = some (.slice (Try.prog.elem 22)) := by kernel_rfl
theorem elemT : Try.prog.elem 22 = 9 := by kernel_rfl
theorem sizeT (w : World) : (sizeOf 9).run Try.prog w = .ok 1 w := by kernel_rfl
theorem t_at (b n cap i : Nat) (I : Int) (hI : I = (i : Int)) (hi : i < n) (v : World) : (Instr.indexAt 22 (.slice (some ⟨b, 0, none⟩) n cap) (.int .i64 I)).run Try.prog v = .ok (.pointer (some ⟨b, i, none⟩)) v := by
  subst hI
  rw [run_indexAt_slice v _ _ _ _ .i64 i undTs, if_pos ⟨by omega, by omega⟩, elemT, sizeT]
  simp only [Result.andThen_ok, Int.toNat_natCast, Nat.mul_one]
  rw [Addr.add_lit, Nat.zero_add]
theorem en_at (ls : List ByteArray) (k : Nat) (h : k < ls.length) : (en ls)[k]? = some (k, ls.getD k ByteArray.empty) := by simp [en, h]
theorem en_take (ls : List ByteArray) (k : Nat) (h : k ≤ ls.length) : en (ls.take k) = (en ls).take k := by
  apply List.ext_getElem?
  intro i
  by_cases hi : i < k
  · rw [List.getElem?_take, if_pos hi, en_at ls i (by omega), en_at _ i (by rw [List.length_take]; omega)]
    simp [List.getD, hi]
  · rw [List.getElem?_eq_none (by rw [en_length, List.length_take]; omega), List.getElem?_eq_none (by rw [List.length_take]; omega)]
theorem lns_len (s : ByteArray) : (lns s).length ≤ s.size + 1 := by
  have h := lu_bd s s.size
  unfold lns
  split
  · simp; omega
  · omega
theorem not_pre (ls : List ByteArray) (pre : List (Nat × ByteArray)) (k : Nat) (x : Nat × ByteArray) (hk : pre.length = k) (hlt : k < ls.length) (hne : x ≠ (k, ls.getD k ByteArray.empty)) : ¬ (pre ++ [x]) <+: en ls := by
  rintro ⟨r, hr⟩
  have h1 : (en ls)[k]? = some x := by
    rw [← hr, List.append_assoc, List.getElem?_append_right (by omega), hk, Nat.sub_self]
    rfl
  rw [en_at ls k hlt] at h1
  injection h1 with h1
  exact hne h1.symm
theorem grow_en (ls : List ByteArray) (pre : List (Nat × ByteArray)) (k : Nat) (hk : pre.length = k) (hlt : k < ls.length) (h : pre = en (ls.take k)) : pre ++ [(k, ls.getD k ByteArray.empty)] = en (ls.take (k + 1)) := by
  have e : ls.take (k + 1) = ls.take k ++ [ls.getD k ByteArray.empty] := by
    rw [List.take_succ_eq_append_getElem hlt]
    simp [List.getD, hlt]
  rw [e, en_snoc, ← h, List.length_take, Nat.min_eq_left (by omega)]
theorem mark_kept {A B : World} {row : Option Nat} {D n : Nat} (hx : A.heap[D]? = some (.deferred (some []))) (hg : A.grownBy B row) (hr : ∀ r, row = some r → n ≤ r ∧ ∃ o : Obj, A.heap[r]? = some o ∧ o.isCells = false) (hD : D < n) : B.heap[D]? = some (.deferred (some [])) := by
  rw [hg.block D (Array.getElem?_eq_some_iff.1 hx).1 (fun e => by have := (hr D e.symm).1; omega)]
  exact hx
/-- What the loop holds between two rounds. -/
def IL (w : World) (X : World → Prop) (b5 b7 : Nat) (stop rd : Int) (av : Option Addr) (cv : Nat) (ls : List ByteArray) (pre : List (Nat × ByteArray)) (W : World) : Prop :=
  (pre = en (ls.take pre.length) ∧ pre.length ≤ ls.length) ∧ LS w W b5 b7 (b7 + 1) stop rd av cv ls pre.length ∧ X W
/-- What it holds where the body has left it. -/
def IX (w : World) (X : World → Prop) (b5 b7 : Nat) (stop rd : Int) (av : Option Addr) (cv : Nat) (ls : List ByteArray) (c : Code) (pre : List (Nat × ByteArray)) (W : World) : Prop :=
  (c = .ret ∧ ¬ pre <+: en ls) ∨ (c = .exit 2 ∧ rd = 0 ∧ (pre.length : Int) = stop ∧ LS w W b5 b7 (b7 + 1) stop rd av cv ls pre.length ∧ X W)

set_option maxRecDepth 100000 in
set_option maxHeartbeats 2000000 in
theorem lines_walk (s : ByteArray) (stop : Int) (w : World) (hs : s.size ≤ 1048576) :
    Calls Try.prog 3 #[.string s, .int .i64 stop] w fun e w' => e = .returned (.bool true) ∧ Below w.heap.size w w' := by
  refine (callsIn_wide (n := 3)).1 ?_
  refine callsIn_of_wp_marks Try.func3 rfl trivial ?_ rfl
  simp only [Try.ntmps3, List.size_toArray, List.length_cons, List.length_nil, Nat.reduceAdd, Nat.reduceSub, Array.replicate_succ, Array.replicate_zero, List.push_toArray, List.append_toArray, List.nil_append, List.cons_append]
  gi_wp2_with fail
  have c3 := (Blk.made w 3 [.int .i64 stop])
  have c4 := (Blk.made (w.alloc (.cells #[.int .i64 stop] 3)) 4 [.bool false])
  have d3 : Blk ((w.alloc (.cells #[.int .i64 stop] 3)).alloc (.cells #[.bool false] 4)) w.heap.size 3 [.int .i64 stop] := c3.below ((Below.refl _ _).alloc (Nat.le_refl _) _) c3.lt
  have c4' : Blk ((w.alloc (.cells #[.int .i64 stop] 3)).alloc (.cells #[.bool false] 4)) (w.heap.size + 1) 4 [.bool false] := by have := c4; rwa [World.size_alloc] at this
  clear c3 c4
  have B0 : Below w.heap.size w ((w.alloc (.cells #[.int .i64 stop] 3)).alloc (.cells #[.bool false] 4)) := ((Below.refl _ w).alloc (Nat.le_refl _) _).alloc (by simp) _
  revert c4' d3 B0
  generalize (w.alloc (.cells #[.int .i64 stop] 3)).alloc (.cells #[.bool false] 4) = W0
  intro d3 c4 B0
  refine ⟨trivial, (callsIn_wide.2 (linesR_any s W0 hs)).mono ?_⟩
  rintro r w1 ⟨v, rfl, ho1, hb1⟩
  obtain ⟨av, cv, rfl, htb⟩ := TB.of ho1
  have E3 := hide (d3.below hb1 d3.lt)
  have E4 := hide (c4.below hb1 c4.lt)
  have B1 := hide (B0.trans (hb1.mono B0.size))
  have TBH := hide htb
  clear c4 d3 B0 hb1 ho1 htb
  gi_wp2_with fail
  have C5 : Blk (w1.alloc (.cells #[.slice av (lns s).length cv] 22)) w1.heap.size 22 [.slice av (lns s).length cv] := Blk.made w1 _ _
  have hba : Below w1.heap.size w1 (w1.alloc (.cells #[.slice av (lns s).length cv] 22)) := (Below.refl _ _).alloc (Nat.le_refl _) _
  revert C5 hba
  generalize w1.alloc (.cells #[.slice av (lns s).length cv] 22) = W2
  generalize hb5 : w1.heap.size = b5 at *
  intro C5 hba
  rw [← hb5] at hba
  refine ⟨trivial, (callsIn_wide.2 (linesP_any s W2)).mono ?_⟩
  rintro r W3 ⟨rfl, rfl⟩
  have GS : Blk (W2.alloc (.cells #[.string s] 9)) W2.heap.size 9 [.string s] := Blk.made W2 _ _
  have hbb : Below W2.heap.size W2 (W2.alloc (.cells #[.string s] 9)) := (Below.refl _ _).alloc (Nat.le_refl _) _
  revert GS hbb
  generalize W2.alloc (.cells #[.string s] 9) = W3
  generalize hgs : W2.heap.size = gs at *
  intro GS hbb
  rw [← hgs] at hbb
  have F3 := hide ((E3.out.below hba E3.out.lt).below hbb (E3.out.below hba E3.out.lt).lt)
  have F4 := hide ((E4.out.below hba E4.out.lt).below hbb (E4.out.below hba E4.out.lt).lt)
  have F5 := hide (C5.below hbb C5.lt)
  have FT := hide ((TBH.out.below hba).below hbb)
  have FG := hide GS
  have FB := hide ((B1.out.trans (hba.mono B1.out.size)).trans (hbb.mono (Nat.le_trans B1.out.size hba.size)))
  clear E3 E4 C5 TBH GS B1 hba hbb
  have heq : ∀ v : World, (binOp BinOp.eql 25 (.func (.func 6) #[] #[.pointer (some ⟨gs, 0, none⟩)]) .nilFunc).run Try.prog v = .ok (.bool false) v := fun v => by kernel_rfl
  gi_wp2_with fail
  refine wpIn_loop_rounds 3 ?_
  rw [roundsIn_succ]
  gi_wp2_with fail
  have C7 : Blk ((W3.alloc (.cells #[.int .i64 0] 3)).alloc (.cells #[.int .i64 0] 3)) W3.heap.size 3 [.int .i64 0] := (Blk.made W3 3 [.int .i64 0]).below ((Below.refl _ _).alloc (Nat.le_refl _) _) (Blk.made W3 3 [.int .i64 0]).lt
  have C8 : Blk ((W3.alloc (.cells #[.int .i64 0] 3)).alloc (.cells #[.int .i64 0] 3)) (W3.heap.size + 1) 3 [.int .i64 0] := by
    have := Blk.made (W3.alloc (.cells #[.int .i64 0] 3)) 3 [.int .i64 0]
    rwa [World.size_alloc] at this
  have hbc : Below W3.heap.size W3 ((W3.alloc (.cells #[.int .i64 0] 3)).alloc (.cells #[.int .i64 0] 3)) := ((Below.refl _ _).alloc (Nat.le_refl _) _).alloc (by simp) _
  revert C7 C8 hbc
  generalize (W3.alloc (.cells #[.int .i64 0] 3)).alloc (.cells #[.int .i64 0] 3) = W4
  generalize hb7 : W3.heap.size = b7 at *
  intro C7 C8 hbc
  rw [← hb7] at hbc
  try rw [hb7]
  have hb4 := hbc.size
  have hgs7 : gs < b7 := by have := FG.out.lt; omega
  have hw7 : w.heap.size < b7 := by have := F3.out.lt; omega
  have LS0 : LS w W4 b5 b7 (b7 + 1) stop 0 av cv (lns s) 0 := ⟨F3.out.below hbc F3.out.lt, F4.out.below hbc F4.out.lt, F5.out.below hbc F5.out.lt, C7, C8, FT.out.below hbc, FB.out.trans (hbc.mono FB.out.size)⟩
  have GS4 := FG.out.below hbc FG.out.lt
  have hgc : W4.cell? ⟨gs, 0, none⟩ = some (.string s) := by rw [GS4.cell]; rfl
  refine wpIn_rangeFunc_ownF rfl (by decide) (gf := 6) (lb := #[.pointer (some ⟨gs, 0, none⟩)]) rfl trivial (enters_of Try.func6 (by kernel_rfl) rfl)
    (lines_stops Fence.wide 2 trivial rfl (by decide) gs b7 s hs W4 hgs7 (by omega) hgc) belowK_t (belowK_b (by omega)) (Below.refl _ _) (fun _ => rfl)
    (IL w (fun v => Blk v gs 9 [.string s]) b5 b7 stop 0 av cv (lns s)) (IX w (fun v => Blk v gs 9 [.string s]) b5 b7 stop 0 av cv (lns s))
    (fun _ A B row h hg hr => ⟨h.1, h.2.1.kept hg (fun r e => ⟨by have := (hr r e).1; omega, (hr r e).2⟩), h.2.2.kept hg (fun r e => (hr r e).2)⟩)
    (fun c _ A B row h hg hr => h.imp id (fun h => ⟨h.1, h.2.1, h.2.2.1, h.2.2.2.1.kept hg (fun r e => ⟨by have := (hr r e).1; omega, (hr r e).2⟩), h.2.2.2.2.kept hg (fun r e => (hr r e).2)⟩))
    ⟨⟨by simp [en], by simp⟩, LS0, GS4⟩ ?acta ?assigna ?bodya ?donea ?stopa
  case assigna =>
    intro l x W K hK
    have hsem := Oper.semAt_some
    gi_wp2
    exact hK
  case bodya =>
    rintro l pre ⟨ix, line⟩ W ⟨⟨hp1, hp2⟩, hls, hX⟩ hlt
    have hsem := Oper.semAt_some
    have h3 : W.cell? ⟨w.heap.size, 0, none⟩ = some (.int .i64 stop) := by rw [hls.c3.cell]; rfl
    have h4 : W.cell? ⟨w.heap.size + 1, 0, none⟩ = some (.bool false) := by rw [hls.c4.cell]; rfl
    have f4 := hls.c4.free 0
    have h5 : W.cell? ⟨b5, 0, none⟩ = some (.slice av (lns s).length cv) := by rw [hls.c5.cell]; rfl
    have h7 : W.cell? ⟨b7, 0, none⟩ = some (.int .i64 0) := by rw [hls.c7.cell]; rfl
    have h8 : W.cell? ⟨b7 + 1, 0, none⟩ = some (.int .i64 (pre.length : Int)) := by rw [hls.c8.cell]; rfl
    have f8 := hls.c8.free 0
    obtain ⟨gw, ea, hcw⟩ := hls.tb.cell pre.length hlt
    subst ea
    have hix := t_at gw (lns s).length cv pre.length (pre.length : Int) rfl hlt
    have HLS := hide hls
    have HP1 := hide hp1
    clear hp1
    obtain ⟨pl, HPL⟩ : ∃ pl, Hid (pre.length = pl) := ⟨_, hide rfl⟩
    rw [HPL.out] at h8 hcw hix hlt hp2 HLS
    have hlt' : (pl : Int) < ((lns s).length : Int) := by omega
    clear hls
    have hlb := lns_len s
    have n3 : w.heap.size ≠ b7 + 1 := by omega
    have n7 : b7 ≠ b7 + 1 := by omega
    have nB : w.heap.size ≤ b7 + 1 := by omega
    by_cases h1 : ix = pl
    · subst h1
      by_cases h2 : line = (lns s).getD ix ByteArray.empty
      · subst h2
        have HL2 : Hid ((pre ++ [(ix, (lns s).getD ix ByteArray.empty)]).length = ix + 1) := hide (by rw [List.length_append, HPL.out]; rfl)
        have HEN := hide (grow_en (lns s) pre ix HPL.out hlt (by rw [← HPL.out]; exact HP1.out))
        have HST := hide (HLS.out.set (ix + 1) n3 n7 nB)
        by_cases hst : (ix : Int) + 1 = stop
        · have HST2 : Hid (LS w (W.setCell ⟨b7 + 1, 0, none⟩ (.int .i64 stop)) b5 b7 (b7 + 1) stop 0 (some ⟨gw, 0, none⟩) cv (lns s) (ix + 1)) := hide (by
            have e := HST.out
            have e2 : ((ix + 1 : Nat) : Int) = stop := by omega
            rwa [e2] at e)
          gi_wp2
          all_goals first
            | exact ⟨KeepsOthers.setCell _ _ _, .inr ⟨rfl, by first | rfl | trivial, by rw [HL2.out]; omega, by rw [HL2.out]; exact HST2.out, hX.but (But.setCell _ _ _ _) (hX.ne HLS.out.c8 (by decide))⟩⟩
            | exact ⟨KeepsOthers.setCell _ _ _, (Below.refl b7 W).setCell (p := ⟨b7 + 1, 0, none⟩) (by simp) _, ⟨by rw [HL2.out]; exact HEN.out, by rw [HL2.out]; omega⟩, by rw [HL2.out]; exact HST2.out, hX.but (But.setCell _ _ _ _) (hX.ne HLS.out.c8 (by decide))⟩
        · gi_wp2
          all_goals exact ⟨KeepsOthers.setCell _ _ _, (Below.refl b7 W).setCell (p := ⟨b7 + 1, 0, none⟩) (by simp) _, ⟨by rw [HL2.out]; exact HEN.out, by rw [HL2.out]; omega⟩, by rw [HL2.out]; exact HST.out, hX.but (But.setCell _ _ _ _) (hX.ne HLS.out.c8 (by decide))⟩
      · have HNP := hide (not_pre (lns s) pre ix (ix, line) HPL.out hlt (fun e => h2 (by injection e)))
        have h2' : ¬ line = (lns s)[ix]'hlt := by simpa [List.getD, hlt] using h2
        have h2q : (line.toList == ((lns s)[ix]'hlt).toList) = false := by
          rw [ByteArray.toList_eq, ByteArray.toList_eq, beq_eq_false_iff_ne]
          intro e
          exact h2' (ByteArray.ext (Array.toList_inj.1 e))
        clear h2 h2'
        gi_wp2
        all_goals exact ⟨KeepsOthers.setCell _ _ _, .inl ⟨rfl, HNP.out⟩⟩
    · have HNP := hide (not_pre (lns s) pre pl (ix, line) HPL.out hlt (fun e => h1 (by injection e)))
      have h1' : ¬ ((ix : Int) = (pl : Int)) := by omega
      gi_wp2
      all_goals exact ⟨KeepsOthers.setCell _ _ _, .inl ⟨rfl, HNP.out⟩⟩
  case donea =>
    rintro D ys W hD rfl ⟨_, hls, hX⟩ hK
    rw [en_length] at hls
    have h3 : W.cell? ⟨w.heap.size, 0, none⟩ = some (.int .i64 stop) := by rw [hls.c3.cell]; rfl
    have h5 : W.cell? ⟨b5, 0, none⟩ = some (.slice av (lns s).length cv) := by rw [hls.c5.cell]; rfl
    have h7 : W.cell? ⟨b7, 0, none⟩ = some (.int .i64 0) := by rw [hls.c7.cell]; rfl
    have h8 : W.cell? ⟨b7 + 1, 0, none⟩ = some (.int .i64 ((lns s).length : Int)) := by rw [hls.c8.cell]; rfl
    have F3 := hide hls.c3
    have F4 := hide hls.c4
    have F5 := hide hls.c5
    have FT := hide hls.tb
    have FG := hide hX
    have FB := hide hls.bel
    have HK1 := hide hK
    clear hls hX hK
    gi_wp2_with fail
    rw [roundsIn_succ]
    clear h3 h5 h7 h8
    gi_wp2_with fail
    have C7 : Blk ((W.alloc (.cells #[.int .i64 1] 3)).alloc (.cells #[.int .i64 0] 3)) W.heap.size 3 [.int .i64 1] := (Blk.made W 3 [.int .i64 1]).below ((Below.refl _ _).alloc (Nat.le_refl _) _) (Blk.made W 3 [.int .i64 1]).lt
    have C8 : Blk ((W.alloc (.cells #[.int .i64 1] 3)).alloc (.cells #[.int .i64 0] 3)) (W.heap.size + 1) 3 [.int .i64 0] := by
      have := Blk.made (W.alloc (.cells #[.int .i64 1] 3)) 3 [.int .i64 0]
      rwa [World.size_alloc] at this
    have hbc : Below W.heap.size W ((W.alloc (.cells #[.int .i64 1] 3)).alloc (.cells #[.int .i64 0] 3)) := ((Below.refl _ _).alloc (Nat.le_refl _) _).alloc (by simp) _
    revert C7 C8 hbc
    generalize (W.alloc (.cells #[.int .i64 1] 3)).alloc (.cells #[.int .i64 0] 3) = W4
    generalize hb7 : W.heap.size = b7 at *
    intro C7 C8 hbc
    rw [← hb7] at hbc
    try rw [hb7]
    have hb4 := hbc.size
    have hgs7 : gs < b7 := by have := FG.out.lt; omega
    have hw7 : w.heap.size < b7 := by have := F3.out.lt; omega
    have LS0 : LS w W4 b5 b7 (b7 + 1) stop 1 av cv (lns s) 0 := ⟨F3.out.below hbc F3.out.lt, F4.out.below hbc F4.out.lt, F5.out.below hbc F5.out.lt, C7, C8, FT.out.below hbc, FB.out.trans (hbc.mono FB.out.size)⟩
    have GS4 := FG.out.below hbc FG.out.lt
    have hgc : W4.cell? ⟨gs, 0, none⟩ = some (.string s) := by rw [GS4.cell]; rfl
    refine wpIn_rangeFunc_ownF rfl (by decide) (gf := 6) (lb := #[.pointer (some ⟨gs, 0, none⟩)]) rfl trivial (enters_of Try.func6 (by kernel_rfl) rfl)
      (lines_stops Fence.wide 2 trivial rfl (by decide) gs b7 s hs W4 hgs7 (by omega) hgc) belowK_t (belowK_b (by omega)) (Below.refl _ _) (fun _ => rfl)
      (IL w (fun v => v.heap[D]? = some (.deferred (some []))) b5 b7 stop 1 av cv (lns s)) (IX w (fun v => v.heap[D]? = some (.deferred (some []))) b5 b7 stop 1 av cv (lns s))
      (fun _ A B row h hg hr => ⟨h.1, h.2.1.kept hg (fun r e => ⟨by have := (hr r e).1; omega, (hr r e).2⟩), mark_kept h.2.2 hg hr (by have := (Array.getElem?_eq_some_iff.1 HK1.out).1; omega)⟩)
      (fun c _ A B row h hg hr => h.imp id (fun h => ⟨h.1, h.2.1, h.2.2.1, h.2.2.2.1.kept hg (fun r e => ⟨by have := (hr r e).1; omega, (hr r e).2⟩), mark_kept h.2.2.2.2 hg hr (by have := (Array.getElem?_eq_some_iff.1 HK1.out).1; omega)⟩))
      ⟨⟨by simp [en], by simp⟩, LS0, (hbc.block D (Array.getElem?_eq_some_iff.1 HK1.out).1).trans HK1.out⟩ ?actb ?assignb ?bodyb ?doneb ?stopb
    case assignb =>
      intro l x W K hK
      have hsem := Oper.semAt_some
      gi_wp2
      exact hK
    case bodyb =>
      rintro l pre ⟨ix, line⟩ W ⟨⟨hp1, hp2⟩, hls, hX⟩ hlt
      have hsem := Oper.semAt_some
      have h3 : W.cell? ⟨w.heap.size, 0, none⟩ = some (.int .i64 stop) := by rw [hls.c3.cell]; rfl
      have h4 : W.cell? ⟨w.heap.size + 1, 0, none⟩ = some (.bool false) := by rw [hls.c4.cell]; rfl
      have f4 := hls.c4.free 0
      have h5 : W.cell? ⟨b5, 0, none⟩ = some (.slice av (lns s).length cv) := by rw [hls.c5.cell]; rfl
      have h7 : W.cell? ⟨b7, 0, none⟩ = some (.int .i64 1) := by rw [hls.c7.cell]; rfl
      have h8 : W.cell? ⟨b7 + 1, 0, none⟩ = some (.int .i64 (pre.length : Int)) := by rw [hls.c8.cell]; rfl
      have f8 := hls.c8.free 0
      obtain ⟨gw, ea, hcw⟩ := hls.tb.cell pre.length hlt
      subst ea
      have hix := t_at gw (lns s).length cv pre.length (pre.length : Int) rfl hlt
      have HLS := hide hls
      have HP1 := hide hp1
      clear hp1
      obtain ⟨pl, HPL⟩ : ∃ pl, Hid (pre.length = pl) := ⟨_, hide rfl⟩
      rw [HPL.out] at h8 hcw hix hlt hp2 HLS
      have hlt' : (pl : Int) < ((lns s).length : Int) := by omega
      clear hls
      have hlb := lns_len s
      have n3 : w.heap.size ≠ b7 + 1 := by omega
      have n7 : b7 ≠ b7 + 1 := by omega
      have nB : w.heap.size ≤ b7 + 1 := by omega
      by_cases h1 : ix = pl
      · subst h1
        by_cases h2 : line = (lns s).getD ix ByteArray.empty
        · subst h2
          have HL2 : Hid ((pre ++ [(ix, (lns s).getD ix ByteArray.empty)]).length = ix + 1) := hide (by rw [List.length_append, HPL.out]; rfl)
          have HEN := hide (grow_en (lns s) pre ix HPL.out hlt (by rw [← HPL.out]; exact HP1.out))
          have HST := hide (HLS.out.set (ix + 1) n3 n7 nB)
          by_cases hst : (ix : Int) + 1 = stop
          · have HST2 : Hid (LS w (W.setCell ⟨b7 + 1, 0, none⟩ (.int .i64 stop)) b5 b7 (b7 + 1) stop 1 (some ⟨gw, 0, none⟩) cv (lns s) (ix + 1)) := hide (by
              have e := HST.out
              have e2 : ((ix + 1 : Nat) : Int) = stop := by omega
              rwa [e2] at e)
            gi_wp2
            all_goals first
              | exact ⟨KeepsOthers.setCell _ _ _, .inr ⟨rfl, by first | rfl | trivial, by rw [HL2.out]; omega, by rw [HL2.out]; exact HST2.out, (KeepsOthers.setCell _ _ _).same D _ hX rfl⟩⟩
              | exact ⟨KeepsOthers.setCell _ _ _, (Below.refl b7 W).setCell (p := ⟨b7 + 1, 0, none⟩) (by simp) _, ⟨by rw [HL2.out]; exact HEN.out, by rw [HL2.out]; omega⟩, by rw [HL2.out]; exact HST2.out, (KeepsOthers.setCell _ _ _).same D _ hX rfl⟩
          · gi_wp2
            all_goals exact ⟨KeepsOthers.setCell _ _ _, (Below.refl b7 W).setCell (p := ⟨b7 + 1, 0, none⟩) (by simp) _, ⟨by rw [HL2.out]; exact HEN.out, by rw [HL2.out]; omega⟩, by rw [HL2.out]; exact HST.out, (KeepsOthers.setCell _ _ _).same D _ hX rfl⟩
        · have HNP := hide (not_pre (lns s) pre ix (ix, line) HPL.out hlt (fun e => h2 (by injection e)))
          have h2' : ¬ line = (lns s)[ix]'hlt := by simpa [List.getD, hlt] using h2
          have h2q : (line.toList == ((lns s)[ix]'hlt).toList) = false := by
            rw [ByteArray.toList_eq, ByteArray.toList_eq, beq_eq_false_iff_ne]
            intro e
            exact h2' (ByteArray.ext (Array.toList_inj.1 e))
          clear h2 h2'
          gi_wp2
          all_goals exact ⟨KeepsOthers.setCell _ _ _, .inl ⟨rfl, HNP.out⟩⟩
      · have HNP := hide (not_pre (lns s) pre pl (ix, line) HPL.out hlt (fun e => h1 (by injection e)))
        have h1' : ¬ ((ix : Int) = (pl : Int)) := by omega
        gi_wp2
        all_goals exact ⟨KeepsOthers.setCell _ _ _, .inl ⟨rfl, HNP.out⟩⟩
    case stopb =>
      rintro D2 c pre W5 hD2 hSp (⟨_, hn⟩ | ⟨_, h, _⟩) hK2
      · exact absurd hSp hn
      · cases h
    case doneb =>
      rintro D2 ys W5 hD2 rfl ⟨_, hls, hX⟩ hK2
      rw [en_length] at hls
      have h3 : W5.cell? ⟨w.heap.size, 0, none⟩ = some (.int .i64 stop) := by rw [hls.c3.cell]; rfl
      have h4 : W5.cell? ⟨w.heap.size + 1, 0, none⟩ = some (.bool false) := by rw [hls.c4.cell]; rfl
      have f4 := hls.c4.free 0
      have h5 : W5.cell? ⟨b5, 0, none⟩ = some (.slice av (lns s).length cv) := by rw [hls.c5.cell]; rfl
      have h7 : W5.cell? ⟨b7, 0, none⟩ = some (.int .i64 1) := by rw [hls.c7.cell]; rfl
      have h8 : W5.cell? ⟨b7 + 1, 0, none⟩ = some (.int .i64 ((lns s).length : Int)) := by rw [hls.c8.cell]; rfl
      gi_wp2_with fail
      rw [roundsIn_succ]
      have hb6 : Below W5.heap.size W5 (W5.alloc (.cells #[.int .i64 2] 3)) := (Below.refl _ _).alloc (Nat.le_refl _) _
      have q4 : Blk (W5.alloc (.cells #[.int .i64 2] 3)) (w.heap.size + 1) 4 [.bool false] := hls.c4.below hb6 hls.c4.lt
      have q7 : Blk (W5.alloc (.cells #[.int .i64 2] 3)) W5.heap.size 3 [.int .i64 2] := Blk.made W5 _ _
      have qD : (W5.alloc (.cells #[.int .i64 2] 3)).heap[D]? = some (.deferred (some [])) := (hb6.block D (Array.getElem?_eq_some_iff.1 hX).1).trans hX
      have qD2 : (W5.alloc (.cells #[.int .i64 2] 3)).heap[D2]? = some (.deferred (some [])) := (hb6.block D2 (Array.getElem?_eq_some_iff.1 hK2).1).trans hK2
      have QB := hide (hls.bel.trans (hb6.mono hls.bel.size))
      clear h3 h4 f4 h5 h7 h8 hls hX hK2
      revert q4 q7 qD qD2 QB
      generalize W5.alloc (.cells #[.int .i64 2] 3) = W6
      generalize W5.heap.size = b9
      intro q4 q7 qD qD2 QB
      have h4 : W6.cell? ⟨w.heap.size + 1, 0, none⟩ = some (.bool false) := by rw [q4.cell]; rfl
      have f4 := q4.free 0
      have h7 : W6.cell? ⟨b9, 0, none⟩ = some (.int .i64 2) := by rw [q7.cell]; rfl
      gi_wp2_with fail
      have k1 := (KeepsOthers.setCell W6 ⟨w.heap.size + 1, 0, none⟩ (.bool true)).same D _ qD rfl
      have k2 := (KeepsOthers.setCell W6 ⟨w.heap.size + 1, 0, none⟩ (.bool true)).same D2 _ qD2 rfl
      have hDlt := (Array.getElem?_eq_some_iff.1 HK1.out).1
      have hDD : D ≠ D2 := by omega
      have k1' : ((W6.setCell ⟨w.heap.size + 1, 0, none⟩ (.bool true)).putObj D2 (.deferred none)).heap[D]? = some (.deferred (some [])) := by
        rw [World.putObj_heap_other hDD]
        exact k1
      have hcA := World.cell?_setCell_same' W6 ⟨w.heap.size + 1, 0, none⟩ (.bool true) (by rw [h4]; rfl)
      have hcB := cell_kept hcA (grownBy_putObj' _ D2 (.deferred none)) (fun r e => by cases e; exact ⟨_, k2, rfl⟩)
      have hcC := cell_kept hcB (grownBy_putObj' _ D (.deferred none)) (fun r e => by cases e; exact ⟨_, k1', rfl⟩)
      have BA := (QB.out.setCell (p := ⟨w.heap.size + 1, 0, none⟩) (by simp) (.bool true)).trans (belowK_b (w := w) (Nat.le_refl _) _ D2 _ (.deferred none) (by omega) k2 rfl rfl)
      have BC := BA.trans (belowK_b (w := w) (Nat.le_refl _) _ D _ (.deferred none) (by omega) k1' rfl rfl)
      refine ⟨by simp, .inl ⟨_, _, rfl, run_takeDeferred k2, ?_⟩⟩
      refine ⟨by simp, .inl ⟨_, _, rfl, run_takeDeferred k1', ?_⟩⟩
      refine ⟨.bool true, ?_, rfl, BC⟩
      simp [results, Try.f3, go_sem, hcC]
  case stopa =>
    rintro D c pre W hD hSp (⟨_, hn⟩ | ⟨rfl, _, hst, hls, hX⟩) hK
    · exact absurd hSp hn
    have hle : pre.length ≤ (lns s).length := by have := hSp.length_le; rwa [en_length] at this
    obtain ⟨pl, hpl⟩ : ∃ pl, pre.length = pl := ⟨_, rfl⟩
    rw [hpl] at hst hls hle
    by_cases hpL : pl = (lns s).length
    · subst hpL
      have h3 : W.cell? ⟨w.heap.size, 0, none⟩ = some (.int .i64 stop) := by rw [hls.c3.cell]; rfl
      have h5 : W.cell? ⟨b5, 0, none⟩ = some (.slice av (lns s).length cv) := by rw [hls.c5.cell]; rfl
      have h7 : W.cell? ⟨b7, 0, none⟩ = some (.int .i64 0) := by rw [hls.c7.cell]; rfl
      have h8 : W.cell? ⟨b7 + 1, 0, none⟩ = some (.int .i64 ((lns s).length : Int)) := by rw [hls.c8.cell]; rfl
      have F3 := hide hls.c3
      have F4 := hide hls.c4
      have F5 := hide hls.c5
      have FT := hide hls.tb
      have FG := hide hX
      have FB := hide hls.bel
      have HK1 := hide hK
      clear hls hX hK
      gi_wp2_with fail
      rw [roundsIn_succ]
      clear h3 h5 h7 h8
      gi_wp2_with fail
      have C7 : Blk ((W.alloc (.cells #[.int .i64 1] 3)).alloc (.cells #[.int .i64 0] 3)) W.heap.size 3 [.int .i64 1] := (Blk.made W 3 [.int .i64 1]).below ((Below.refl _ _).alloc (Nat.le_refl _) _) (Blk.made W 3 [.int .i64 1]).lt
      have C8 : Blk ((W.alloc (.cells #[.int .i64 1] 3)).alloc (.cells #[.int .i64 0] 3)) (W.heap.size + 1) 3 [.int .i64 0] := by
        have := Blk.made (W.alloc (.cells #[.int .i64 1] 3)) 3 [.int .i64 0]
        rwa [World.size_alloc] at this
      have hbc : Below W.heap.size W ((W.alloc (.cells #[.int .i64 1] 3)).alloc (.cells #[.int .i64 0] 3)) := ((Below.refl _ _).alloc (Nat.le_refl _) _).alloc (by simp) _
      revert C7 C8 hbc
      generalize (W.alloc (.cells #[.int .i64 1] 3)).alloc (.cells #[.int .i64 0] 3) = W4
      generalize hb7 : W.heap.size = b7 at *
      intro C7 C8 hbc
      rw [← hb7] at hbc
      try rw [hb7]
      have hb4 := hbc.size
      have hgs7 : gs < b7 := by have := FG.out.lt; omega
      have hw7 : w.heap.size < b7 := by have := F3.out.lt; omega
      have LS0 : LS w W4 b5 b7 (b7 + 1) stop 1 av cv (lns s) 0 := ⟨F3.out.below hbc F3.out.lt, F4.out.below hbc F4.out.lt, F5.out.below hbc F5.out.lt, C7, C8, FT.out.below hbc, FB.out.trans (hbc.mono FB.out.size)⟩
      have GS4 := FG.out.below hbc FG.out.lt
      have hgc : W4.cell? ⟨gs, 0, none⟩ = some (.string s) := by rw [GS4.cell]; rfl
      refine wpIn_rangeFunc_ownF rfl (by decide) (gf := 6) (lb := #[.pointer (some ⟨gs, 0, none⟩)]) rfl trivial (enters_of Try.func6 (by kernel_rfl) rfl)
        (lines_stops Fence.wide 2 trivial rfl (by decide) gs b7 s hs W4 hgs7 (by omega) hgc) belowK_t (belowK_b (by omega)) (Below.refl _ _) (fun _ => rfl)
        (IL w (fun v => v.heap[D]? = some (.deferred (some []))) b5 b7 stop 1 av cv (lns s)) (IX w (fun v => v.heap[D]? = some (.deferred (some []))) b5 b7 stop 1 av cv (lns s))
        (fun _ A B row h hg hr => ⟨h.1, h.2.1.kept hg (fun r e => ⟨by have := (hr r e).1; omega, (hr r e).2⟩), mark_kept h.2.2 hg hr (by have := (Array.getElem?_eq_some_iff.1 HK1.out).1; omega)⟩)
        (fun c _ A B row h hg hr => h.imp id (fun h => ⟨h.1, h.2.1, h.2.2.1, h.2.2.2.1.kept hg (fun r e => ⟨by have := (hr r e).1; omega, (hr r e).2⟩), mark_kept h.2.2.2.2 hg hr (by have := (Array.getElem?_eq_some_iff.1 HK1.out).1; omega)⟩))
        ⟨⟨by simp [en], by simp⟩, LS0, (hbc.block D (Array.getElem?_eq_some_iff.1 HK1.out).1).trans HK1.out⟩ ?actc ?assignc ?bodyc ?donec ?stopc
      case assignc =>
        intro l x W K hK
        have hsem := Oper.semAt_some
        gi_wp2
        exact hK
      case bodyc =>
        rintro l pre ⟨ix, line⟩ W ⟨⟨hp1, hp2⟩, hls, hX⟩ hlt
        have hsem := Oper.semAt_some
        have h3 : W.cell? ⟨w.heap.size, 0, none⟩ = some (.int .i64 stop) := by rw [hls.c3.cell]; rfl
        have h4 : W.cell? ⟨w.heap.size + 1, 0, none⟩ = some (.bool false) := by rw [hls.c4.cell]; rfl
        have f4 := hls.c4.free 0
        have h5 : W.cell? ⟨b5, 0, none⟩ = some (.slice av (lns s).length cv) := by rw [hls.c5.cell]; rfl
        have h7 : W.cell? ⟨b7, 0, none⟩ = some (.int .i64 1) := by rw [hls.c7.cell]; rfl
        have h8 : W.cell? ⟨b7 + 1, 0, none⟩ = some (.int .i64 (pre.length : Int)) := by rw [hls.c8.cell]; rfl
        have f8 := hls.c8.free 0
        obtain ⟨gw, ea, hcw⟩ := hls.tb.cell pre.length hlt
        subst ea
        have hix := t_at gw (lns s).length cv pre.length (pre.length : Int) rfl hlt
        have HLS := hide hls
        have HP1 := hide hp1
        clear hp1
        obtain ⟨pl, HPL⟩ : ∃ pl, Hid (pre.length = pl) := ⟨_, hide rfl⟩
        rw [HPL.out] at h8 hcw hix hlt hp2 HLS
        have hlt' : (pl : Int) < ((lns s).length : Int) := by omega
        clear hls
        have hlb := lns_len s
        have n3 : w.heap.size ≠ b7 + 1 := by omega
        have n7 : b7 ≠ b7 + 1 := by omega
        have nB : w.heap.size ≤ b7 + 1 := by omega
        by_cases h1 : ix = pl
        · subst h1
          by_cases h2 : line = (lns s).getD ix ByteArray.empty
          · subst h2
            have HL2 : Hid ((pre ++ [(ix, (lns s).getD ix ByteArray.empty)]).length = ix + 1) := hide (by rw [List.length_append, HPL.out]; rfl)
            have HEN := hide (grow_en (lns s) pre ix HPL.out hlt (by rw [← HPL.out]; exact HP1.out))
            have HST := hide (HLS.out.set (ix + 1) n3 n7 nB)
            by_cases hst : (ix : Int) + 1 = stop
            · have HST2 : Hid (LS w (W.setCell ⟨b7 + 1, 0, none⟩ (.int .i64 stop)) b5 b7 (b7 + 1) stop 1 (some ⟨gw, 0, none⟩) cv (lns s) (ix + 1)) := hide (by
                have e := HST.out
                have e2 : ((ix + 1 : Nat) : Int) = stop := by omega
                rwa [e2] at e)
              gi_wp2
              all_goals first
                | exact ⟨KeepsOthers.setCell _ _ _, .inr ⟨rfl, by first | rfl | trivial, by rw [HL2.out]; omega, by rw [HL2.out]; exact HST2.out, (KeepsOthers.setCell _ _ _).same D _ hX rfl⟩⟩
                | exact ⟨KeepsOthers.setCell _ _ _, (Below.refl b7 W).setCell (p := ⟨b7 + 1, 0, none⟩) (by simp) _, ⟨by rw [HL2.out]; exact HEN.out, by rw [HL2.out]; omega⟩, by rw [HL2.out]; exact HST2.out, (KeepsOthers.setCell _ _ _).same D _ hX rfl⟩
            · gi_wp2
              all_goals exact ⟨KeepsOthers.setCell _ _ _, (Below.refl b7 W).setCell (p := ⟨b7 + 1, 0, none⟩) (by simp) _, ⟨by rw [HL2.out]; exact HEN.out, by rw [HL2.out]; omega⟩, by rw [HL2.out]; exact HST.out, (KeepsOthers.setCell _ _ _).same D _ hX rfl⟩
          · have HNP := hide (not_pre (lns s) pre ix (ix, line) HPL.out hlt (fun e => h2 (by injection e)))
            have h2' : ¬ line = (lns s)[ix]'hlt := by simpa [List.getD, hlt] using h2
            have h2q : (line.toList == ((lns s)[ix]'hlt).toList) = false := by
              rw [ByteArray.toList_eq, ByteArray.toList_eq, beq_eq_false_iff_ne]
              intro e
              exact h2' (ByteArray.ext (Array.toList_inj.1 e))
            clear h2 h2'
            gi_wp2
            all_goals exact ⟨KeepsOthers.setCell _ _ _, .inl ⟨rfl, HNP.out⟩⟩
        · have HNP := hide (not_pre (lns s) pre pl (ix, line) HPL.out hlt (fun e => h1 (by injection e)))
          have h1' : ¬ ((ix : Int) = (pl : Int)) := by omega
          gi_wp2
          all_goals exact ⟨KeepsOthers.setCell _ _ _, .inl ⟨rfl, HNP.out⟩⟩
      case stopc =>
        rintro D2 c pre W5 hD2 hSp (⟨_, hn⟩ | ⟨_, h, _⟩) hK2
        · exact absurd hSp hn
        · cases h
      case donec =>
        rintro D2 ys W5 hD2 rfl ⟨_, hls, hX⟩ hK2
        rw [en_length] at hls
        have h3 : W5.cell? ⟨w.heap.size, 0, none⟩ = some (.int .i64 stop) := by rw [hls.c3.cell]; rfl
        have h4 : W5.cell? ⟨w.heap.size + 1, 0, none⟩ = some (.bool false) := by rw [hls.c4.cell]; rfl
        have f4 := hls.c4.free 0
        have h5 : W5.cell? ⟨b5, 0, none⟩ = some (.slice av (lns s).length cv) := by rw [hls.c5.cell]; rfl
        have h7 : W5.cell? ⟨b7, 0, none⟩ = some (.int .i64 1) := by rw [hls.c7.cell]; rfl
        have h8 : W5.cell? ⟨b7 + 1, 0, none⟩ = some (.int .i64 ((lns s).length : Int)) := by rw [hls.c8.cell]; rfl
        gi_wp2_with fail
        rw [roundsIn_succ]
        have hb6 : Below W5.heap.size W5 (W5.alloc (.cells #[.int .i64 2] 3)) := (Below.refl _ _).alloc (Nat.le_refl _) _
        have q4 : Blk (W5.alloc (.cells #[.int .i64 2] 3)) (w.heap.size + 1) 4 [.bool false] := hls.c4.below hb6 hls.c4.lt
        have q7 : Blk (W5.alloc (.cells #[.int .i64 2] 3)) W5.heap.size 3 [.int .i64 2] := Blk.made W5 _ _
        have qD : (W5.alloc (.cells #[.int .i64 2] 3)).heap[D]? = some (.deferred (some [])) := (hb6.block D (Array.getElem?_eq_some_iff.1 hX).1).trans hX
        have qD2 : (W5.alloc (.cells #[.int .i64 2] 3)).heap[D2]? = some (.deferred (some [])) := (hb6.block D2 (Array.getElem?_eq_some_iff.1 hK2).1).trans hK2
        have QB := hide (hls.bel.trans (hb6.mono hls.bel.size))
        clear h3 h4 f4 h5 h7 h8 hls hX hK2
        revert q4 q7 qD qD2 QB
        generalize W5.alloc (.cells #[.int .i64 2] 3) = W6
        generalize W5.heap.size = b9
        intro q4 q7 qD qD2 QB
        have h4 : W6.cell? ⟨w.heap.size + 1, 0, none⟩ = some (.bool false) := by rw [q4.cell]; rfl
        have f4 := q4.free 0
        have h7 : W6.cell? ⟨b9, 0, none⟩ = some (.int .i64 2) := by rw [q7.cell]; rfl
        gi_wp2_with fail
        have k1 := (KeepsOthers.setCell W6 ⟨w.heap.size + 1, 0, none⟩ (.bool true)).same D _ qD rfl
        have k2 := (KeepsOthers.setCell W6 ⟨w.heap.size + 1, 0, none⟩ (.bool true)).same D2 _ qD2 rfl
        have hDlt := (Array.getElem?_eq_some_iff.1 HK1.out).1
        have hDD : D ≠ D2 := by omega
        have k1' : ((W6.setCell ⟨w.heap.size + 1, 0, none⟩ (.bool true)).putObj D2 (.deferred none)).heap[D]? = some (.deferred (some [])) := by
          rw [World.putObj_heap_other hDD]
          exact k1
        have hcA := World.cell?_setCell_same' W6 ⟨w.heap.size + 1, 0, none⟩ (.bool true) (by rw [h4]; rfl)
        have hcB := cell_kept hcA (grownBy_putObj' _ D2 (.deferred none)) (fun r e => by cases e; exact ⟨_, k2, rfl⟩)
        have hcC := cell_kept hcB (grownBy_putObj' _ D (.deferred none)) (fun r e => by cases e; exact ⟨_, k1', rfl⟩)
        have BA := (QB.out.setCell (p := ⟨w.heap.size + 1, 0, none⟩) (by simp) (.bool true)).trans (belowK_b (w := w) (Nat.le_refl _) _ D2 _ (.deferred none) (by omega) k2 rfl rfl)
        have BC := BA.trans (belowK_b (w := w) (Nat.le_refl _) _ D _ (.deferred none) (by omega) k1' rfl rfl)
        refine ⟨by simp, .inl ⟨_, _, rfl, run_takeDeferred k2, ?_⟩⟩
        refine ⟨by simp, .inl ⟨_, _, rfl, run_takeDeferred k1', ?_⟩⟩
        refine ⟨.bool true, ?_, rfl, BC⟩
        simp [results, Try.f3, go_sem, hcC]
    · have hpL' : ¬ ((pl : Int) = ((lns s).length : Int)) := by omega
      have h3 : W.cell? ⟨w.heap.size, 0, none⟩ = some (.int .i64 stop) := by rw [hls.c3.cell]; rfl
      have h5 : W.cell? ⟨b5, 0, none⟩ = some (.slice av (lns s).length cv) := by rw [hls.c5.cell]; rfl
      have h7 : W.cell? ⟨b7, 0, none⟩ = some (.int .i64 0) := by rw [hls.c7.cell]; rfl
      have h8 : W.cell? ⟨b7 + 1, 0, none⟩ = some (.int .i64 (pl : Int)) := by rw [hls.c8.cell]; rfl
      have F3 := hide hls.c3
      have F4 := hide hls.c4
      have F5 := hide hls.c5
      have FT := hide hls.tb
      have FG := hide hX
      have FB := hide hls.bel
      have HK1 := hide hK
      clear hls hX hK
      gi_wp2_with fail
      rw [roundsIn_succ]
      clear h3 h5 h7 h8
      gi_wp2_with fail
      have C7 : Blk ((W.alloc (.cells #[.int .i64 1] 3)).alloc (.cells #[.int .i64 0] 3)) W.heap.size 3 [.int .i64 1] := (Blk.made W 3 [.int .i64 1]).below ((Below.refl _ _).alloc (Nat.le_refl _) _) (Blk.made W 3 [.int .i64 1]).lt
      have C8 : Blk ((W.alloc (.cells #[.int .i64 1] 3)).alloc (.cells #[.int .i64 0] 3)) (W.heap.size + 1) 3 [.int .i64 0] := by
        have := Blk.made (W.alloc (.cells #[.int .i64 1] 3)) 3 [.int .i64 0]
        rwa [World.size_alloc] at this
      have hbc : Below W.heap.size W ((W.alloc (.cells #[.int .i64 1] 3)).alloc (.cells #[.int .i64 0] 3)) := ((Below.refl _ _).alloc (Nat.le_refl _) _).alloc (by simp) _
      revert C7 C8 hbc
      generalize (W.alloc (.cells #[.int .i64 1] 3)).alloc (.cells #[.int .i64 0] 3) = W4
      generalize hb7 : W.heap.size = b7 at *
      intro C7 C8 hbc
      rw [← hb7] at hbc
      try rw [hb7]
      have hb4 := hbc.size
      have hgs7 : gs < b7 := by have := FG.out.lt; omega
      have hw7 : w.heap.size < b7 := by have := F3.out.lt; omega
      have LS0 : LS w W4 b5 b7 (b7 + 1) stop 1 av cv (lns s) 0 := ⟨F3.out.below hbc F3.out.lt, F4.out.below hbc F4.out.lt, F5.out.below hbc F5.out.lt, C7, C8, FT.out.below hbc, FB.out.trans (hbc.mono FB.out.size)⟩
      have GS4 := FG.out.below hbc FG.out.lt
      have hgc : W4.cell? ⟨gs, 0, none⟩ = some (.string s) := by rw [GS4.cell]; rfl
      refine wpIn_rangeFunc_ownF rfl (by decide) (gf := 6) (lb := #[.pointer (some ⟨gs, 0, none⟩)]) rfl trivial (enters_of Try.func6 (by kernel_rfl) rfl)
        (lines_stops Fence.wide 2 trivial rfl (by decide) gs b7 s hs W4 hgs7 (by omega) hgc) belowK_t (belowK_b (by omega)) (Below.refl _ _) (fun _ => rfl)
        (IL w (fun v => v.heap[D]? = some (.deferred (some []))) b5 b7 stop 1 av cv (lns s)) (IX w (fun v => v.heap[D]? = some (.deferred (some []))) b5 b7 stop 1 av cv (lns s))
        (fun _ A B row h hg hr => ⟨h.1, h.2.1.kept hg (fun r e => ⟨by have := (hr r e).1; omega, (hr r e).2⟩), mark_kept h.2.2 hg hr (by have := (Array.getElem?_eq_some_iff.1 HK1.out).1; omega)⟩)
        (fun c _ A B row h hg hr => h.imp id (fun h => ⟨h.1, h.2.1, h.2.2.1, h.2.2.2.1.kept hg (fun r e => ⟨by have := (hr r e).1; omega, (hr r e).2⟩), mark_kept h.2.2.2.2 hg hr (by have := (Array.getElem?_eq_some_iff.1 HK1.out).1; omega)⟩))
        ⟨⟨by simp [en], by simp⟩, LS0, (hbc.block D (Array.getElem?_eq_some_iff.1 HK1.out).1).trans HK1.out⟩ ?actd ?assignd ?bodyd ?doned ?stopd
      case assignd =>
        intro l x W K hK
        have hsem := Oper.semAt_some
        gi_wp2
        exact hK
      case bodyd =>
        rintro l pre ⟨ix, line⟩ W ⟨⟨hp1, hp2⟩, hls, hX⟩ hlt
        have hsem := Oper.semAt_some
        have h3 : W.cell? ⟨w.heap.size, 0, none⟩ = some (.int .i64 stop) := by rw [hls.c3.cell]; rfl
        have h4 : W.cell? ⟨w.heap.size + 1, 0, none⟩ = some (.bool false) := by rw [hls.c4.cell]; rfl
        have f4 := hls.c4.free 0
        have h5 : W.cell? ⟨b5, 0, none⟩ = some (.slice av (lns s).length cv) := by rw [hls.c5.cell]; rfl
        have h7 : W.cell? ⟨b7, 0, none⟩ = some (.int .i64 1) := by rw [hls.c7.cell]; rfl
        have h8 : W.cell? ⟨b7 + 1, 0, none⟩ = some (.int .i64 (pre.length : Int)) := by rw [hls.c8.cell]; rfl
        have f8 := hls.c8.free 0
        obtain ⟨gw, ea, hcw⟩ := hls.tb.cell pre.length hlt
        subst ea
        have hix := t_at gw (lns s).length cv pre.length (pre.length : Int) rfl hlt
        have HLS := hide hls
        have HP1 := hide hp1
        clear hp1
        obtain ⟨pl, HPL⟩ : ∃ pl, Hid (pre.length = pl) := ⟨_, hide rfl⟩
        rw [HPL.out] at h8 hcw hix hlt hp2 HLS
        have hlt' : (pl : Int) < ((lns s).length : Int) := by omega
        clear hls
        have hlb := lns_len s
        have n3 : w.heap.size ≠ b7 + 1 := by omega
        have n7 : b7 ≠ b7 + 1 := by omega
        have nB : w.heap.size ≤ b7 + 1 := by omega
        by_cases h1 : ix = pl
        · subst h1
          by_cases h2 : line = (lns s).getD ix ByteArray.empty
          · subst h2
            have HL2 : Hid ((pre ++ [(ix, (lns s).getD ix ByteArray.empty)]).length = ix + 1) := hide (by rw [List.length_append, HPL.out]; rfl)
            have HEN := hide (grow_en (lns s) pre ix HPL.out hlt (by rw [← HPL.out]; exact HP1.out))
            have HST := hide (HLS.out.set (ix + 1) n3 n7 nB)
            by_cases hst : (ix : Int) + 1 = stop
            · have HST2 : Hid (LS w (W.setCell ⟨b7 + 1, 0, none⟩ (.int .i64 stop)) b5 b7 (b7 + 1) stop 1 (some ⟨gw, 0, none⟩) cv (lns s) (ix + 1)) := hide (by
                have e := HST.out
                have e2 : ((ix + 1 : Nat) : Int) = stop := by omega
                rwa [e2] at e)
              gi_wp2
              all_goals first
                | exact ⟨KeepsOthers.setCell _ _ _, .inr ⟨rfl, by first | rfl | trivial, by rw [HL2.out]; omega, by rw [HL2.out]; exact HST2.out, (KeepsOthers.setCell _ _ _).same D _ hX rfl⟩⟩
                | exact ⟨KeepsOthers.setCell _ _ _, (Below.refl b7 W).setCell (p := ⟨b7 + 1, 0, none⟩) (by simp) _, ⟨by rw [HL2.out]; exact HEN.out, by rw [HL2.out]; omega⟩, by rw [HL2.out]; exact HST2.out, (KeepsOthers.setCell _ _ _).same D _ hX rfl⟩
            · gi_wp2
              all_goals exact ⟨KeepsOthers.setCell _ _ _, (Below.refl b7 W).setCell (p := ⟨b7 + 1, 0, none⟩) (by simp) _, ⟨by rw [HL2.out]; exact HEN.out, by rw [HL2.out]; omega⟩, by rw [HL2.out]; exact HST.out, (KeepsOthers.setCell _ _ _).same D _ hX rfl⟩
          · have HNP := hide (not_pre (lns s) pre ix (ix, line) HPL.out hlt (fun e => h2 (by injection e)))
            have h2' : ¬ line = (lns s)[ix]'hlt := by simpa [List.getD, hlt] using h2
            have h2q : (line.toList == ((lns s)[ix]'hlt).toList) = false := by
              rw [ByteArray.toList_eq, ByteArray.toList_eq, beq_eq_false_iff_ne]
              intro e
              exact h2' (ByteArray.ext (Array.toList_inj.1 e))
            clear h2 h2'
            gi_wp2
            all_goals exact ⟨KeepsOthers.setCell _ _ _, .inl ⟨rfl, HNP.out⟩⟩
        · have HNP := hide (not_pre (lns s) pre pl (ix, line) HPL.out hlt (fun e => h1 (by injection e)))
          have h1' : ¬ ((ix : Int) = (pl : Int)) := by omega
          gi_wp2
          all_goals exact ⟨KeepsOthers.setCell _ _ _, .inl ⟨rfl, HNP.out⟩⟩
      case stopd =>
        rintro D2 c pre W5 hD2 hSp (⟨_, hn⟩ | ⟨_, h, _⟩) hK2
        · exact absurd hSp hn
        · cases h
      case doned =>
        rintro D2 ys W5 hD2 rfl ⟨_, hls, hX⟩ hK2
        rw [en_length] at hls
        have h3 : W5.cell? ⟨w.heap.size, 0, none⟩ = some (.int .i64 stop) := by rw [hls.c3.cell]; rfl
        have h4 : W5.cell? ⟨w.heap.size + 1, 0, none⟩ = some (.bool false) := by rw [hls.c4.cell]; rfl
        have f4 := hls.c4.free 0
        have h5 : W5.cell? ⟨b5, 0, none⟩ = some (.slice av (lns s).length cv) := by rw [hls.c5.cell]; rfl
        have h7 : W5.cell? ⟨b7, 0, none⟩ = some (.int .i64 1) := by rw [hls.c7.cell]; rfl
        have h8 : W5.cell? ⟨b7 + 1, 0, none⟩ = some (.int .i64 ((lns s).length : Int)) := by rw [hls.c8.cell]; rfl
        gi_wp2_with fail
        rw [roundsIn_succ]
        have hb6 : Below W5.heap.size W5 (W5.alloc (.cells #[.int .i64 2] 3)) := (Below.refl _ _).alloc (Nat.le_refl _) _
        have q4 : Blk (W5.alloc (.cells #[.int .i64 2] 3)) (w.heap.size + 1) 4 [.bool false] := hls.c4.below hb6 hls.c4.lt
        have q7 : Blk (W5.alloc (.cells #[.int .i64 2] 3)) W5.heap.size 3 [.int .i64 2] := Blk.made W5 _ _
        have qD : (W5.alloc (.cells #[.int .i64 2] 3)).heap[D]? = some (.deferred (some [])) := (hb6.block D (Array.getElem?_eq_some_iff.1 hX).1).trans hX
        have qD2 : (W5.alloc (.cells #[.int .i64 2] 3)).heap[D2]? = some (.deferred (some [])) := (hb6.block D2 (Array.getElem?_eq_some_iff.1 hK2).1).trans hK2
        have QB := hide (hls.bel.trans (hb6.mono hls.bel.size))
        clear h3 h4 f4 h5 h7 h8 hls hX hK2
        revert q4 q7 qD qD2 QB
        generalize W5.alloc (.cells #[.int .i64 2] 3) = W6
        generalize W5.heap.size = b9
        intro q4 q7 qD qD2 QB
        have h4 : W6.cell? ⟨w.heap.size + 1, 0, none⟩ = some (.bool false) := by rw [q4.cell]; rfl
        have f4 := q4.free 0
        have h7 : W6.cell? ⟨b9, 0, none⟩ = some (.int .i64 2) := by rw [q7.cell]; rfl
        gi_wp2_with fail
        have k1 := (KeepsOthers.setCell W6 ⟨w.heap.size + 1, 0, none⟩ (.bool true)).same D _ qD rfl
        have k2 := (KeepsOthers.setCell W6 ⟨w.heap.size + 1, 0, none⟩ (.bool true)).same D2 _ qD2 rfl
        have hDlt := (Array.getElem?_eq_some_iff.1 HK1.out).1
        have hDD : D ≠ D2 := by omega
        have k1' : ((W6.setCell ⟨w.heap.size + 1, 0, none⟩ (.bool true)).putObj D2 (.deferred none)).heap[D]? = some (.deferred (some [])) := by
          rw [World.putObj_heap_other hDD]
          exact k1
        have hcA := World.cell?_setCell_same' W6 ⟨w.heap.size + 1, 0, none⟩ (.bool true) (by rw [h4]; rfl)
        have hcB := cell_kept hcA (grownBy_putObj' _ D2 (.deferred none)) (fun r e => by cases e; exact ⟨_, k2, rfl⟩)
        have hcC := cell_kept hcB (grownBy_putObj' _ D (.deferred none)) (fun r e => by cases e; exact ⟨_, k1', rfl⟩)
        have BA := (QB.out.setCell (p := ⟨w.heap.size + 1, 0, none⟩) (by simp) (.bool true)).trans (belowK_b (w := w) (Nat.le_refl _) _ D2 _ (.deferred none) (by omega) k2 rfl rfl)
        have BC := BA.trans (belowK_b (w := w) (Nat.le_refl _) _ D _ (.deferred none) (by omega) k1' rfl rfl)
        refine ⟨by simp, .inl ⟨_, _, rfl, run_takeDeferred k2, ?_⟩⟩
        refine ⟨by simp, .inl ⟨_, _, rfl, run_takeDeferred k1', ?_⟩⟩
        refine ⟨.bool true, ?_, rfl, BC⟩
        simp [results, Try.f3, go_sem, hcC]

end Go.Proofs.Ytjfambchoijfhaa
