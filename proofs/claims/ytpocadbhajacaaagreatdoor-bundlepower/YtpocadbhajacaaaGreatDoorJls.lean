/-
  The program's way through the names, for bodies that leave all names.
-/
import Derived.Test.YtpocadbhajacaaaGreatDoorKqu
import Derived.Test.YtpocadbhajacaaaGreatDoorFrg
namespace Go.Proofs.YtpocadbhajacaaaGreatDoor
open Go.RowKit Go.Maps Go.Sort Go.Shelf
set_option linter.unusedVariables false

theorem st_at (g n cap i : Nat) (hi : i < n) (W : World) : (Instr.indexAt 74 (.slice (some ⟨g, 0, none⟩) n cap) (.int .i64 (i : Int))).run Tryz.prog W = .ok (.pointer (some ⟨g, i, none⟩)) W := by
  have := vw_at rSt g n cap i hi W
  rw [Nat.mul_one] at this
  exact this
/-- What the program's iterator asks of a round that goes on: all blocks of names are left. -/
structure KS (A C : World) : Prop where
  size : A.heap.size ≤ C.heap.size
  keep : ∀ (k : Nat) (cs : List Value), Blk A k 9 cs → Blk C k 9 cs
theorem KS.refl (A : World) : KS A A := ⟨Nat.le_refl _, fun _ _ h => h⟩
theorem KS.trans {A C D : World} (h : KS A C) (k : KS C D) : KS A D := ⟨Nat.le_trans h.size k.size, fun i cs ho => k.keep i cs (h.keep i cs ho)⟩
theorem KS.book (W : World) (l : Nat) (o o' : Obj) (h : W.heap[l]? = some o) (hc : o.isCells = false) : KS W (W.putObj l o') :=
  ⟨(grownBy_putObj' W l o').size, fun k cs hq => by
    have hne : k ≠ l := fun e => by
      subst e
      rw [hq] at h
      injection h with h
      subst h
      cases hc
    unfold Blk
    rw [World.putObj_heap_other hne]
    exact hq⟩
theorem KS.below {A C : World} (h : Below A.heap.size A C) : KS A C := ⟨h.size, fun k cs hk => hk.on h⟩
theorem KS.but {g : Nat} {A C : World} {t : TypeId} {cs : List Value} (h : But g A C) (hg : Blk A g t cs) (ht : 9 ≠ t) : KS A C := ⟨Nat.le_of_eq h.size.symm, fun k ds hk => hk.but h (hk.apart hg ht)⟩
theorem KS.grown {A C : World} {row : Option Nat} (h : A.grownBy C row) (hr : ∀ g, row = some g → ∃ t cs, Blk A g t cs ∧ 9 ≠ t) : KS A C :=
  ⟨h.size, fun k ds hk => by
    unfold Blk
    rw [h.block k hk.lt (fun e => by
      obtain ⟨t, cs, h1, h2⟩ := hr k e.symm
      exact hk.apart h1 h2 rfl)]
    exact hk⟩
/-- What is handed out behind pre is the next name. -/
def RL (ls : List (ByteArray × List Int)) (pre : List ByteArray) (x : ByteArray) (W : World) : Prop := pre = (ls.take pre.length).map (·.1) ∧ ∃ ys, ls[pre.length]? = some (x, ys)
set_option maxRecDepth 100000 in
set_option maxHeartbeats 2000000 in
theorem list_seq (Bs d s : Nat) (rs : List Rw) (D : Dm) {ls : List (ByteArray × List Int)} (hl : FL (play rs) ls) (hwt : wt rs ≤ 1099511000000) (w : World) (hBs0 : Blk w Bs 26 [.pointer (some ⟨d, 0, none⟩)]) (hd0 : DkAt w d s rs D) :
    SeqR Fence.wide 6 Tryz.prog 79 #[.pointer (some ⟨Bs, 0, none⟩)] (fun x : ByteArray => #[.string x]) (RL ls) (fun _ => KS) (fun ys => ys = ls.map (·.1)) (fun pre => pre <+: ls.map (·.1)) w := by
  intro l J Jx W hbw hJ hJx hY h0
  have h : DkAt W d s rs D := hd0.below hbw
  have hBs : W.cell? ⟨Bs, 0, none⟩ = some (.pointer (some ⟨d, 0, none⟩)) := by rw [(hBs0.on hbw).cell]; rfl
  clear hbw hBs0 hd0 hJx
  obtain ⟨c0, c1, c3, hp⟩ := h.made
  have hlen : ls.length ≤ 1099511000000 := by
    have h1 : ls.length ≤ D.fm.length := by
      have h2 := sub_len (ls.map (·.1)) (D.fm.map (·.1)) (by rw [List.Nodup, List.pairwise_map]; exact hl.srt.imp (fun {a b} hab => blt_ne hab)) (fun n hn => by
        obtain ⟨x, hx, rfl⟩ := List.mem_map.1 hn
        obtain ⟨u, hu, _⟩ := h.fil.mem ((hl.mem x.1 x.2).2 hx)
        exact List.mem_map.2 ⟨_, hu, rfl⟩)
      simpa using h2
    have h3 := (h.bounds hwt).2
    omega
  have hS := sorted12 d s rs D W h hwt hl
  have HS := hide hS
  have HYY := hide hY
  have HJJ := hide hJ
  have H0 := hide h0
  have hfK : Fence.wide.fn 81 := trivial
  have hfS : Fence.wide.fn 80 := trivial
  have hfM : Fence.wide.fn 55 := trivial
  clear h hS hY hJ h0 c3
  generalize hL : ls.length = L at *
  have HL := hide hL
  clear hL
  refine callsIn_of_wp Tryz.func79 rfl trivial ?_ rfl
  simp only [Tryz.ntmps79, List.size_toArray, List.length_cons, List.length_nil, Nat.reduceAdd, Nat.reduceSub, Array.replicate_succ, Array.replicate_zero, List.push_toArray, List.append_toArray, List.nil_append, List.cons_append]
  gi_wp2_with (first
    | (gi_at_call 55; refine (callsIn_wide.2 (made_ok _ _ _ c0 hp)).mono ?_; rintro e W ⟨rfl, rfl⟩)
    | (gi_at_call 81; refine (keys12 _ _).mono ?_; rintro e w' ⟨rfl, rfl⟩)
    | (gi_at_call 80; refine HS.out.mono ?_; rintro e W2 ⟨v, rfl, hrow, hb⟩; obtain ⟨va, vc, hve⟩ := row_slice hrow; subst hve))
  have J2 : J [] W2 := HJJ.out [] W W2 none H0.out ⟨hb.os, hb.tape, hb.output, hb.size, fun i hi _ => hb.block i hi⟩ (fun r e => by cases e)
  have HJ2 := hide J2
  have HROW := hide hrow
  clear J2 hrow hb c0 c1
  gi_loopw [15] (fun c wr => ∃ k : Nat, k ≤ L ∧ c = .int .i64 (k : Int) ∧ Hid (J ((ls.take k).map (·.1)) wr) ∧ Hid (wr.ownsRow W.heap.size 9 1 (.slice va L vc) L (nmsC ls))) (fun c _ => L - (intOf c).toNat)
  case atStart => exact ⟨0, Nat.zero_le _, rfl, HJ2, HROW⟩
  case round =>
    obtain ⟨k, hk, rfl, HJk, HRk⟩ := hrel
    by_cases hlt : k < L
    · have hlti : (k : Int) < (L : Int) := by omega
      obtain ⟨x, hx⟩ : ∃ x, ls[k]? = some x := ⟨_, List.getElem?_eq_getElem (by rw [HL.out]; exact hlt)⟩
      obtain ⟨g, cap, cs, e1, hg, hcs, _⟩ := row_at HRk.out (by omega)
      injection e1 with e1 e2 e3
      clear e2
      subst e1 e3
      have hix := st_at g L vc k hlt
      have hcell : wr.cell? ⟨g, k, none⟩ = some (.string x.1) := by
        rw [hg.cell]
        have h1 : (nmsC ls)[k]? = some (.string x.1) := by unfold nmsC; rw [List.getElem?_map, hx]; rfl
        rw [← hcs, List.getElem?_take, if_pos (by omega)] at h1
        exact h1
      have HET : Hid ((ls.take (k + 1)).map (·.1) = (ls.take k).map (·.1) ++ [x.1]) := hide (by
        obtain ⟨hi, rfl⟩ := List.getElem?_eq_some_iff.1 hx
        rw [List.take_succ_eq_append_getElem hi, List.map_append]
        rfl)
      have HPRE : Hid ((ls.take (k + 1)).map (·.1) <+: ls.map (·.1)) := hide ((List.take_prefix _ _).map _)
      have hpl : ((ls.take k).map (·.1)).length = k := by rw [List.length_map, List.length_take]; have := HL.out; omega
      obtain ⟨fn, tmps, assign, body, hy, hR⟩ := HYY.out _ x.1 wr HJk.out ⟨by rw [hpl], x.2, by rw [hpl]; exact hx⟩
      have hge := row_ge HRk.out (k := g) rfl
      clear hx hg hcs hpl
      gi_wp2
      refine hR.mono ?_
      rintro e W3 (⟨rfl, hJ3, hk3⟩ | ⟨rfl, hJx3⟩)
      · rw [← HET.out] at hJ3
        have HJ3 := hide hJ3
        have HR3 : Hid (W3.ownsRow W.heap.size 9 1 (.slice (some ⟨g, 0, none⟩) L vc) L (nmsC ls)) := hide (row_same HRk.out (fun q hq => by
          obtain ⟨cs', hc'⟩ := row_lies HRk.out hq
          exact (hk3.keep q _ hc').trans hc'.symm))
        clear hJ3 hk3
        gi_wp2
        go_roundw
        case rel => exact ⟨k + 1, by omega, by go_num, HJ3, HR3⟩
        case measure => simp [intOf]; omega
      · rw [← HET.out] at hJx3
        gi_wp2
        refine bodyPost_ret (results_none rfl _ _ _) rfl ?_
        exact ⟨⟨_, rfl⟩, .inr ⟨_, HPRE.out, hJx3⟩⟩
    · have hlti : ¬ (k : Int) < (L : Int) := by omega
      have e1 : k = L := by omega
      have hfin := HJk.out
      rw [e1, List.take_of_length_le (by rw [HL.out]; omega)] at hfin
      have HFIN := hide hfin
      clear hfin
      gi_wp2
      go_end0
      exact ⟨⟨_, rfl⟩, .inl HFIN.out⟩

end Go.Proofs.YtpocadbhajacaaaGreatDoor
