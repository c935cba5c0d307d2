/-
  A raw write done to a disk's files: do.
-/
import Derived.Test.YtpocadbhajacaaaGreatDoorKmb
import Derived.Test.YtpocadbhajacaaaGreatDoorOu
import Derived.Deep.AppendLies
namespace Go.Proofs.YtpocadbhajacaaaGreatDoor
open Go.RowKit
set_option linter.unusedVariables false

theorem sizeB (w : World) : (sizeOf 5).run Tryz.prog w = .ok 1 w := by kernel_rfl
theorem und22 : Tryz.prog.underlying 31 = some (.slice (Tryz.prog.elem 31)) := by kernel_rfl
theorem elem22 : Tryz.prog.elem 31 = 5 := by kernel_rfl
theorem sl_to (g n cap k : Nat) (K : Int) (hK : K = (k : Int)) (hk : k ≤ cap) (v : World) :
    (Instr.slice 31 (.slice (some ⟨g, 0, none⟩) n cap) none (some (.int .i64 K)) none).run Tryz.prog v = .ok (.slice (some ⟨g, 0, none⟩) k cap) v := by
  subst hK
  rw [run_slice_h v _ _ _ _ und22 .i64 k (by omega) (by omega), elem22, sizeB]
  simp [sliced, Addr.add_lit]
theorem wp_appendL {o : Oper} {K : Act → World → Prop} {s x : Operand} {a : Act} {w : World} {Q : Exit → Act → World → Prop}
    {B : Nat} {v : Value} {xs : List Int} {sa : Option Addr} {m c : Nat} {ys : List Int}
    (ho : o.op = .call { callee := .builtin .append, args := #[s, x], argTypes := #[31, 31] }) (hs : a.eval s = v) (hx : a.eval x = .slice sa m c) (hown : Own w B v xs) (hy : Sl w sa m c ys)
    (hm : 0 < m) (hlen : xs.length + m ≤ 140737488355328) (hB : B ≤ w.heap.size)
    (h : ∀ g cap w', Own w' B (.slice (some ⟨g, 0, none⟩) (xs.length + m) cap) (xs ++ ys) → w.grownBy w' v.ownBlock → (v.ownBlock = some g ∨ g = w.heap.size) → K (a.put o.dst (.slice (some ⟨g, 0, none⟩) (xs.length + m) cap)) w') : Oper.wp Tryz.prog o a w K Q := by
  obtain ⟨i0, hi, hz0, hz1, hz2⟩ := info_parts infoB
  obtain ⟨b, off, e, hc⟩ := hy.hcell hm
  subst e
  refine wp_append_lies _ s x 31 ho B 5 i0 (.int .u8 0) 1 1 undBs hi hz0 hz1 hz2 rfl (by decide) v _ _ hs hown ⟨b, off, none⟩ m c (u8s ys) hx (by simp [u8s_length, hy.hlen]) ?_ (One.u8 ys) hm ?_ ?_ hB _ rfl ?_
  · intro j u hu
    have hj : j < m := by
      have := (List.getElem?_eq_some_iff.1 hu).1
      simpa [u8s_length, hy.hlen] using this
    rw [Addr.add_lit, hc j hj]
    rw [u8s_get ys j (by rw [hy.hlen]; exact hj)] at hu
    exact hu
  · unfold maxLen; omega
  · omega
  · intro g cap w' h1 h2 h3 _
    have hl : (xs ++ ys).length = xs.length + m := by rw [List.length_append, hy.hlen]
    exact h g cap w' (by unfold Own; rw [hl, u8s_app]; exact h1) h2 h3
theorem Own.cut {w : World} {B g n cap k : Nat} {xs : List Int} (h : Own w B (.slice (some ⟨g, 0, none⟩) n cap) xs) (hk : k ≤ xs.length) : Own w B (.slice (some ⟨g, 0, none⟩) k cap) (xs.take k) := by
  obtain ⟨h1, h2⟩ := h
  rcases h2 with ⟨e, _⟩ | ⟨g', cap', cur, e, hg, hh, h3, h4, h5, h6⟩
  · cases e
  · injection e with e1 e2 e3
    injection e1 with e1
    injection e1 with e1
    subst e1 e2 e3
    have hl : (xs.take k).length = k := by rw [List.length_take]; omega
    refine ⟨by rw [u8s_length, hl]; omega, .inr ⟨g, cap, cur, by rw [hl], hg, hh, by omega, h4, h5, ?_⟩⟩
    rw [hl]
    have : u8s (xs.take k) = (u8s xs).take k := by simp [u8s, List.map_take]
    rw [this, ← h6, List.take_take]
    congr 1
    omega
theorem Own.cap {w : World} {B n cap : Nat} {a : Option Addr} {xs : List Int} (h : Own w B (.slice a n cap) xs) (h0 : 0 < xs.length) : ∃ g, a = some ⟨g, 0, none⟩ ∧ n = xs.length ∧ xs.length ≤ cap := by
  obtain ⟨h1, h2⟩ := h
  rcases h2 with ⟨e, e2⟩ | ⟨g', cap', cur, e, hg, hh, h3, h4, h5, h6⟩
  · omega
  · injection e with e1 e2 e3
    exact ⟨g', e1, e2, by omega⟩

/-- What stands in do. -/
structure DoS (w W : World) (d m g3 : Nat) (s nw : Int) (rv : Value) (r : Rw) (v : Value) (fm : List (ByteArray × Value)) (f : (ByteArray → Option (List Int))) : Prop where
  bel : Below w.heap.size w W
  dk : Blk W d 51 (dkC s (some m) rv nw)
  rw : Blk W g3 117 (rwC r.k r.n v r.s r.t)
  new : w.heap.size ≤ g3
  fil : FilAt W m fm f
  byt : BV W v r.b
section
variable {w W W' : World} {d m g3 : Nat} {s nw : Int} {rv : Value} {r : Rw} {v : Value} {fm : List (ByteArray × Value)} {f : (ByteArray → Option (List Int))}
theorem BV.below {xs : List Int} (h : BV W v xs) (hb : Below W.heap.size W W') : BV W' v xs := h.same (fun k hk => by
  obtain ⟨cs, hc⟩ := h.lies hk
  exact hb.block k hc.lt)
theorem FilAt.below (h : FilAt W m fm f) (hb : Below W.heap.size W W') : FilAt W' m fm f := h.same (hb.block m h.map.lt) (fun k hk => by
  obtain ⟨cs, hc⟩ := h.lies hk
  exact hb.block k hc.lt)
theorem DoS.below (h : DoS w W d m g3 s nw rv r v fm f) (hb : Below W.heap.size W W') : DoS w W' d m g3 s nw rv r v fm f :=
  ⟨h.bel.trans (hb.mono h.bel.size), h.dk.below hb h.dk.lt, h.rw.below hb h.rw.lt, h.new, h.fil.below hb, h.byt.below hb⟩
theorem DoS.c1 (h : DoS w W d m g3 s nw rv r v fm f) : W.cell? ⟨d, 1, none⟩ = some (.map (some m)) := by rw [h.dk.cell]; rfl
theorem DoS.r0 (h : DoS w W d m g3 s nw rv r v fm f) : W.cell? ⟨g3, 0, none⟩ = some (.int .i64 r.k) := by rw [h.rw.cell]; rfl
theorem DoS.r1 (h : DoS w W d m g3 s nw rv r v fm f) : W.cell? ⟨g3, 1, none⟩ = some (.string r.n) := by rw [h.rw.cell]; rfl
theorem DoS.r2 (h : DoS w W d m g3 s nw rv r v fm f) : W.cell? ⟨g3, 2, none⟩ = some v := by rw [h.rw.cell]; rfl
theorem DoS.r3 (h : DoS w W d m g3 s nw rv r v fm f) : W.cell? ⟨g3, 3, none⟩ = some (.int .i64 r.s) := by rw [h.rw.cell]; rfl
theorem DoS.r4 (h : DoS w W d m g3 s nw rv r v fm f) : W.cell? ⟨g3, 4, none⟩ = some (.string r.t) := by rw [h.rw.cell]; rfl
theorem DoS.look (h : DoS w W d m g3 s nw rv r v fm f) (hn : r.n.size ≤ 128) (q : Nat) : (Instr.lookup 48 (.map (some m)) (.string r.n) false).run Tryz.prog (W.drewN q) = .ok ((mfind fm r.n).getD (.slice none 0 0)) (W.drewN q) :=
  (lookup_is (h.fil.map.same rfl : Mp (W.drewN q) m fm) r.n hn).1
theorem Mp.ne {g : Nat} {t : TypeId} {cs : List Value} (h : Mp W m fm) (hb : Blk W g t cs) : g ≠ m := by
  rintro rfl
  obtain ⟨es, clock, h1, _⟩ := h.ex
  rw [Blk, h1] at hb
  injection hb with hb
  cases hb
/-- The files' and the map's blocks. -/
def mB (m : Nat) (fm : List (ByteArray × Value)) (k : Nat) : Prop := k = m ∨ fB fm k
/-- What do leaves. -/
def DoR (w w' : World) (m : Nat) (fm : List (ByteArray × Value)) (f' : (ByteArray → Option (List Int))) : Prop :=
  ∃ fm', FilAt w' m fm' f' ∧ Chs (mB m fm) w w' ∧ (∀ k, fB fm' k → fB fm k ∨ w.heap.size ≤ k) ∧ fm'.length ≤ fm.length + 1
end

section
variable (d m : Nat) (s nw : Int) (rv : Value) (n : ByteArray) (fm : List (ByteArray × Value)) (f : (ByteArray → Option (List Int))) (w : World) (hd : Blk w d 51 (dkC s (some m) rv nw)) (hF : FilAt w m fm f) (hn : n.size ≤ 128)
include hd hF hn
set_option maxRecDepth 100000 in
theorem do_crM (hf : f n = none) (hv : BV w (.slice none 0 0) []) : Calls Tryz.prog 84 #[.pointer (some ⟨d, 0, none⟩), .agg (rwC 1 n (.slice none 0 0) 0 ByteArray.empty).toArray] w fun e w' => e = .returned (.tuple #[]) ∧ DoR w w' m fm (upd f n (some [])) := by
  have HD := hide hd
  have HF := hide hF
  have HV := hide hv
  have HN := hide hn
  clear hd hF hv hn
  go_enter Tryz.func84, Tryz.ntmps84
  go_wp2_with (refine step_box (cs := rwC 1 n (.slice none 0 0) 0 ByteArray.empty) rfl rfl ?_)
  intro w1 g3 hg3 hle3 hb1
  have D1 : DoS w w1 d m g3 s nw rv (rCr n) (.slice none 0 0) fm f := ⟨hb1, HD.out.below hb1 HD.out.lt, hg3, hle3, HF.out.below hb1, HV.out.below hb1⟩
  have c1 := D1.c1
  have c3 : w1.cell? ⟨g3, 1, none⟩ = some (.string n) := D1.r1
  obtain ⟨u, hu⟩ : ∃ u, u = (mfind fm n).getD (.slice none 0 0) := ⟨_, rfl⟩
  have hlk : ∀ q, (Instr.lookup 48 (.map (some m)) (.string n) false).run Tryz.prog (w1.drewN q) = .ok u (w1.drewN q) := fun q => by rw [hu]; exact D1.look HN.out q
  have HU := hide hu
  have HDS := hide D1
  clear D1 hu hb1 hg3 hle3
  go_wp2_with fail
  go_quiet (fail)
  have D2 := HDS.out.below (below_drewN (Below.refl _ _) nq)
  revert D2
  generalize w1.drewN nq = W
  intro D2
  have c2 : W.cell? ⟨g3, 0, none⟩ = some (.int .i64 1) := D2.r0
  have HDS := hide D2
  clear D2 hlk c1 c3
  go_wp2_with fail
  clear c2
  refine wp_region_noPanic ?_
  refine wp_region_U (q := 6) (S := fun v : World => Below W.heap.size W v) (by kernel_rfl) ?_
  have Z0 := hide ((Below.refl W.heap.size W).drew)
  have hHeld := Z0.out
  refine takeU 6 0 16 (.pointer (some ⟨d, 0, none⟩)) hHeld rfl rfl (by kernel_rfl) (by kernel_rfl) (by kernel_rfl) (by kernel_rfl) (by kernel_rfl) (by kernel_rfl) (fun _ _ _ h => h) (Or.inl ⟨by rfl, fun w _ => by go_simp⟩) ?_
  simp only [Act.put, List.setIfInBounds_toArray, List.set_cons_zero, List.set_cons_succ]
  refine takeU 6 1 17 (.pointer (some ⟨d, 0, none⟩)) hHeld rfl rfl (by kernel_rfl) (by kernel_rfl) (by kernel_rfl) (by kernel_rfl) (by kernel_rfl) (by kernel_rfl) (fun _ _ _ h => h) (Or.inl ⟨by rfl, fun w _ => by go_simp⟩) ?_
  simp only [Act.put, List.setIfInBounds_toArray, List.set_cons_zero, List.set_cons_succ]
  refine takeU 6 2 18 (.pointer (some ⟨d, 1, none⟩)) hHeld rfl rfl (by kernel_rfl) (by kernel_rfl) (by kernel_rfl) (by kernel_rfl) (by kernel_rfl) (by kernel_rfl) (fun _ _ _ h => h) (Or.inl ⟨by rfl, fun w _ => by go_simp⟩) ?_
  simp only [Act.put, List.setIfInBounds_toArray, List.set_cons_zero, List.set_cons_succ]
  refine takeU 6 3 19 (.map (some m)) hHeld rfl rfl (by kernel_rfl) (by kernel_rfl) (by kernel_rfl) (by kernel_rfl) (by kernel_rfl) (by kernel_rfl) (fun _ _ _ h => h) (Or.inl ⟨by rfl, fun w hw => by have hw' : w.cell? ⟨d, 1, none⟩ = some (.map (some m)) := (fun hw => cell_kept HDS.out.c1 hw) hw; go_simp⟩) ?_
  simp only [Act.put, List.setIfInBounds_toArray, List.set_cons_zero, List.set_cons_succ]
  refine takeU 6 4 20 (.pointer (some ⟨g3, 1, none⟩)) hHeld rfl rfl (by kernel_rfl) (by kernel_rfl) (by kernel_rfl) (by kernel_rfl) (by kernel_rfl) (by kernel_rfl) (fun _ _ _ h => h) (Or.inl ⟨by rfl, fun w _ => by go_simp⟩) ?_
  simp only [Act.put, List.setIfInBounds_toArray, List.set_cons_zero, List.set_cons_succ]
  refine takeU 6 5 21 (.string n) hHeld rfl rfl (by kernel_rfl) (by kernel_rfl) (by kernel_rfl) (by kernel_rfl) (by kernel_rfl) (by kernel_rfl) (fun _ _ _ h => h) (Or.inl ⟨by rfl, fun w hw => by have hw' : w.cell? ⟨g3, 1, none⟩ = some (.string n) := (fun hw => cell_kept HDS.out.r1 hw) hw; go_simp⟩) ?_
  simp only [Act.put, List.setIfInBounds_toArray, List.set_cons_zero, List.set_cons_succ]
  refine wpAnyU_ready (rs := [6]) (by kernel_rfl) (by simp) (AllReadyU.cons rfl (fun K hK => ?_) AllReadyU.nil)
  rw [if_pos (by rfl)]
  refine wp_mapUp (n := n) rfl rfl rfl (HDS.out.below Z0.out).fil.map HN.out ?_
  intro w2 hm2 hbut2
  refine hK.out _ _ (fun h => absurd h (by decide)) ?_
  clear hK K
  simp only [Act.put]
  refine wpAnyU_done (by kernel_rfl) ?_ _
  refine NoPanic.normal ?_
  go_wp2
  go_end0
  have F2 := (HDS.out.below Z0.out).fil
  refine ⟨rfl, mput fm n (.slice none 0 0), F2.put hm2 (Own.nil _ _) (fun x hx => by cases hx) (fun x u' hx hne k hk => ⟨?_, fun e => by cases e⟩), ?_, fun k hk => ?_, mput_length _ _ _⟩
  · exact hbut2.block k (fun e => F2.offm ⟨x, u', hx, by rw [← e]; exact hk⟩)
  · exact (Chs.of_below _ (HDS.out.below Z0.out).bel).thenBut hbut2 (.inl (.inl rfl))
  · obtain ⟨x, u', h1, h2⟩ := hk
    rw [mfind_put F2.map.one] at h1
    by_cases hx : x = n
    · rw [if_pos hx] at h1; obtain rfl := Option.some.inj h1; cases h2
    · rw [if_neg hx] at h1; exact .inl ⟨x, u', h1, h2⟩
set_option maxRecDepth 100000 in
theorem do_rmM (hv : BV w (.slice none 0 0) []) : Calls Tryz.prog 84 #[.pointer (some ⟨d, 0, none⟩), .agg (rwC 4 n (.slice none 0 0) 0 ByteArray.empty).toArray] w fun e w' => e = .returned (.tuple #[]) ∧ DoR w w' m fm (upd f n none) := by
  have HD := hide hd
  have HF := hide hF
  have HV := hide hv
  have HN := hide hn
  clear hd hF hv hn
  go_enter Tryz.func84, Tryz.ntmps84
  go_wp2_with (refine step_box (cs := rwC 4 n (.slice none 0 0) 0 ByteArray.empty) rfl rfl ?_)
  intro w1 g3 hg3 hle3 hb1
  have D1 : DoS w w1 d m g3 s nw rv (rRm n) (.slice none 0 0) fm f := ⟨hb1, HD.out.below hb1 HD.out.lt, hg3, hle3, HF.out.below hb1, HV.out.below hb1⟩
  have c1 := D1.c1
  have c3 : w1.cell? ⟨g3, 1, none⟩ = some (.string n) := D1.r1
  obtain ⟨u, hu⟩ : ∃ u, u = (mfind fm n).getD (.slice none 0 0) := ⟨_, rfl⟩
  have hlk : ∀ q, (Instr.lookup 48 (.map (some m)) (.string n) false).run Tryz.prog (w1.drewN q) = .ok u (w1.drewN q) := fun q => by rw [hu]; exact D1.look HN.out q
  have HU := hide hu
  have HDS := hide D1
  clear D1 hu hb1 hg3 hle3
  go_wp2_with fail
  go_quiet (fail)
  have D2 := HDS.out.below (below_drewN (Below.refl _ _) nq)
  revert D2
  generalize w1.drewN nq = W
  intro D2
  have c2 : W.cell? ⟨g3, 0, none⟩ = some (.int .i64 4) := D2.r0
  have HDS := hide D2
  clear D2 hlk c1 c3
  go_wp2_with fail
  clear c2
  have DD : Hid ((W.cell? ⟨d, 1, none⟩ = some (.map (some m)) ∧ W.cell? ⟨g3, 1, none⟩ = some (.string n)) ∧ Mp W m fm ∧ d ≠ m ∧ g3 ≠ m) := hide ⟨⟨HDS.out.c1, HDS.out.r1⟩, HDS.out.fil.map, HDS.out.fil.map.ne HDS.out.dk, HDS.out.fil.map.ne HDS.out.rw⟩
  refine wp_region_noPanic ?_
  refine wp_region_held_drew (S := fun v : World => v.cell? ⟨d, 1, none⟩ = some (.map (some m)) ∧ v.cell? ⟨g3, 1, none⟩ = some (.string n)) (by kernel_rfl) ⟨DD.out.1.1, DD.out.1.2⟩ (fun hHeld => ?_)
  refine takeH 0 48 (.pointer (some ⟨d, 0, none⟩)) hHeld rfl rfl (by kernel_rfl) (by kernel_rfl) (by kernel_rfl) (fun _ _ _ h => h) (Or.inl ⟨by rfl, fun w _ => by go_simp⟩) ?_
  simp only [Act.put, List.setIfInBounds_toArray, List.set_cons_zero, List.set_cons_succ]
  refine takeH 1 49 (.pointer (some ⟨d, 0, none⟩)) hHeld rfl rfl (by kernel_rfl) (by kernel_rfl) (by kernel_rfl) (fun _ _ _ h => h) (Or.inl ⟨by rfl, fun w _ => by go_simp⟩) ?_
  simp only [Act.put, List.setIfInBounds_toArray, List.set_cons_zero, List.set_cons_succ]
  refine takeH 2 50 (.pointer (some ⟨d, 1, none⟩)) hHeld rfl rfl (by kernel_rfl) (by kernel_rfl) (by kernel_rfl) (fun _ _ _ h => h) (Or.inl ⟨by rfl, fun w _ => by go_simp⟩) ?_
  simp only [Act.put, List.setIfInBounds_toArray, List.set_cons_zero, List.set_cons_succ]
  refine takeH 3 51 (.map (some m)) hHeld rfl rfl (by kernel_rfl) (by kernel_rfl) (by kernel_rfl) (fun _ _ _ h => h) (Or.inl ⟨by rfl, fun w hw => by have hw' : w.cell? ⟨d, 1, none⟩ = some (.map (some m)) := (fun h => h.1) hw; go_simp⟩) ?_
  simp only [Act.put, List.setIfInBounds_toArray, List.set_cons_zero, List.set_cons_succ]
  refine takeH 4 52 (.pointer (some ⟨g3, 1, none⟩)) hHeld rfl rfl (by kernel_rfl) (by kernel_rfl) (by kernel_rfl) (fun _ _ _ h => h) (Or.inl ⟨by rfl, fun w _ => by go_simp⟩) ?_
  simp only [Act.put, List.setIfInBounds_toArray, List.set_cons_zero, List.set_cons_succ]
  refine takeH 5 53 (.string n) hHeld rfl rfl (by kernel_rfl) (by kernel_rfl) (by kernel_rfl) (fun _ _ _ h => h) (Or.inl ⟨by rfl, fun w hw => by have hw' : w.cell? ⟨g3, 1, none⟩ = some (.string n) := (fun h => h.2) hw; go_simp⟩) ?_
  simp only [Act.put, List.setIfInBounds_toArray, List.set_cons_zero, List.set_cons_succ]
  refine wpAnyH_ready (rs := [6]) (by kernel_rfl) (by simp) (AllReadyH.cons rfl (fun K hK => ?_) AllReadyH.nil)
  rw [if_pos (by rfl)]
  refine wp_mapDel (n := n) rfl rfl (Mp.same DD.out.2.1 (w' := W.drew) rfl) HN.out ?_
  intro w5 hm5 hbut5
  refine hK.out _ _ (⟨by rw [World.cell?_of_block (w := W.drew) (a := ⟨d, 1, none⟩) (hbut5.block d DD.out.2.2.1)]; exact DD.out.1.1, by rw [World.cell?_of_block (w := W.drew) (a := ⟨g3, 1, none⟩) (hbut5.block g3 DD.out.2.2.2)]; exact DD.out.1.2⟩) (fun hHeld => ?_)
  clear hK K
  simp only [Act.put]
  refine wpAnyH_done (by kernel_rfl) ?_ _
  refine NoPanic.normal ?_
  clear hHeld
  go_wp2
  go_end0
  have Z0 := hide ((Below.refl W.heap.size W).drew)
  have F2 := (HDS.out.below Z0.out).fil
  refine ⟨rfl, mdel fm n, F2.del hm5 (fun k hk => hbut5.block k (fun e => F2.offm (by rw [← e]; exact hk))), ?_, fun k hk => ?_, Nat.le_succ_of_le (mdel_length _ _)⟩
  · exact (Chs.of_below _ (HDS.out.below Z0.out).bel).thenBut hbut5 (.inl (.inl rfl))
  · obtain ⟨x, u', h1, h2⟩ := hk
    rw [mfind_del] at h1
    by_cases hx : x = n
    · rw [if_pos hx] at h1; cases h1
    · rw [if_neg hx] at h1; exact .inl ⟨x, u', h1, h2⟩
set_option maxRecDepth 100000 in
theorem do_cuM (k : Int) (xs : List Int) (hf : f n = some xs) (hk0 : 0 ≤ k) (hkl : k < xs.length) (hv : BV w (.slice none 0 0) []) : Calls Tryz.prog 84 #[.pointer (some ⟨d, 0, none⟩), .agg (rwC 3 n (.slice none 0 0) k ByteArray.empty).toArray] w fun e w' => e = .returned (.tuple #[]) ∧ DoR w w' m fm (upd f n (some ((fl f n).take k.toNat))) := by
  obtain ⟨q, rfl⟩ : ∃ q : Nat, k = (q : Int) := ⟨k.toNat, by omega⟩
  have hq : q < xs.length := by omega
  have HFX := hide hf
  have HQL := hide hq
  clear hf hk0 hkl hq
  have HD := hide hd
  have HF := hide hF
  have HV := hide hv
  have HN := hide hn
  clear hd hF hv hn
  go_enter Tryz.func84, Tryz.ntmps84
  go_wp2_with (refine step_box (cs := rwC 3 n (.slice none 0 0) (q : Int) ByteArray.empty) rfl rfl ?_)
  intro w1 g3 hg3 hle3 hb1
  have D1 : DoS w w1 d m g3 s nw rv (rCu n (q : Int)) (.slice none 0 0) fm f := ⟨hb1, HD.out.below hb1 HD.out.lt, hg3, hle3, HF.out.below hb1, HV.out.below hb1⟩
  have c1 := D1.c1
  have c3 : w1.cell? ⟨g3, 1, none⟩ = some (.string n) := D1.r1
  obtain ⟨u, hu⟩ : ∃ u, u = (mfind fm n).getD (.slice none 0 0) := ⟨_, rfl⟩
  have hlk : ∀ q, (Instr.lookup 48 (.map (some m)) (.string n) false).run Tryz.prog (w1.drewN q) = .ok u (w1.drewN q) := fun q => by rw [hu]; exact D1.look HN.out q
  have HU := hide hu
  have HDS := hide D1
  clear D1 hu hb1 hg3 hle3
  go_wp2_with fail
  go_quiet (fail)
  have D2 := HDS.out.below (below_drewN (Below.refl _ _) nq)
  revert D2
  generalize w1.drewN nq = W
  intro D2
  have c2 : W.cell? ⟨g3, 0, none⟩ = some (.int .i64 3) := D2.r0
  have HDS := hide D2
  clear D2 hlk c1 c3
  go_wp2_with fail
  clear c2
  obtain ⟨v, hv1, hv2, hv3⟩ := HDS.out.fil.get HFX.out
  have eu : u = v := by rw [HU.out, hv1]; rfl
  subst eu
  obtain ⟨a0, c0, rfl⟩ := hv2.slice
  obtain ⟨g, rfl, _, hcap⟩ := hv2.cap (by have := HQL.out; omega)
  have HV1 := hide hv1
  have HV2 := hide hv2
  have HV3 := hide hv3
  have HCP := hide hcap
  clear hv1 hv2 hv3 hcap
  refine wp_region_noPanic ?_
  refine wp_region_U (q := 10) (S := fun v : World => Below W.heap.size W v) (by kernel_rfl) ?_
  have Z0 := hide ((Below.refl W.heap.size W).drew)
  have hHeld := Z0.out
  refine takeU 10 0 36 (.pointer (some ⟨d, 0, none⟩)) hHeld rfl rfl (by kernel_rfl) (by kernel_rfl) (by kernel_rfl) (by kernel_rfl) (by kernel_rfl) (by kernel_rfl) (fun _ _ _ h => h) (Or.inl ⟨by rfl, fun w _ => by go_simp⟩) ?_
  simp only [Act.put, List.setIfInBounds_toArray, List.set_cons_zero, List.set_cons_succ]
  refine takeU 10 1 37 (.pointer (some ⟨d, 0, none⟩)) hHeld rfl rfl (by kernel_rfl) (by kernel_rfl) (by kernel_rfl) (by kernel_rfl) (by kernel_rfl) (by kernel_rfl) (fun _ _ _ h => h) (Or.inl ⟨by rfl, fun w _ => by go_simp⟩) ?_
  simp only [Act.put, List.setIfInBounds_toArray, List.set_cons_zero, List.set_cons_succ]
  refine takeU 10 2 38 (.pointer (some ⟨d, 1, none⟩)) hHeld rfl rfl (by kernel_rfl) (by kernel_rfl) (by kernel_rfl) (by kernel_rfl) (by kernel_rfl) (by kernel_rfl) (fun _ _ _ h => h) (Or.inl ⟨by rfl, fun w _ => by go_simp⟩) ?_
  simp only [Act.put, List.setIfInBounds_toArray, List.set_cons_zero, List.set_cons_succ]
  refine takeU 10 3 39 (.map (some m)) hHeld rfl rfl (by kernel_rfl) (by kernel_rfl) (by kernel_rfl) (by kernel_rfl) (by kernel_rfl) (by kernel_rfl) (fun _ _ _ h => h) (Or.inl ⟨by rfl, fun w hw => by have hw' : w.cell? ⟨d, 1, none⟩ = some (.map (some m)) := (fun hw => cell_kept HDS.out.c1 hw) hw; go_simp⟩) ?_
  simp only [Act.put, List.setIfInBounds_toArray, List.set_cons_zero, List.set_cons_succ]
  refine takeU 10 4 40 (.pointer (some ⟨g3, 1, none⟩)) hHeld rfl rfl (by kernel_rfl) (by kernel_rfl) (by kernel_rfl) (by kernel_rfl) (by kernel_rfl) (by kernel_rfl) (fun _ _ _ h => h) (Or.inl ⟨by rfl, fun w _ => by go_simp⟩) ?_
  simp only [Act.put, List.setIfInBounds_toArray, List.set_cons_zero, List.set_cons_succ]
  refine takeU 10 5 41 (.string n) hHeld rfl rfl (by kernel_rfl) (by kernel_rfl) (by kernel_rfl) (by kernel_rfl) (by kernel_rfl) (by kernel_rfl) (fun _ _ _ h => h) (Or.inl ⟨by rfl, fun w hw => by have hw' : w.cell? ⟨g3, 1, none⟩ = some (.string n) := (fun hw => cell_kept HDS.out.r1 hw) hw; go_simp⟩) ?_
  simp only [Act.put, List.setIfInBounds_toArray, List.set_cons_zero, List.set_cons_succ]
  refine takeU 10 6 42 (.slice (some ⟨g, 0, none⟩) xs.length c0) hHeld rfl rfl (by kernel_rfl) (by kernel_rfl) (by kernel_rfl) (by kernel_rfl) (by kernel_rfl) (by kernel_rfl) (fun _ _ _ h => h) (Or.inl ⟨by rfl, fun w _ => by go_simp⟩) ?_
  simp only [Act.put, List.setIfInBounds_toArray, List.set_cons_zero, List.set_cons_succ]
  refine takeU 10 7 43 (.pointer (some ⟨g3, 3, none⟩)) hHeld rfl rfl (by kernel_rfl) (by kernel_rfl) (by kernel_rfl) (by kernel_rfl) (by kernel_rfl) (by kernel_rfl) (fun _ _ _ h => h) (Or.inl ⟨by rfl, fun w _ => by go_simp⟩) ?_
  simp only [Act.put, List.setIfInBounds_toArray, List.set_cons_zero, List.set_cons_succ]
  refine takeU 10 8 44 (.int .i64 (q : Int)) hHeld rfl rfl (by kernel_rfl) (by kernel_rfl) (by kernel_rfl) (by kernel_rfl) (by kernel_rfl) (by kernel_rfl) (fun _ _ _ h => h) (Or.inl ⟨by rfl, fun w hw => by have hw' : w.cell? ⟨g3, 3, none⟩ = some (.int .i64 (q : Int)) := (fun hw => cell_kept HDS.out.r3 hw) hw; go_simp⟩) ?_
  simp only [Act.put, List.setIfInBounds_toArray, List.set_cons_zero, List.set_cons_succ]
  refine takeU 10 9 45 (.slice (some ⟨g, 0, none⟩) q c0) hHeld rfl rfl (by kernel_rfl) (by kernel_rfl) (by kernel_rfl) (by kernel_rfl) (by kernel_rfl) (by kernel_rfl) (fun _ _ _ h => h) (Or.inl ⟨by rfl, fun w _ => run_op rfl ((sl_to g xs.length c0 q _ rfl (by have := HQL.out; have := HCP.out; omega)) w)⟩) ?_
  simp only [Act.put, List.setIfInBounds_toArray, List.set_cons_zero, List.set_cons_succ]
  refine wpAnyU_ready (rs := [10]) (by kernel_rfl) (by simp) (AllReadyU.cons rfl (fun K hK => ?_) AllReadyU.nil)
  rw [if_pos (by rfl)]
  refine wp_mapUp (n := n) rfl rfl rfl (HDS.out.below Z0.out).fil.map HN.out ?_
  intro w2 hm2 hbut2
  refine hK.out _ _ (fun h => absurd h (by decide)) ?_
  clear hK K
  simp only [Act.put]
  refine wpAnyU_done (by kernel_rfl) ?_ _
  refine NoPanic.normal ?_
  go_wp2
  go_end0
  have F2 := (HDS.out.below Z0.out).fil
  have hgm : g ≠ m := fun e => F2.offm ⟨n, _, HV1.out, by rw [← e]; rfl⟩
  have eflf : fl f n = xs := by simp [fl, HFX.out]
  have ho2 : Own w2 0 (.slice (some ⟨g, 0, none⟩) q c0) (xs.take q) := (((HV2.out.below Z0.out).cut (by have := HQL.out; omega)).same (fun k hk => by injection hk with hk; rw [← hk]; exact hbut2.block g hgm))
  refine ⟨rfl, mput fm n (.slice (some ⟨g, 0, none⟩) q c0), ?_, ?_, fun k hk => ?_, mput_length _ _ _⟩
  · rw [eflf]
    refine F2.put hm2 ho2 (HV3.out.take q) (fun x u' hx hne k hk => ⟨?_, ?_⟩)
    · exact hbut2.block k (fun e => F2.offm ⟨x, u', hx, by rw [← e]; exact hk⟩)
    · exact fun e => F2.apt n x _ u' HV1.out hx (Ne.symm hne) k e hk
  · exact (Chs.of_below _ (HDS.out.below Z0.out).bel).thenBut hbut2 (.inl (.inl rfl))
  · obtain ⟨x, u', h1, h2⟩ := hk
    rw [mfind_put F2.map.one] at h1
    by_cases hx : x = n
    · rw [if_pos hx] at h1; obtain rfl := Option.some.inj h1; exact .inl ⟨n, _, HV1.out, h2⟩
    · rw [if_neg hx] at h1; exact .inl ⟨x, u', h1, h2⟩
set_option maxRecDepth 100000 in
theorem do_apM (v : Value) (b xs : List Int) (hf : f n = some xs) (hb : b ≠ []) (hB : isB b) (hl : xs.length + b.length ≤ 140737488355328) (hdis : ∀ k, v.ownBlock = some k → ¬ fB fm k) (hv : BV w v b) : Calls Tryz.prog 84 #[.pointer (some ⟨d, 0, none⟩), .agg (rwC 2 n v 0 ByteArray.empty).toArray] w fun e w' => e = .returned (.tuple #[]) ∧ DoR w w' m fm (upd f n (some (fl f n ++ b))) := by
  have hbl : 0 < b.length := List.length_pos_iff.2 hb
  have HFX := hide hf
  have HBL := hide hbl
  have HLL := hide hl
  have HDI := hide hdis
  have HBB := hide hB
  clear hf hb hl hdis hB hbl
  have HD := hide hd
  have HF := hide hF
  have HV := hide hv
  have HN := hide hn
  clear hd hF hv hn
  go_enter Tryz.func84, Tryz.ntmps84
  go_wp2_with (refine step_box (cs := rwC 2 n v 0 ByteArray.empty) rfl rfl ?_)
  intro w1 g3 hg3 hle3 hb1
  have D1 : DoS w w1 d m g3 s nw rv (rAp n b) v fm f := ⟨hb1, HD.out.below hb1 HD.out.lt, hg3, hle3, HF.out.below hb1, HV.out.below hb1⟩
  have c1 := D1.c1
  have c3 : w1.cell? ⟨g3, 1, none⟩ = some (.string n) := D1.r1
  obtain ⟨u, hu⟩ : ∃ u, u = (mfind fm n).getD (.slice none 0 0) := ⟨_, rfl⟩
  have hlk : ∀ q, (Instr.lookup 48 (.map (some m)) (.string n) false).run Tryz.prog (w1.drewN q) = .ok u (w1.drewN q) := fun q => by rw [hu]; exact D1.look HN.out q
  have HU := hide hu
  have HDS := hide D1
  clear D1 hu hb1 hg3 hle3
  go_wp2_with fail
  go_quiet (fail)
  have D2 := HDS.out.below (below_drewN (Below.refl _ _) nq)
  revert D2
  generalize w1.drewN nq = W
  intro D2
  have c2 : W.cell? ⟨g3, 0, none⟩ = some (.int .i64 2) := D2.r0
  have HDS := hide D2
  clear D2 hlk c1 c3
  go_wp2_with fail
  clear c2
  obtain ⟨vo, hv1, hv2, hv3⟩ := HDS.out.fil.get HFX.out
  have eu : u = vo := by rw [HU.out, hv1]; rfl
  subst eu
  obtain ⟨av, cv, hve, hvs⟩ := BV.sl (xs := b) HDS.out.byt
  have HV1 := hide hv1
  have HV2 := hide hv2
  have HV3 := hide hv3
  have HVS := hide hvs
  have HOV := hide (fun k => BV.lies (k := k) HDS.out.byt)
  have HVE := hide hve
  clear hv1 hv2 hv3 hvs hve HU HV
  refine wp_region_noPanic ?_
  refine wp_region_U (q := 10) (S := fun z : World => z.cell? ⟨d, 1, none⟩ = some (.map (some m)) ∧ z.cell? ⟨g3, 1, none⟩ = some (.string n) ∧ z.cell? ⟨g3, 2, none⟩ = some v) (by kernel_rfl) ?_
  have Z0 := hide ((Below.refl W.heap.size W).drew)
  have D3 := hide (HDS.out.below Z0.out)
  have hHeld : W.drew.cell? ⟨d, 1, none⟩ = some (.map (some m)) ∧ W.drew.cell? ⟨g3, 1, none⟩ = some (.string n) ∧ W.drew.cell? ⟨g3, 2, none⟩ = some v := ⟨D3.out.c1, D3.out.r1, D3.out.r2⟩
  refine takeU 10 0 24 (.pointer (some ⟨d, 0, none⟩)) hHeld rfl rfl (by kernel_rfl) (by kernel_rfl) (by kernel_rfl) (by kernel_rfl) (by kernel_rfl) (by kernel_rfl) (fun _ _ _ h => h) (Or.inl ⟨by rfl, fun w _ => by go_simp⟩) ?_
  simp only [Act.put, List.setIfInBounds_toArray, List.set_cons_zero, List.set_cons_succ]
  refine takeU 10 1 25 (.pointer (some ⟨d, 0, none⟩)) hHeld rfl rfl (by kernel_rfl) (by kernel_rfl) (by kernel_rfl) (by kernel_rfl) (by kernel_rfl) (by kernel_rfl) (fun _ _ _ h => h) (Or.inl ⟨by rfl, fun w _ => by go_simp⟩) ?_
  simp only [Act.put, List.setIfInBounds_toArray, List.set_cons_zero, List.set_cons_succ]
  refine takeU 10 2 26 (.pointer (some ⟨d, 1, none⟩)) hHeld rfl rfl (by kernel_rfl) (by kernel_rfl) (by kernel_rfl) (by kernel_rfl) (by kernel_rfl) (by kernel_rfl) (fun _ _ _ h => h) (Or.inl ⟨by rfl, fun w _ => by go_simp⟩) ?_
  simp only [Act.put, List.setIfInBounds_toArray, List.set_cons_zero, List.set_cons_succ]
  refine takeU 10 3 27 (.map (some m)) hHeld rfl rfl (by kernel_rfl) (by kernel_rfl) (by kernel_rfl) (by kernel_rfl) (by kernel_rfl) (by kernel_rfl) (fun _ _ _ h => h) (Or.inl ⟨by rfl, fun w hw => by have hw' : w.cell? ⟨d, 1, none⟩ = some (.map (some m)) := (fun h => h.1) hw; go_simp⟩) ?_
  simp only [Act.put, List.setIfInBounds_toArray, List.set_cons_zero, List.set_cons_succ]
  refine takeU 10 4 28 (.pointer (some ⟨g3, 1, none⟩)) hHeld rfl rfl (by kernel_rfl) (by kernel_rfl) (by kernel_rfl) (by kernel_rfl) (by kernel_rfl) (by kernel_rfl) (fun _ _ _ h => h) (Or.inl ⟨by rfl, fun w _ => by go_simp⟩) ?_
  simp only [Act.put, List.setIfInBounds_toArray, List.set_cons_zero, List.set_cons_succ]
  refine takeU 10 5 29 (.string n) hHeld rfl rfl (by kernel_rfl) (by kernel_rfl) (by kernel_rfl) (by kernel_rfl) (by kernel_rfl) (by kernel_rfl) (fun _ _ _ h => h) (Or.inl ⟨by rfl, fun w hw => by have hw' : w.cell? ⟨g3, 1, none⟩ = some (.string n) := (fun h => h.2.1) hw; go_simp⟩) ?_
  simp only [Act.put, List.setIfInBounds_toArray, List.set_cons_zero, List.set_cons_succ]
  refine takeU 10 6 30 (u) hHeld rfl rfl (by kernel_rfl) (by kernel_rfl) (by kernel_rfl) (by kernel_rfl) (by kernel_rfl) (by kernel_rfl) (fun _ _ _ h => h) (Or.inl ⟨by rfl, fun w _ => by go_simp⟩) ?_
  simp only [Act.put, List.setIfInBounds_toArray, List.set_cons_zero, List.set_cons_succ]
  refine takeU 10 7 31 (.pointer (some ⟨g3, 2, none⟩)) hHeld rfl rfl (by kernel_rfl) (by kernel_rfl) (by kernel_rfl) (by kernel_rfl) (by kernel_rfl) (by kernel_rfl) (fun _ _ _ h => h) (Or.inl ⟨by rfl, fun w _ => by go_simp⟩) ?_
  simp only [Act.put, List.setIfInBounds_toArray, List.set_cons_zero, List.set_cons_succ]
  refine takeU 10 8 32 (v) hHeld rfl rfl (by kernel_rfl) (by kernel_rfl) (by kernel_rfl) (by kernel_rfl) (by kernel_rfl) (by kernel_rfl) (fun _ _ _ h => h) (Or.inl ⟨by rfl, fun w hw => by have hw' : w.cell? ⟨g3, 2, none⟩ = some (v) := (fun h => h.2.2) hw; go_simp⟩) ?_
  simp only [Act.put, List.setIfInBounds_toArray, List.set_cons_zero, List.set_cons_succ]
  refine wpAnyU_ready (rs := [9]) (by kernel_rfl) (by simp) (AllReadyU.cons rfl (fun K hK => ?_) AllReadyU.nil)
  rw [if_pos (by rfl)]
  refine wp_appendL (B := 0) (sa := av) (m := b.length) (c := cv) (ys := b) rfl rfl (by rw [← HVE.out]; rfl) (HV2.out.below Z0.out) (HVS.out.below Z0.out) HBL.out HLL.out (Nat.zero_le _) ?_
  intro g cap w4 ho4 hg4 hat4
  have hnd : ∀ k, u.ownBlock = some k → k ≠ d := fun k hk e => by
    obtain ⟨cs, hc⟩ := (HV2.out.below Z0.out).lies hk
    exact hc.apart D3.out.dk (by decide) e
  have hn3 : ∀ k, u.ownBlock = some k → k ≠ g3 := fun k hk e => by
    obtain ⟨cs, hc⟩ := (HV2.out.below Z0.out).lies hk
    exact hc.apart D3.out.rw (by decide) e
  have hnm : ∀ k, u.ownBlock = some k → k ≠ m := fun k hk e => D3.out.fil.offm ⟨n, u, HV1.out, by rw [← e]; exact hk⟩
  have D4d : Blk w4 d 51 (dkC s (some m) rv nw) := D3.out.dk.same (hg4.block d D3.out.dk.lt (fun e => hnd d e.symm rfl))
  have D4r : Blk w4 g3 117 (rwC 2 n v 0 ByteArray.empty) := Blk.same D3.out.rw (hg4.block g3 D3.out.rw.lt (fun e => hn3 g3 e.symm rfl))
  have M4 : Mp w4 m fm := D3.out.fil.map.same (hg4.block m D3.out.fil.map.lt (fun e => hnm m e.symm rfl))
  have H4 : w4.cell? ⟨d, 1, none⟩ = some (.map (some m)) ∧ w4.cell? ⟨g3, 1, none⟩ = some (.string n) ∧ w4.cell? ⟨g3, 2, none⟩ = some v := ⟨by rw [D4d.cell]; rfl, by rw [D4r.cell]; rfl, by rw [D4r.cell]; rfl⟩
  refine hK.out _ _ (fun _ => H4) ?_
  have hHeld := H4
  clear hK K
  simp only [Act.put]
  refine wpAnyU_ready (rs := [10]) (by kernel_rfl) (by simp) (AllReadyU.cons rfl (fun K hK => ?_) AllReadyU.nil)
  rw [if_pos (by rfl)]
  refine wp_mapUp (n := n) rfl rfl rfl M4 HN.out ?_
  intro w2 hm2 hbut2
  refine hK.out _ _ (fun h => absurd h (by decide)) ?_
  clear hK K
  simp only [Act.put]
  refine wpAnyU_done (by kernel_rfl) ?_ _
  refine NoPanic.normal ?_
  go_wp2
  go_end0
  have F2 := D3.out.fil
  have hgm : g ≠ m := fun e => by
    rcases hat4 with h | h
    · exact hnm g h e
    · have := F2.map.lt; omega
  have eflf : fl f n = xs := by simp [fl, HFX.out]
  have ho2 : Own w2 0 (.slice (some ⟨g, 0, none⟩) (xs.length + b.length) cap) (xs ++ b) := ho4.same (fun k hk => by injection hk with hk; rw [← hk]; exact hbut2.block g hgm)
  have hkeep : ∀ k, fB fm k → u.ownBlock ≠ some k → w2.heap[k]? = W.drew.heap[k]? := fun k hk hne => by
    obtain ⟨cs, hc⟩ := F2.lies hk
    rw [hbut2.block k (fun e => F2.offm (by rw [← e]; exact hk)), hg4.block k hc.lt (fun e => hne e.symm)]
  refine ⟨rfl, mput fm n (.slice (some ⟨g, 0, none⟩) (xs.length + b.length) cap), ?_, ?_, fun k hk => ?_, mput_length _ _ _⟩
  · rw [eflf]
    refine F2.put hm2 ho2 (HV3.out.append HBB.out) (fun x u' hx hne k hk => ⟨?_, ?_⟩)
    · exact hkeep k ⟨x, u', hx, hk⟩ (fun e => F2.apt n x u u' HV1.out hx (Ne.symm hne) k e hk)
    · intro e
      injection e with e
      have e' : g = k := e
      subst e'
      rcases hat4 with h | h
      · exact F2.apt n x u u' HV1.out hx (Ne.symm hne) g h hk
      · obtain ⟨cs, hc⟩ := F2.lies ⟨x, u', hx, hk⟩
        have := hc.lt
        omega
  · refine ((Chs.of_below _ D3.out.bel).thenGrown hg4 (fun k hk => .inl (.inr ⟨n, u, HV1.out, hk⟩))).thenBut hbut2 (.inl (.inl rfl))
  · obtain ⟨x, u', h1, h2⟩ := hk
    rw [mfind_put F2.map.one] at h1
    by_cases hx : x = n
    · rw [if_pos hx] at h1
      obtain rfl := Option.some.inj h1
      injection h2 with h2
      have h2' : g = k := h2
      subst h2'
      rcases hat4 with h | h
      · exact .inl ⟨n, u, HV1.out, h⟩
      · right
        have := D3.out.bel.size
        omega
    · rw [if_neg hx] at h1; exact .inl ⟨x, u', h1, h2⟩
set_option maxRecDepth 100000 in
theorem do_rnM (t : ByteArray) (xs : List Int) (hf : f n = some xs) (ht : t.size ≤ 128) (hnt : n ≠ t) (hv : BV w (.slice none 0 0) []) : Calls Tryz.prog 84 #[.pointer (some ⟨d, 0, none⟩), .agg (rwC 5 n (.slice none 0 0) 0 t).toArray] w fun e w' => e = .returned (.tuple #[]) ∧ DoR w w' m fm (upd (upd f t (some (fl f n))) n none) := by
  have HFX := hide hf
  have HT := hide ht
  have HNT := hide hnt
  clear hf ht hnt
  have HD := hide hd
  have HF := hide hF
  have HV := hide hv
  have HN := hide hn
  clear hd hF hv hn
  go_enter Tryz.func84, Tryz.ntmps84
  go_wp2_with (refine step_box (cs := rwC 5 n (.slice none 0 0) 0 t) rfl rfl ?_)
  intro w1 g3 hg3 hle3 hb1
  have D1 : DoS w w1 d m g3 s nw rv (rRn n t) (.slice none 0 0) fm f := ⟨hb1, HD.out.below hb1 HD.out.lt, hg3, hle3, HF.out.below hb1, HV.out.below hb1⟩
  have c1 := D1.c1
  have c3 : w1.cell? ⟨g3, 1, none⟩ = some (.string n) := D1.r1
  obtain ⟨u, hu⟩ : ∃ u, u = (mfind fm n).getD (.slice none 0 0) := ⟨_, rfl⟩
  have hlk : ∀ q, (Instr.lookup 48 (.map (some m)) (.string n) false).run Tryz.prog (w1.drewN q) = .ok u (w1.drewN q) := fun q => by rw [hu]; exact D1.look HN.out q
  have HU := hide hu
  have HDS := hide D1
  clear D1 hu hb1 hg3 hle3
  go_wp2_with fail
  go_quiet (fail)
  have D2 := HDS.out.below (below_drewN (Below.refl _ _) nq)
  revert D2
  generalize w1.drewN nq = W
  intro D2
  have c2 : W.cell? ⟨g3, 0, none⟩ = some (.int .i64 5) := D2.r0
  have HDS := hide D2
  clear D2 hlk c1 c3
  go_wp2_with fail
  clear c2
  obtain ⟨v, hv1, hv2, hv3⟩ := HDS.out.fil.get HFX.out
  have eu : u = v := by rw [HU.out, hv1]; rfl
  subst eu
  have HV1 := hide hv1
  clear hv1 hv2 hv3
  refine wp_region_noPanic ?_
  refine wp_region_U (q := 7) (S := fun v : World => Below W.heap.size W v) (by kernel_rfl) ?_
  have Z0 := hide ((Below.refl W.heap.size W).drew)
  have hHeld := Z0.out
  refine takeU 7 0 56 (.pointer (some ⟨d, 0, none⟩)) hHeld rfl rfl (by kernel_rfl) (by kernel_rfl) (by kernel_rfl) (by kernel_rfl) (by kernel_rfl) (by kernel_rfl) (fun _ _ _ h => h) (Or.inl ⟨by rfl, fun w _ => by go_simp⟩) ?_
  simp only [Act.put, List.setIfInBounds_toArray, List.set_cons_zero, List.set_cons_succ]
  refine takeU 7 1 57 (.pointer (some ⟨d, 0, none⟩)) hHeld rfl rfl (by kernel_rfl) (by kernel_rfl) (by kernel_rfl) (by kernel_rfl) (by kernel_rfl) (by kernel_rfl) (fun _ _ _ h => h) (Or.inl ⟨by rfl, fun w _ => by go_simp⟩) ?_
  simp only [Act.put, List.setIfInBounds_toArray, List.set_cons_zero, List.set_cons_succ]
  refine takeU 7 2 58 (.pointer (some ⟨d, 1, none⟩)) hHeld rfl rfl (by kernel_rfl) (by kernel_rfl) (by kernel_rfl) (by kernel_rfl) (by kernel_rfl) (by kernel_rfl) (fun _ _ _ h => h) (Or.inl ⟨by rfl, fun w _ => by go_simp⟩) ?_
  simp only [Act.put, List.setIfInBounds_toArray, List.set_cons_zero, List.set_cons_succ]
  refine takeU 7 3 59 (.map (some m)) hHeld rfl rfl (by kernel_rfl) (by kernel_rfl) (by kernel_rfl) (by kernel_rfl) (by kernel_rfl) (by kernel_rfl) (fun _ _ _ h => h) (Or.inl ⟨by rfl, fun w hw => by have hw' : w.cell? ⟨d, 1, none⟩ = some (.map (some m)) := (fun hw => cell_kept HDS.out.c1 hw) hw; go_simp⟩) ?_
  simp only [Act.put, List.setIfInBounds_toArray, List.set_cons_zero, List.set_cons_succ]
  refine takeU 7 4 60 (.pointer (some ⟨g3, 4, none⟩)) hHeld rfl rfl (by kernel_rfl) (by kernel_rfl) (by kernel_rfl) (by kernel_rfl) (by kernel_rfl) (by kernel_rfl) (fun _ _ _ h => h) (Or.inl ⟨by rfl, fun w _ => by go_simp⟩) ?_
  simp only [Act.put, List.setIfInBounds_toArray, List.set_cons_zero, List.set_cons_succ]
  refine takeU 7 5 61 (.string t) hHeld rfl rfl (by kernel_rfl) (by kernel_rfl) (by kernel_rfl) (by kernel_rfl) (by kernel_rfl) (by kernel_rfl) (fun _ _ _ h => h) (Or.inl ⟨by rfl, fun w hw => by have hw' : w.cell? ⟨g3, 4, none⟩ = some (.string t) := (fun hw => cell_kept HDS.out.r4 hw) hw; go_simp⟩) ?_
  simp only [Act.put, List.setIfInBounds_toArray, List.set_cons_zero, List.set_cons_succ]
  refine takeU 7 6 62 (u) hHeld rfl rfl (by kernel_rfl) (by kernel_rfl) (by kernel_rfl) (by kernel_rfl) (by kernel_rfl) (by kernel_rfl) (fun _ _ _ h => h) (Or.inl ⟨by rfl, fun w _ => by go_simp⟩) ?_
  simp only [Act.put, List.setIfInBounds_toArray, List.set_cons_zero, List.set_cons_succ]
  refine wpAnyU_ready (rs := [7]) (by kernel_rfl) (by simp) (AllReadyU.cons rfl (fun K hK => ?_) AllReadyU.nil)
  rw [if_pos (by rfl)]
  refine wp_mapUp (n := t) rfl rfl rfl (HDS.out.below Z0.out).fil.map HT.out ?_
  intro w2 hm2 hbut2
  refine hK.out _ _ (fun h => absurd h (by decide)) ?_
  clear hK K
  simp only [Act.put]
  refine wpAnyU_done (by kernel_rfl) ?_ _
  refine NoPanic.normal ?_
  have D3 := hide (HDS.out.below Z0.out)
  have d2 : Blk w2 d 51 (dkC s (some m) rv nw) := D3.out.dk.but hbut2 (D3.out.fil.map.ne D3.out.dk)
  have r2 : Blk w2 g3 117 (rwC 5 n (.slice none 0 0) 0 t) := Blk.but D3.out.rw hbut2 (D3.out.fil.map.ne D3.out.rw)
  have k1 : w2.cell? ⟨d, 1, none⟩ = some (.map (some m)) := by rw [d2.cell]; rfl
  have k2 : w2.cell? ⟨g3, 1, none⟩ = some (.string n) := by rw [r2.cell]; rfl
  have DD : Hid ((w2.cell? ⟨d, 1, none⟩ = some (.map (some m)) ∧ w2.cell? ⟨g3, 1, none⟩ = some (.string n)) ∧ Mp w2 m (mput fm t u) ∧ d ≠ m ∧ g3 ≠ m) := hide ⟨⟨k1, k2⟩, hm2, D3.out.fil.map.ne D3.out.dk, D3.out.fil.map.ne D3.out.rw⟩
  clear d2 r2 k1 k2 hHeld hm2
  go_wp2_with fail
  refine wp_region_noPanic ?_
  refine wp_region_held_drew (S := fun v : World => v.cell? ⟨d, 1, none⟩ = some (.map (some m)) ∧ v.cell? ⟨g3, 1, none⟩ = some (.string n)) (by kernel_rfl) ⟨DD.out.1.1, DD.out.1.2⟩ (fun hHeld => ?_)
  refine takeH 0 63 (.pointer (some ⟨d, 0, none⟩)) hHeld rfl rfl (by kernel_rfl) (by kernel_rfl) (by kernel_rfl) (fun _ _ _ h => h) (Or.inl ⟨by rfl, fun w _ => by go_simp⟩) ?_
  simp only [Act.put, List.setIfInBounds_toArray, List.set_cons_zero, List.set_cons_succ]
  refine takeH 1 64 (.pointer (some ⟨d, 0, none⟩)) hHeld rfl rfl (by kernel_rfl) (by kernel_rfl) (by kernel_rfl) (fun _ _ _ h => h) (Or.inl ⟨by rfl, fun w _ => by go_simp⟩) ?_
  simp only [Act.put, List.setIfInBounds_toArray, List.set_cons_zero, List.set_cons_succ]
  refine takeH 2 65 (.pointer (some ⟨d, 1, none⟩)) hHeld rfl rfl (by kernel_rfl) (by kernel_rfl) (by kernel_rfl) (fun _ _ _ h => h) (Or.inl ⟨by rfl, fun w _ => by go_simp⟩) ?_
  simp only [Act.put, List.setIfInBounds_toArray, List.set_cons_zero, List.set_cons_succ]
  refine takeH 3 66 (.map (some m)) hHeld rfl rfl (by kernel_rfl) (by kernel_rfl) (by kernel_rfl) (fun _ _ _ h => h) (Or.inl ⟨by rfl, fun w hw => by have hw' : w.cell? ⟨d, 1, none⟩ = some (.map (some m)) := (fun h => h.1) hw; go_simp⟩) ?_
  simp only [Act.put, List.setIfInBounds_toArray, List.set_cons_zero, List.set_cons_succ]
  refine takeH 4 67 (.pointer (some ⟨g3, 1, none⟩)) hHeld rfl rfl (by kernel_rfl) (by kernel_rfl) (by kernel_rfl) (fun _ _ _ h => h) (Or.inl ⟨by rfl, fun w _ => by go_simp⟩) ?_
  simp only [Act.put, List.setIfInBounds_toArray, List.set_cons_zero, List.set_cons_succ]
  refine takeH 5 68 (.string n) hHeld rfl rfl (by kernel_rfl) (by kernel_rfl) (by kernel_rfl) (fun _ _ _ h => h) (Or.inl ⟨by rfl, fun w hw => by have hw' : w.cell? ⟨g3, 1, none⟩ = some (.string n) := (fun h => h.2) hw; go_simp⟩) ?_
  simp only [Act.put, List.setIfInBounds_toArray, List.set_cons_zero, List.set_cons_succ]
  refine wpAnyH_ready (rs := [6]) (by kernel_rfl) (by simp) (AllReadyH.cons rfl (fun K hK => ?_) AllReadyH.nil)
  rw [if_pos (by rfl)]
  refine wp_mapDel (n := n) rfl rfl (Mp.same DD.out.2.1 (w' := w2.drew) rfl) HN.out ?_
  intro w5 hm5 hbut5
  refine hK.out _ _ (⟨by rw [World.cell?_of_block (w := w2.drew) (a := ⟨d, 1, none⟩) (hbut5.block d DD.out.2.2.1)]; exact DD.out.1.1, by rw [World.cell?_of_block (w := w2.drew) (a := ⟨g3, 1, none⟩) (hbut5.block g3 DD.out.2.2.2)]; exact DD.out.1.2⟩) (fun hHeld => ?_)
  clear hK K
  simp only [Act.put]
  refine wpAnyH_done (by kernel_rfl) ?_ _
  refine NoPanic.normal ?_
  clear hHeld
  go_wp2
  go_end0
  have Z2 := hide ((Below.refl w2.heap.size w2).drew)
  have F2 := D3.out.fil
  refine ⟨rfl, mdel (mput fm t u) n, F2.ren HNT.out HV1.out hm5 (fun k hk => ?_), ?_, fun k hk => ?_, Nat.le_trans (mdel_length _ _) (mput_length _ _ _)⟩
  · have hne : k ≠ m := fun e => F2.offm (by rw [← e]; exact hk)
    rw [hbut5.block k hne]
    exact hbut2.block k hne
  · refine (((Chs.of_below _ D3.out.bel).thenBut hbut2 (.inl (.inl rfl))).thenBelow Z2.out).thenBut hbut5 (.inl (.inl rfl))
  · obtain ⟨x, u', h1, h2⟩ := hk
    rw [mfind_del, mfind_put F2.map.one] at h1
    by_cases hx : x = n
    · rw [if_pos hx] at h1; cases h1
    · rw [if_neg hx] at h1
      by_cases hx2 : x = t
      · rw [if_pos hx2] at h1
        obtain rfl := Option.some.inj h1
        exact .inl ⟨n, u, HV1.out, h2⟩
      · rw [if_neg hx2] at h1; exact .inl ⟨x, u', h1, h2⟩
end
/-- Any raw write that may be done. -/
theorem do_any (d m : Nat) (s nw : Int) (rv : Value) (r : Rw) (v : Value) (fm : List (ByteArray × Value)) (f : (ByteArray → Option (List Int))) (w : World) (hd : Blk w d 51 (dkC s (some m) rv nw)) (hF : FilAt w m fm f) (hl : Leg f r) (hv : BV w v r.b)
    (hlen : (fl f r.n).length + r.b.length ≤ 140737488355328) (hdis : ∀ k, v.ownBlock = some k → ¬ fB fm k) :
    Calls Tryz.prog 84 #[.pointer (some ⟨d, 0, none⟩), .agg (rwC r.k r.n v r.s r.t).toArray] w fun e w' => e = .returned (.tuple #[]) ∧ DoR w w' m fm (doR f r) := by
  have key : r.b = [] → v = .slice none 0 0 := fun h => by
    rcases hv with ⟨h, _⟩ | ⟨b, o, l, c, _, h0, hs, _⟩
    · exact h
    · have := hs.hlen; rw [h] at this; simp at this; omega
  rcases hl with ⟨n, rfl, hn, hf⟩ | ⟨n, b, xs, rfl, hn, hf, hb, hB⟩ | ⟨n, k, xs, rfl, hn, hf, h0, h1⟩ | ⟨n, xs, rfl, hn, hf⟩ | ⟨n, t, xs, rfl, hn, ht, hf, hne⟩
  · obtain rfl := key rfl
    exact do_crM d m s nw rv n fm f w hd hF (nm_size hn) hf hv
  · have e : fl f n = xs := by simp [fl, hf]
    have hlen' : (fl f n).length + b.length ≤ 140737488355328 := hlen
    rw [e] at hlen'
    exact do_apM d m s nw rv n fm f w hd hF (nm_size hn) v b xs hf hb hB hlen' hdis hv
  · obtain rfl := key rfl
    exact do_cuM d m s nw rv n fm f w hd hF (nm_size hn) k xs hf h0 h1 hv
  · obtain rfl := key rfl
    exact do_rmM d m s nw rv n fm f w hd hF (nm_size hn) hv
  · obtain rfl := key rfl
    exact do_rnM d m s nw rv n fm f w hd hF (nm_size hn) t xs hf (nm_size ht) hne hv

end Go.Proofs.YtpocadbhajacaaaGreatDoor
