/-
  The walk of TileNeeds.
-/
import Derived.Test.YtnlpgkfmjlljdaaTnb
import Derived.Test.YtnlpgkfmjlljdaaToLaw
namespace Go.Proofs.Ytnlpgkfmjlljdaa
open Go.RowKit
set_option linter.unusedVariables false

/-- What stands through the loops: the first answer (its widths are being spoiled), the second, the document's. -/
structure NQ (W1 wr : World) (B2 : Nat) (vx vy vz : Value) (ts T : List Tl) : Prop where
  bel : Below W1.heap.size W1 wr
  x : OwnT wr W1.heap.size vx ts
  xlt : ∀ k, vx.ownBlock = some k → k < B2
  y : OwnT wr B2 vy T
  z : OwnT wr B2 vz T
theorem NQ.drew {W1 wr : World} {B2 : Nat} {vx vy vz : Value} {ts T : List Tl} (h : NQ W1 wr B2 vx vy vz ts T) (k : Nat) : NQ W1 (wr.drewN k) B2 vx vy vz ts T := by
  have hb : Below wr.heap.size wr (wr.drewN k) := below_drews (Below.refl _ _) k
  exact ⟨below_drews h.bel k, h.x.below hb, h.xlt, h.y.below hb, h.z.below hb⟩
theorem NQ.set {W1 wr w2 : World} {B2 g n c : Nat} {vy vz : Value} {ts T : List Tl} (h : NQ W1 wr B2 (.slice (some ⟨g, 0, none⟩) n c) vy vz ts T) (j : Nat) (t : Tl) (e : Int) (ht : ts[j]? = some t) (hw : w2 = wr.setCell ⟨g, j * 4 + 3, none⟩ (.int .i64 e)) : NQ W1 w2 B2 (.slice (some ⟨g, 0, none⟩) n c) vy vz (ts.set j (t.1, t.2.1, t.2.2.1, e)) T := by
  have hbut : But g wr w2 := by rw [hw]; exact But.setCell _ _ _ _
  have hg1 := (h.x.lt g rfl).1
  have hg2 := h.xlt g rfl
  obtain ⟨q0, q1, q2, q3⟩ := h.x.cells j t ht
  refine ⟨h.bel.trans (hbut.below hg1), ?_, h.xlt, h.y.but hbut (fun hk => ?_), h.z.but hbut (fun hk => ?_)⟩
  · refine OwnT.set h.x j (t.1, t.2.1, t.2.2.1, e) (List.getElem?_eq_some_iff.1 ht).1 (fun cs hb hl => ?_)
    rw [hb.cell] at q0 q1 q2
    have hs := spl_width (e := Value.int .i64 e) q0 q1 q2 hl
    rw [hw]
    have h5 := hb.set (j * 4 + 3) (.int .i64 e)
    rw [hs] at h5
    exact h5
  · have := (h.y.lt g hk).1; omega
  · have := (h.z.lt g hk).1; omega
theorem OwnT.lay0 {w : World} {B : Nat} {a : Option Addr} {n c : Nat} {ns : List Tl} (h : OwnT w B (.slice a n c) ns) (j : Nat) (t : Tl) (hj : ns[j]? = some t) : ∃ g, a = some ⟨g, 0, none⟩ := by
  rcases h.lies with ⟨e, e2⟩ | ⟨g, cap, cs, e, _⟩
  · rw [e2] at hj; simp at hj
  · injection e with e _ _; exact ⟨g, e⟩
theorem OwnT.free {w : World} {B : Nat} {g n c : Nat} {ns : List Tl} (h : OwnT w B (.slice (some ⟨g, 0, none⟩) n c) ns) (q : Nat) : w.frozen? ⟨g, q, none⟩ = false := by
  rcases h.lies with ⟨e1, _⟩ | ⟨g', cap', cs, e1, _, hb, _⟩
  · cases e1
  · injection e1 with e1 _ _
    injection e1 with e1
    injection e1 with e1 _ _
    subst e1
    exact hb.free _

section
variable {dst : Option Tmp} {ty : TypeId} {pos : String} {aft : Array Edge} {gd : Option (Nat × Bool)} {ops : Array Oper} {rest : List Oper} {a : Act} {w : World} {Q : Exit → Act → World → Prop}
set_option maxRecDepth 100000 in
theorem step_0nd (hw : Region.wanted ⟨dst, .buildSlice 46 0 #[], ty, pos, aft, gd⟩ (yielded ops a.tmps) = true) (h : ∀ w1 g, w1.ownsRow w.heap.size 23 2 (.slice (some ⟨g, 0, none⟩) 0 0) 0 [] → Below w.heap.size w w1 → wpList Try.prog ops Q rest (a.put dst (.slice (some ⟨g, 0, none⟩) 0 0)) w1) :
    wpList Try.prog ops Q (⟨dst, .buildSlice 46 0 #[], ty, pos, aft, gd⟩ :: rest) a w :=
  BigFrame.wpList_want hw fun K hK => wp_0nd fun w1 g h1 h2 => hK _ _ (h w1 g h1 h2)
set_option maxRecDepth 100000 in
theorem step_copyNd {s x : Operand} {B g0 : Nat} {b : Option Addr} {len cap : Nat} {ns : List (Int × Int)} (hw : Region.wanted ⟨dst, .call { callee := .builtin .append, args := #[s, x], argTypes := #[46, 46] }, ty, pos, aft, gd⟩ (yielded ops a.tmps) = true)
    (hs : a.eval s = .slice (some ⟨g0, 0, none⟩) 0 0) (hx : a.eval x = .slice b len cap) (hown : w.ownsRow B 23 2 (.slice (some ⟨g0, 0, none⟩) 0 0) 0 []) (hn : Nds w b len cap ns) (hlen : len ≤ 1048576) (hB : B ≤ w.heap.size)
    (h : ∀ g c w', Nds w' (some ⟨g, 0, none⟩) len c ns → B ≤ g → g < w'.heap.size → w.grownBy w' (some g0) → wpList Try.prog ops Q rest (a.put dst (.slice (some ⟨g, 0, none⟩) len c)) w') :
    wpList Try.prog ops Q (⟨dst, .call { callee := .builtin .append, args := #[s, x], argTypes := #[46, 46] }, ty, pos, aft, gd⟩ :: rest) a w :=
  BigFrame.wpList_want hw fun K hK => wp_copyNd hs hx hown hn hlen hB fun g c w' h1 h2 h3 h4 => hK _ _ (h g c w' h1 h2 h3 h4)
end

set_option maxRecDepth 100000 in
set_option maxHeartbeats 4000000 in
theorem needs_walk (h : Int) (a : Option Addr) (len cap : Nat) (ns : List (Int × Int)) (w : World) (h1 : -9223372036854775808 ≤ h) (h2 : h ≤ 9223372036854775807) (hs : Nds w a len cap ns) (hsm : len ≤ 1048576) :
    Calls Try.prog 6 #[.int .i64 h, .slice a len cap] w fun e w' => e = .returned (.bool true) ∧ Below w.heap.size w w' := by
  obtain ⟨k, T, hT, n1, n2⟩ := need_both h ns (by rw [hs.hlen]; exact hsm)
  rw [hs.hlen] at hT
  have N1 := hide n1
  have N2 := hide n2
  have HS := hide hs
  have HL := hide hs.hlen
  clear n1 n2 hs h1 h2
  obtain ⟨n, HN⟩ : ∃ n, Hid (T.length = n) := ⟨_, hide rfl⟩
  rw [HN.out] at hT
  have hn1 : (n : Int) ≤ 1048576 := by omega
  have hl1 : (len : Int) ≤ 1048576 := by omega
  go_enter Try.func6, Try.ntmps6
  go_wp2_with (refine step_0nd rfl ?_)
  intro wa ga hra hba
  have HRA := hide hra
  have HBA := hide hba
  have hga : w.heap.size ≤ ga := (World.ownsRow.lt hra ga rfl).1
  clear hra hba
  go_wp2_with (refine step_copyNd rfl rfl rfl HRA.out (HS.out.below HBA.out (Nat.le_refl _)) hsm HBA.out.size ?_)
  intro gi ci W1 hNi hgi hgi2 hgr
  have BW := hide (HBA.out.grown hgr HBA.out.size (fun k hk => by cases hk; exact hga))
  have SL1 := hide (HS.out.below BW.out (Nat.le_refl _))
  have SI1 := hide hNi
  clear HRA HBA hga hNi hgi hgi2 hgr
  go_wp2_with fail
  refine (N1.out _ _ _ _ SI1.out).mono ?_
  rintro r W2 ⟨vx, rfl, ox, hb2⟩
  obtain ⟨ax, nx, cx, rfl⟩ := ox.slice
  have SI2 := hide (SI1.out.below hb2 (Nat.le_refl _))
  have SL2 := hide (SL1.out.below hb2 (Nat.le_refl _))
  have OX := hide ox
  have B2 := hide hb2
  clear ox hb2
  go_wp2_with fail
  refine (N1.out _ _ _ _ SI2.out).mono ?_
  rintro r W3 ⟨vy, rfl, oy, hb3⟩
  obtain ⟨ay, ny, cy, rfl⟩ := oy.slice
  have SL3 := hide (SL2.out.below hb3 (Nat.le_refl _))
  have OY := hide oy
  have B3 := hide hb3
  clear oy hb3
  go_wp2_with fail
  refine (N2.out _ _ _ _ SL3.out).mono ?_
  rintro r W4 ⟨vz, rfl, oz, hb4⟩
  obtain ⟨az, nz, cz, rfl⟩ := oz.slice
  have NQ0 : Hid (NQ W1 W4 W2.heap.size (.slice ax nx cx) (.slice ay ny cy) (.slice az nz cz) T T) := hide ⟨on_below (on_below B2.out B3.out) hb4, (OX.out.below B3.out).below hb4, fun k hk => (OX.out.lt k hk).2, OY.out.below hb4, oz.lower B3.out.size⟩
  obtain rfl : nx = n := by
    obtain ⟨_, _, e, _⟩ := OX.out.len; injection e with _ e _; rw [e, HN.out]
  obtain rfl : ny = nx := by
    obtain ⟨_, _, e, _⟩ := OY.out.len; injection e with _ e _; rw [e, HN.out]
  obtain rfl : nz = ny := by
    obtain ⟨_, _, e, _⟩ := oz.len; injection e with _ e _; rw [e, HN.out]
  clear OX OY oz hb4 B2 B3 SI2 SL2 SL3 N1 N2
  go_wp2_with fail
  go_loopw [12] (fun s wr => ∃ (j : Nat) (ts : List Tl), s = .int .i64 (j : Int) ∧ j ≤ nz ∧ Hid (ts.length = nz ∧ ∀ i, j ≤ i → ts[i]? = T[i]?) ∧ Hid (NQ W1 wr W2.heap.size (.slice ax nz cx) (.slice ay nz cy) (.slice az nz cz) ts T)) (fun s _ => nz - (intOf s).toNat)
  case atStart => exact ⟨0, T, rfl, Nat.zero_le _, hide ⟨HN.out, fun _ _ => rfl⟩, NQ0⟩
  case round =>
    obtain ⟨j, ts, rfl, hj, HT, Q⟩ := hrel
    clear NQ0
    by_cases hlt : j < nz
    · have hlt' : (j : Int) < (nz : Int) := by omega
      obtain ⟨p, hp⟩ : ∃ p, T[j]? = some p := ⟨_, List.getElem?_eq_getElem (by rw [HN.out]; exact hlt)⟩
      have hp2 : ts[j]? = some p := (HT.out.2 j (Nat.le_refl _)).trans hp
      obtain ⟨gx, rfl⟩ := Q.out.x.lay0 j p hp2
      obtain ⟨gz, rfl⟩ := Q.out.z.lay0 j p hp
      obtain ⟨c0, c1, c2, c3⟩ := Q.out.x.cells j p hp2
      obtain ⟨d0, d1, d2, d3⟩ := Q.out.z.cells j p hp
      have x1 := atT gx nz cx j (j : Int) rfl hlt
      have x2 := atT gz nz cz j (j : Int) rfl hlt
      have hfz : ∀ k : Nat, (wr.drewN k).frozen? ⟨gx, j * 4 + 3, none⟩ = false := fun k => (Q.out.drew k).x.free _
      have HP2 := hide hp2
      have HP := hide hp
      obtain ⟨p1, p2, p3, p4⟩ := p
      simp only at c0 c1 c2 c3 d0 d1 d2 d3
      clear hp hp2
      go_wp2_with fail
      go_quiet (fail)
      go_wp2_with fail
      have NS := Q.out.drew nq |>.set j _ (-3) HP2.out rfl
      refine ⟨⟨j + 1, _, by simp, hlt, hide ⟨?_, fun i hi => ?_⟩, hide NS⟩, by simp only [intOf]; omega⟩
      · rw [List.length_set]; exact HT.out.1
      · rw [List.getElem?_set_ne (by omega)]
        exact HT.out.2 i (by omega)
    · obtain rfl : j = nz := by omega
      clear HT hj hlt
      go_wp2_with fail
      go_loopw [13] (fun s wq => ∃ (i : Nat), s = .int .i64 (i : Int) ∧ i ≤ j ∧ Hid (NQ W1 wq W2.heap.size (.slice ax j cx) (.slice ay j cy) (.slice az j cz) ts T)) (fun s _ => j - (intOf s).toNat)
      case atStart => exact ⟨0, rfl, Nat.zero_le _, Q⟩
      case round =>
        obtain ⟨i, rfl, hi, Q⟩ := hrel
        by_cases hlt : i < j
        · have hlt' : (i : Int) < (j : Int) := by omega
          obtain ⟨p, hp⟩ : ∃ p, T[i]? = some p := ⟨_, List.getElem?_eq_getElem (by rw [HN.out]; exact hlt)⟩
          obtain ⟨gy, rfl⟩ := Q.out.y.lay0 i p hp
          obtain ⟨gz, rfl⟩ := Q.out.z.lay0 i p hp
          obtain ⟨c0, c1, c2, c3⟩ := Q.out.y.cells i p hp
          obtain ⟨d0, d1, d2, d3⟩ := Q.out.z.cells i p hp
          have x1 := atT gy j cy i (i : Int) rfl hlt
          have x2 := atT gz j cz i (i : Int) rfl hlt
          have HP := hide hp
          obtain ⟨p1, p2, p3, p4⟩ := p
          simp only at c0 c1 c2 c3 d0 d1 d2 d3
          clear hp
          go_wp2_with fail
          go_quiet (fail)
          go_wp2_with fail
          exact ⟨⟨i + 1, by simp, hlt, hide (Q.out.drew nq)⟩, by simp only [intOf]; omega⟩
        · obtain rfl : i = j := by omega
          clear hi hlt
          have hbq := Q.out.bel
          have SLq := hide (SL1.out.below hbq (Nat.le_refl _))
          have SIq := hide (SI1.out.below hbq (Nat.le_refl _))
          have BQ := hide (on_below BW.out hbq)
          clear Q hbq SL1 SI1 BW HS
          go_wp2_with fail
          go_loopw [14] (fun s wp => ∃ (i k : Nat), s = .int .i64 (i : Int) ∧ i ≤ len ∧ wp = wr.drewN k) (fun s _ => len - (intOf s).toNat)
          case atStart => exact ⟨0, 0, rfl, Nat.zero_le _, rfl⟩
          case round =>
            obtain ⟨i, k, rfl, hi, rfl⟩ := hrel
            by_cases hlt : i < len
            · have hlt' : (i : Int) < (len : Int) := by omega
              obtain ⟨p, hp⟩ : ∃ p, ns[i]? = some p := ⟨_, List.getElem?_eq_getElem (by rw [HL.out]; exact hlt)⟩
              obtain ⟨b0, o0, e0, c0, c1⟩ := SIq.out.hcell i p hp
              injection e0 with e0
              injection e0 with e0 e1 _
              subst e0 e1
              obtain ⟨b, o, rfl, d0, d1⟩ := SLq.out.hcell i p hp
              rw [Nat.zero_add] at c0 c1
              have x1 := n_at gi 0 len ci i (i : Int) rfl hlt
              rw [Nat.zero_add] at x1
              have x2 := n_at b o len cap i (i : Int) rfl hlt
              have HP := hide hp
              obtain ⟨p1, p2⟩ := p
              simp only at c0 c1 d0 d1
              clear hp
              go_wp2_with fail
              go_quiet (fail)
              go_wp2_with fail
              exact ⟨⟨i + 1, _, by simp, hlt, rfl⟩, by simp only [intOf]; omega⟩
            · obtain rfl : i = len := by omega
              go_wp2_with (go_at_call 9; refine (names10_any _).mono ?_; rintro e w' ⟨rfl, rfl⟩)
              go_ret
              exact ⟨rfl, below_drews BQ.out _⟩
end Go.Proofs.Ytnlpgkfmjlljdaa
