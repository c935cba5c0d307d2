/-
  Texts one behind the other: Fo In Bo Vj Vu Vg Vi Vz Vs Vn.
-/
import Derived.Test.YtdggooanpamoeaaDoorIc
import Derived.Laws.EntriesVeiled
import Derived.Test.YtdggooanpamoeaaDoorVf
import Derived.Test.YtdggooanpamoeaaDoorDa
import Derived.Laws.BitsAllLaws

/-
  From a leaf and its proof, digest by digest, to the root. No program here but the digest.
-/
namespace Go.Proofs.YtdggooanpamoeaaDoor
open Go.RowKit
set_option linter.unusedVariables false

/-- One digest put on its side. -/
def comb (l : Bool) (f d : List Int) : List Int := if l = true then nd d f else nd f d
theorem comb_length (l : Bool) (f d : List Int) : (comb l f d).length = 32 := by
  unfold comb; split <;> exact nd_length _ _
theorem comb_isB (l : Bool) (f d : List Int) : isB (comb l f d) := by
  unfold comb; split <;> exact nd_isB _ _
/-- All of them, the outermost listed first. -/
def up : List (Bool × List Int) → List Int → List Int
  | [], d => d
  | p :: r, d => comb p.1 p.2 (up r d)
theorem up_snoc : ∀ (st : List (Bool × List Int)) (l : Bool) (f d : List Int), up (st ++ [(l, f)]) d = up st (comb l f d)
  | [], _, _, _ => rfl
  | p :: r, l, f, d => by
    show comb p.1 p.2 (up (r ++ [(l, f)]) d) = comb p.1 p.2 (up r (comb l f d))
    rw [up_snoc r l f d]
theorem up_bd : ∀ (st : List (Bool × List Int)) (d : List Int), d.length = 32 → isB d → (up st d).length = 32 ∧ isB (up st d)
  | [], d, h, hb => ⟨h, hb⟩
  | p :: r, d, h, hb => ⟨comb_length _ _ _, comb_isB _ _ _⟩
/-- The digests that lie beside the way, the innermost first. -/
def beside (st : List (Bool × List Int)) : List Int := (st.reverse.map (·.2)).flatten
def Each (st : List (Bool × List Int)) : Prop := ∀ p ∈ st, p.2.length = 32 ∧ isB p.2
theorem beside_snoc (st : List (Bool × List Int)) (l : Bool) (f : List Int) : beside (st ++ [(l, f)]) = f ++ beside st := by simp [beside]
theorem flat32 : ∀ (ls : List (List Int)), (∀ l ∈ ls, l.length = 32) → ls.flatten.length = 32 * ls.length ∧ ∀ k (h : k < ls.length), dat ls.flatten k = ls[k]
  | [], _ => ⟨rfl, fun k h => absurd h (by simp)⟩
  | x :: r, h => by
    obtain ⟨h1, h2⟩ := flat32 r (fun l hl => h l (by simp [hl]))
    have hx := h x (by simp)
    refine ⟨by rw [List.flatten_cons, List.length_append, h1, hx, List.length_cons]; omega, fun k hk => ?_⟩
    cases k with
    | zero =>
      rw [dat, List.flatten_cons, Nat.mul_zero, List.drop_zero, List.take_append_of_le_length (by omega), List.take_of_length_le (by omega)]
      rfl
    | succ k =>
      have := h2 k (by simpa using hk)
      rw [List.getElem_cons_succ, ← this, dat, List.flatten_cons, dat]
      rw [show 32 * (k + 1) = x.length + 32 * k by omega, ← List.drop_drop, List.drop_left]
theorem beside_length (st : List (Bool × List Int)) (h : Each st) : (beside st).length = 32 * st.length := by
  have := (flat32 (st.reverse.map (·.2)) (by intro l hl; obtain ⟨p, hp, rfl⟩ := List.mem_map.1 hl; exact (h p (List.mem_reverse.1 hp)).1)).1
  simpa [beside] using this
theorem beside_at (st : List (Bool × List Int)) (h : Each st) (k : Nat) (hk : k < st.length) : dat (beside st) k = (st.getD (st.length - 1 - k) (false, [])).2 := by
  have := (flat32 (st.reverse.map (·.2)) (by intro l hl; obtain ⟨p, hp, rfl⟩ := List.mem_map.1 hl; exact (h p (List.mem_reverse.1 hp)).1)).2 k (by simpa using hk)
  rw [beside, this]
  simp [List.getElem_reverse, List.getD, List.getElem?_eq_getElem (show st.length - 1 - k < st.length by omega)]
theorem up_step (st : List (Bool × List Int)) (d : List Int) (k : Nat) (hk : k < st.length) :
    up (st.drop (st.length - (k + 1))) d = comb (st.getD (st.length - 1 - k) (false, [])).1 (st.getD (st.length - 1 - k) (false, [])).2 (up (st.drop (st.length - k)) d) := by
  have hlt : st.length - (k + 1) < st.length := by omega
  rw [List.drop_eq_getElem_cons hlt, show st.length - (k + 1) + 1 = st.length - k by omega]
  have e : st.length - 1 - k = st.length - (k + 1) := by omega
  rw [e]
  simp [List.getD, List.getElem?_eq_getElem hlt, up]

/-- A span on the way down to the leaf i: what was passed. -/
def Way (xs : List Int) (n i b e : Nat) (st : List (Bool × List Int)) : Prop :=
  b ≤ i ∧ i < e ∧ e ≤ n ∧ Each st ∧ up st (root (sub xs b e)) = root xs ∧ path xs i = path (sub xs b e) (i - b) ++ beside st
theorem Way.start {xs : List Int} {n i : Nat} (h : xs.length = 32 * n) (hi' : i < n) : Way xs n i 0 n [] := by
  have e : sub xs 0 n = xs := by unfold sub; rw [Nat.mul_zero, List.drop_zero, List.take_of_length_le (by omega)]
  refine ⟨by omega, hi', Nat.le_refl _, (fun p hp => by cases hp), ?_, ?_⟩
  · rw [e]; rfl
  · rw [e]; simp [beside]
theorem Way.low {xs : List Int} {n i b e : Nat} {st : List (Bool × List Int)} (h : Way xs n i b e st) (hx : xs.length = 32 * n) (hxb : isB xs) (hn : n < 2 ^ 63) (h2 : 2 ≤ e - b) (hlt : i < b + hf (e - b)) :
    Way xs n i b (b + hf (e - b)) (st ++ [(true, root (sub xs (b + hf (e - b)) e))]) := by
  obtain ⟨h1, h3, h4, h5, h6, h7⟩ := h
  have hbd := hf_bd (e - b) h2 (by omega)
  have hsl := sub_length hx (show b ≤ e by omega) h4
  have hfl := sub_length hx (show b + hf (e - b) ≤ e by omega) h4
  refine ⟨h1, hlt, by omega, ?_, ?_, ?_⟩
  · intro p hp
    rcases List.mem_append.1 hp with hp | hp
    · exact h5 p hp
    · simp at hp; subst hp; exact ⟨root_length hfl (sub_isB hxb _ _), root_isB hfl (sub_isB hxb _ _)⟩
  · rw [up_snoc, ← h6, root_node hsl h2 (by omega), sub_lo hx (by omega) h4 h2 (by omega), sub_hi hx (by omega) h4 h2 (by omega)]
    rfl
  · rw [beside_snoc, h7, path_lo hsl h2 (by omega) (by omega), sub_lo hx (by omega) h4 h2 (by omega), sub_hi hx (by omega) h4 h2 (by omega), List.append_assoc]
theorem Way.high {xs : List Int} {n i b e : Nat} {st : List (Bool × List Int)} (h : Way xs n i b e st) (hx : xs.length = 32 * n) (hxb : isB xs) (hn : n < 2 ^ 63) (h2 : 2 ≤ e - b) (hle : b + hf (e - b) ≤ i) :
    Way xs n i (b + hf (e - b)) e (st ++ [(false, root (sub xs b (b + hf (e - b))))]) := by
  obtain ⟨h1, h3, h4, h5, h6, h7⟩ := h
  have hbd := hf_bd (e - b) h2 (by omega)
  have hsl := sub_length hx (show b ≤ e by omega) h4
  have hfl := sub_length hx (show b ≤ b + hf (e - b) by omega) (show b + hf (e - b) ≤ n by omega)
  refine ⟨hle, h3, h4, ?_, ?_, ?_⟩
  · intro p hp
    rcases List.mem_append.1 hp with hp | hp
    · exact h5 p hp
    · simp at hp; subst hp; exact ⟨root_length hfl (sub_isB hxb _ _), root_isB hfl (sub_isB hxb _ _)⟩
  · rw [up_snoc, ← h6, root_node hsl h2 (by omega), sub_lo hx (by omega) h4 h2 (by omega), sub_hi hx (by omega) h4 h2 (by omega)]
    rfl
  · rw [beside_snoc, h7, path_hi hsl h2 (by omega) (by omega), sub_lo hx (by omega) h4 h2 (by omega), sub_hi hx (by omega) h4 h2 (by omega), List.append_assoc, show i - b - hf (e - b) = i - (b + hf (e - b)) by omega]
theorem Way.last {xs : List Int} {n i b e : Nat} {st : List (Bool × List Int)} (h : Way xs n i b e st) (hx : xs.length = 32 * n) (h1 : e - b ≤ 1) : path xs i = beside st ∧ up st (dat xs i) = root xs := by
  obtain ⟨g1, g3, g4, g5, g6, g7⟩ := h
  obtain rfl : b = i := by omega
  obtain rfl : e = b + 1 := by omega
  have hl : (sub xs b (b + 1)).length = 32 := by rw [sub_length hx (by omega) g4]; omega
  have e2 : sub xs b (b + 1) = dat xs b := by simp [sub, dat]
  rw [path_one hl] at g7
  rw [root_one hl, e2] at g6
  exact ⟨by simpa using g7, g6⟩

end Go.Proofs.YtdggooanpamoeaaDoor

/-
  The program's and the document's Inclusion.
-/
namespace Go.Proofs.YtdggooanpamoeaaDoor
open Go.RowKit
set_option linter.unusedVariables false


set_option maxRecDepth 100000 in
set_option maxHeartbeats 2000000 in
theorem incl_any (a : Option Addr) (n cap : Nat) (xs : List Int) (i m : Int) (w : World) (hs : Ds w a n cap xs) (hk : KT w) :
    Calls Tryd.prog 20 #[.slice a n cap, .int .i64 i, .int .i64 m] w fun r w' => ∃ v, r = .returned (.tuple #[v, .int .i64 (inE n i m)]) ∧ (∃ q, DOwn w' w.heap.size v q (inP xs n i m)) ∧ Below w.heap.size w w' := by
  have HS := hide hs
  have HK := hide hk
  have hcap := hs.hcap
  have hre := hs.hreach
  clear hs hk
  by_cases h1 : m < 1
  · skip
    have EE := hide (show inE n i m = 40 by unfold inE; rw [if_pos (by omega)])
    have EP := hide (show inP xs n i m = [] by unfold inP; rw [if_pos (by omega)])
    rw [EE.out, EP.out]
    go_enter Tryd.func20, Tryd.ntmps20
    go_wp2_with (refine step_box1 rfl rfl rfl ?_)
    intro w1 gd hr1 hl1 hb1
    have GD := hide hr1
    clear hr1
    go_wp2_with (refine step_box1 rfl rfl rfl ?_)
    intro w2 gi hr2 hl2 hb2
    have GI := hide hr2
    have GD2 := hide (GD.out.below hb2 GD.out.lt)
    have B2 := hide (hb1.trans (hb2.mono hb1.size))
    have hcd : w2.cell? ⟨gd, 0, none⟩ = some (.slice a n cap) := by rw [GD2.out.cell]; rfl
    have hci : w2.cell? ⟨gi, 0, none⟩ = some (.int .i64 i) := by rw [GI.out.cell]; rfl
    clear hr2 GD hb1 hb2
    go_wp2
    go_ret2
    exact ⟨_, rfl, ⟨0, DOwn.nil _ _⟩, B2.out⟩
  by_cases h2 : (n : Int) < m
  · skip
    have EE := hide (show inE n i m = 40 by unfold inE; rw [if_pos (by omega)])
    have EP := hide (show inP xs n i m = [] by unfold inP; rw [if_pos (by omega)])
    rw [EE.out, EP.out]
    go_enter Tryd.func20, Tryd.ntmps20
    go_wp2_with (refine step_box1 rfl rfl rfl ?_)
    intro w1 gd hr1 hl1 hb1
    have GD := hide hr1
    clear hr1
    go_wp2_with (refine step_box1 rfl rfl rfl ?_)
    intro w2 gi hr2 hl2 hb2
    have GI := hide hr2
    have GD2 := hide (GD.out.below hb2 GD.out.lt)
    have B2 := hide (hb1.trans (hb2.mono hb1.size))
    have hcd : w2.cell? ⟨gd, 0, none⟩ = some (.slice a n cap) := by rw [GD2.out.cell]; rfl
    have hci : w2.cell? ⟨gi, 0, none⟩ = some (.int .i64 i) := by rw [GI.out.cell]; rfl
    clear hr2 GD hb1 hb2
    go_wp2
    go_ret2
    exact ⟨_, rfl, ⟨0, DOwn.nil _ _⟩, B2.out⟩
  by_cases h3 : i < 0
  · skip
    have EE := hide (show inE n i m = 40 by unfold inE; rw [if_pos (by omega)])
    have EP := hide (show inP xs n i m = [] by unfold inP; rw [if_pos (by omega)])
    rw [EE.out, EP.out]
    go_enter Tryd.func20, Tryd.ntmps20
    go_wp2_with (refine step_box1 rfl rfl rfl ?_)
    intro w1 gd hr1 hl1 hb1
    have GD := hide hr1
    clear hr1
    go_wp2_with (refine step_box1 rfl rfl rfl ?_)
    intro w2 gi hr2 hl2 hb2
    have GI := hide hr2
    have GD2 := hide (GD.out.below hb2 GD.out.lt)
    have B2 := hide (hb1.trans (hb2.mono hb1.size))
    have hcd : w2.cell? ⟨gd, 0, none⟩ = some (.slice a n cap) := by rw [GD2.out.cell]; rfl
    have hci : w2.cell? ⟨gi, 0, none⟩ = some (.int .i64 i) := by rw [GI.out.cell]; rfl
    clear hr2 GD hb1 hb2
    go_wp2
    go_ret2
    exact ⟨_, rfl, ⟨0, DOwn.nil _ _⟩, B2.out⟩
  by_cases h4 : m ≤ i
  · skip
    have EE := hide (show inE n i m = 40 by unfold inE; rw [if_pos (by omega)])
    have EP := hide (show inP xs n i m = [] by unfold inP; rw [if_pos (by omega)])
    rw [EE.out, EP.out]
    go_enter Tryd.func20, Tryd.ntmps20
    go_wp2_with (refine step_box1 rfl rfl rfl ?_)
    intro w1 gd hr1 hl1 hb1
    have GD := hide hr1
    clear hr1
    go_wp2_with (refine step_box1 rfl rfl rfl ?_)
    intro w2 gi hr2 hl2 hb2
    have GI := hide hr2
    have GD2 := hide (GD.out.below hb2 GD.out.lt)
    have B2 := hide (hb1.trans (hb2.mono hb1.size))
    have hcd : w2.cell? ⟨gd, 0, none⟩ = some (.slice a n cap) := by rw [GD2.out.cell]; rfl
    have hci : w2.cell? ⟨gi, 0, none⟩ = some (.int .i64 i) := by rw [GI.out.cell]; rfl
    clear hr2 GD hb1 hb2
    go_wp2
    go_ret2
    exact ⟨_, rfl, ⟨0, DOwn.nil _ _⟩, B2.out⟩
  obtain ⟨i, rfl⟩ : ∃ k : Nat, i = (k : Int) := ⟨i.toNat, by omega⟩
  obtain ⟨m, rfl⟩ : ∃ k : Nat, m = (k : Int) := ⟨m.toNat, by omega⟩
  have EE := hide (show inE n i m = 0 by unfold inE; rw [if_neg (by omega)])
  have EP := hide (show inP xs n i m = path (sub xs 0 m) (i - 0) by unfold inP; rw [if_neg (by omega)]; simp)
  rw [EE.out, EP.out]
  obtain ⟨bl, o, ea⟩ := HS.out.place (by omega)
  subst ea
  go_enter Tryd.func20, Tryd.ntmps20
  go_wp2_with (refine step_box1 rfl rfl rfl ?_)
  intro w1 gd hr1 hl1 hb1
  have GD := hide hr1
  clear hr1
  go_wp2_with (refine step_box1 rfl rfl rfl ?_)
  intro w2 gi hr2 hl2 hb2
  have GI : Hid (Blk w2 gi 3 [.int .i64 (i : Int)]) := hide hr2
  have GD2 := hide (GD.out.below hb2 GD.out.lt)
  have B2 := hide (hb1.trans (hb2.mono hb1.size))
  have hcd : w2.cell? ⟨gd, 0, none⟩ = some (.slice (some ⟨bl, o, none⟩) n cap) := by rw [GD2.out.cell]; rfl
  have hci : w2.cell? ⟨gi, 0, none⟩ = some (.int .i64 (i : Int)) := by rw [GI.out.cell]; rfl
  clear hr2 GD hb1 hb2
  go_wp2_with (refine step_alloc zSp rfl ?_)
  intro w3 gl hr3 hl3 hb3
  have GL := hide hr3
  clear hr3
  go_wp2_with (refine step_storeA (vs := spn i (i + 1)) wSp rfl rfl rfl GL.out rfl (spn_one _ _) rfl ?_)
  intro w4 hg4 hbut4
  have B24 := hide (hb3.trans (hbut4.below hl3))
  have GL4 := hide hg4
  have GI4 := hide (GI.out.below B24.out GI.out.lt)
  have GD4 := hide (GD2.out.below B24.out GD2.out.lt)
  have B4 := hide (B2.out.trans (B24.out.mono B2.out.size))
  clear hb3 hbut4 hg4 GL GI GD2 B2 B24 hcd hci
  go_wp2_with (refine step_alloc zFn rfl ?_)
  intro w5 gp hr5 hl5 hb5
  have GP := hide hr5
  have GL5 := hide (GL4.out.below hb5 GL4.out.lt)
  have GI5 := hide (GI4.out.below hb5 GI4.out.lt)
  have GD5 := hide (GD4.out.below hb5 GD4.out.lt)
  have nl : gl ≠ gp := by have := GL4.out.lt; omega
  have ni : gi ≠ gp := by have := GI4.out.lt; omega
  have nd' : gd ≠ gp := by have := GD4.out.lt; omega
  have B5 := hide (B4.out.trans (hb5.mono B4.out.size))
  have hwp : w.heap.size ≤ gp := Nat.le_trans B4.out.size hl5
  have hcp : w5.cell? ⟨gp, 0, none⟩ = some .nilFunc := by rw [GP.out.cell]; rfl
  have hfp := GP.out.free 0
  clear hr5 hb5 GL4 GI4 GD4 B4 hl5 hl3 hl2 hl1
  go_wp2_with fail
  have hg6 := GP.out.set 0 (.func (.func 32) #[] #[.pointer (some ⟨gl, 0, none⟩), .pointer (some ⟨gi, 0, none⟩), .pointer (some ⟨gp, 0, none⟩), .pointer (some ⟨gd, 0, none⟩)])
  have hbut6 := But.setCell w5 gp 0 (.func (.func 32) #[] #[.pointer (some ⟨gl, 0, none⟩), .pointer (some ⟨gi, 0, none⟩), .pointer (some ⟨gp, 0, none⟩), .pointer (some ⟨gd, 0, none⟩)])
  have B6 := hide (B5.out.trans (hbut6.below hwp))
  have E6 := hide (show Env _ gl gi gp gd i bl o n cap xs from ⟨GL5.out.but hbut6 nl, GI5.out.but hbut6 ni, hg6, GD5.out.but hbut6 nd', HS.out.below B6.out, HK.out.below B6.out HK.out.lt⟩)
  refine (incl1_any gl gi gp gd i bl o n cap xs (by omega) m 0 m _ (by omega) (by omega) (by omega) (by omega) E6.out).mono ?_
  rintro r w7 ⟨v, rfl, ⟨q, ho⟩, hb7⟩
  go_wp2
  go_ret2
  exact ⟨_, rfl, ⟨_, ho.base B6.out.size⟩, B6.out.trans (hb7.mono B6.out.size)⟩

end Go.Proofs.YtdggooanpamoeaaDoor

/-
  Slices of truths of the call's own; the law's bits.
-/
namespace Go.Proofs.YtdggooanpamoeaaDoor
open Go.RowKit
set_option linter.unusedVariables false

theorem undO : Tryd.prog.underlying 76 = some (.slice 4) := by kernel_rfl
theorem undOs : Tryd.prog.underlying 76 = some (.slice (Tryd.prog.elem 76)) := by kernel_rfl
theorem elemO : Tryd.prog.elem 76 = 4 := by kernel_rfl
theorem sizeO (w : World) : (sizeOf 4).run Tryd.prog w = .ok 1 w := by kernel_rfl
theorem infoO : (Tryd.prog.info? 4).map (fun i => (i.zero, i.size, i.bytes)) = some (some (.bool false), 1, 1) := by kernel_rfl

def bls (bs : List Bool) : List Value := bs.map Value.bool
theorem bls_one (bs : List Bool) : One (bls bs) := by intro v hv; obtain ⟨b, _, rfl⟩ := List.mem_map.1 hv; rfl
theorem bls_length (bs : List Bool) : (bls bs).length = bs.length := by simp [bls]
/-- A slice of truths of the call's own. -/
def BOwn (w : World) (B : Nat) (v : Value) (bs : List Bool) : Prop := w.ownsRow B 4 1 v bs.length (bls bs)
theorem BOwn.nil (w : World) (B : Nat) : BOwn w B (.slice none 0 0) [] := World.ownsRow_nil _ _ _ _
theorem BOwn.lt {w : World} {B : Nat} {v : Value} {bs : List Bool} (h : BOwn w B v bs) : ∀ k, v.ownBlock = some k → B ≤ k := fun k hk => (World.ownsRow.lt h k hk).1
theorem BOwn.alloc {w : World} {B : Nat} {v : Value} {bs : List Bool} (h : BOwn w B v bs) (o : Obj) : BOwn (w.alloc o) B v bs := World.ownsRow.alloc h o
theorem BOwn.below {w w' : World} {B : Nat} {v : Value} {bs : List Bool} (h : BOwn w B v bs) (hb : Below w.heap.size w w') : BOwn w' B v bs := by
  obtain ⟨h1, h2⟩ := h
  refine ⟨h1, ?_⟩
  rcases h2 with h2 | ⟨g, cap, cur, e, hg, hh, r⟩
  · exact .inl h2
  · refine .inr ⟨g, cap, cur, e, hg, ?_, r⟩
    rw [hb.block g (Array.getElem?_eq_some_iff.1 hh).1]
    exact hh
theorem BOwn.but {w w' : World} {B g : Nat} {v : Value} {bs : List Bool} {cs : List Value} (h : BOwn w B v bs) (hg : Blk w g 26 cs) (hb : But g w w') : BOwn w' B v bs := by
  obtain ⟨h1, h2⟩ := h
  refine ⟨h1, ?_⟩
  rcases h2 with h2 | ⟨k, cap, cur, e, hk, hh, r⟩
  · exact .inl h2
  · refine .inr ⟨k, cap, cur, e, hk, ?_, r⟩
    have hne : k ≠ g := by
      rintro rfl
      rw [hg] at hh
      injection hh with hh
      injection hh with _ h2 _
      exact absurd h2 (by decide)
    rw [hb.block k hne]
    exact hh
/-- Where it lies, and its truths. -/
theorem BOwn.at {w : World} {B : Nat} {v : Value} {bs : List Bool} (h : BOwn w B v bs) : ∃ a cap, v = .slice a bs.length cap ∧ ∀ i, i < bs.length → ∃ g, a = some ⟨g, 0, none⟩ ∧ w.cell? ⟨g, i, none⟩ = some (.bool (bs.getD i false)) := by
  obtain ⟨_, h2⟩ := h
  rcases h2 with ⟨rfl, h0⟩ | ⟨g, cap, cur, rfl, hB, hh, h3, h4, h5, h6⟩
  · exact ⟨none, 0, by rw [h0], fun i hi => by omega⟩
  · refine ⟨_, cap, rfl, fun i hi => ⟨g, rfl, ?_⟩⟩
    rw [cell_of_row w g i cur 4 (0, 0) hh]
    have e : (cur.toList.take (bs.length * 1))[i]? = some (.bool (bs.getD i false)) := by rw [h6]; simp [bls, List.getD, hi]
    rw [List.getElem?_take, if_pos (by omega)] at e
    simpa using e
theorem step_appendO {dst : Option Tmp} {s x : Operand} {ty : TypeId} {pos : String} {aft : Array Edge} {gd : Option (Nat × Bool)} {ops : Array Oper} {rest : List Oper} {a : Act} {w : World} {Q : Exit → Act → World → Prop}
    {B : Nat} {v : Value} {bs : List Bool} {g : Nat} {b : Bool}
    (hw : Region.wanted ⟨dst, .call { callee := .builtin .append, args := #[s, x], argTypes := #[76, 76] }, ty, pos, aft, gd⟩ (yielded ops a.tmps) = true)
    (hs : a.eval s = v) (hx : a.eval x = .slice (some ⟨g, 0, none⟩) 1 1) (hown : BOwn w B v bs) (hy : w.cell? ⟨g, 0, none⟩ = some (.bool b)) (hlen : bs.length ≤ 4096) (hB : B ≤ w.heap.size)
    (h : ∀ v' w', BOwn w' B v' (bs ++ [b]) → w.grownBy w' v.ownBlock → wpList Tryd.prog ops Q rest (a.put dst v') w') :
    wpList Tryd.prog ops Q (⟨dst, .call { callee := .builtin .append, args := #[s, x], argTypes := #[76, 76] }, ty, pos, aft, gd⟩ :: rest) a w := by
  obtain ⟨i0, hi, hz0, hz1, hz2⟩ := info_parts infoO
  refine BigFrame.wpList_want hw fun K hK => ?_
  refine wp_append_own _ s x 76 rfl B 4 i0 (.bool false) 1 1 undO hi hz0 hz1 hz2 rfl (by decide) v _ _ hs hown ⟨g, 0, none⟩ 1 1 [.bool b] hx rfl ?_ (bls_one [b]) (by unfold maxLen; omega) (by omega) hB ?_
  · intro j u hu
    match j, hu with
    | 0, hu => simp at hu; subst hu; rw [Addr.add_lit]; exact hy
    | j + 1, hu => simp at hu
  · intro v' w' h1 h2 _
    exact hK _ _ (h v' w' (by unfold BOwn; rw [List.length_append]; simpa [bls] using h1) h2)
theorem Blk.grownO {w w' : World} {g : Nat} {cs : List Value} {B : Nat} {v : Value} {bs : List Bool} (h : Blk w g 26 cs) (ho : BOwn w B v bs) (hg : w.grownBy w' v.ownBlock) : Blk w' g 26 cs := by
  have : w'.heap[g]? = w.heap[g]? := hg.block g h.lt (fun e2 => by
    rcases ho.2 with ⟨e3, _⟩ | ⟨k, cap', cur, e3, hB, hh, _⟩
    · rw [e3] at e2; cases e2
    · rw [e3] at e2
      cases e2
      rw [h] at hh
      injection hh with hh
      injection hh with _ h2 _
      exact absurd h2 (by decide))
  unfold Blk
  rw [this]
  exact h
/-- Digests through the growth of a slice of truths. -/
theorem Ds.grown {w w' : World} {a : Option Addr} {n cap : Nat} {xs : List Int} {B : Nat} {v : Value} {bs : List Bool} (h : Ds w a n cap xs) (ho : BOwn w B v bs) (hg : w.grownBy w' v.ownBlock) (hk : ∀ x, a = some x → ∃ cs, Blk w x.block 26 cs) : Ds w' a n cap xs := by
  refine ⟨h.hcap, h.hmax, h.hnil, ⟨h.sl.hlen, h.sl.hcap, h.sl.hmax, h.sl.hreach, h.sl.hbyte, h.sl.hnil, fun h0 => ?_⟩⟩
  obtain ⟨b, off, e, hc⟩ := h.sl.hcell h0
  refine ⟨b, off, e, fun i hi => ?_⟩
  obtain ⟨cs, hcs⟩ := hk _ e
  have hblk : w'.heap[b]? = w.heap[b]? := Eq.trans (hcs.grownO ho hg) (Eq.symm hcs)
  rw [World.cell?_of_block (w := w) hblk]
  exact hc i hi


end Go.Proofs.YtdggooanpamoeaaDoor

/-
  The program's join, and the root that a proof leads to.
-/
namespace Go.Proofs.YtdggooanpamoeaaDoor
open Go.RowKit
set_option linter.unusedVariables false

/-- The digest of the part of which d has that half, and x the other one. -/
def jn (h : Int) (d x : List Int) : List Int := if h = 1 then nd x d else nd d x
theorem jn_length (h : Int) (d x : List Int) : (jn h d x).length = 32 := by unfold jn; split <;> exact nd_length _ _
theorem jn_isB (h : Int) (d x : List Int) : isB (jn h d x) := by unfold jn; split <;> exact nd_isB _ _
/-- What the first k digests of a proof lead to. -/
def fu (hs xs d : List Int) : Nat → List Int
  | 0 => d
  | k + 1 => jn (hs.getD k 0) (fu hs xs d k) (dat xs k)
theorem fu_length {hs xs d : List Int} (h : d.length = 32) : ∀ k, (fu hs xs d k).length = 32
  | 0 => h
  | k + 1 => jn_length _ _ _
theorem fu_isB {hs xs d : List Int} (h : isB d) : ∀ k, isB (fu hs xs d k)
  | 0 => h
  | k + 1 => jn_isB _ _ _
theorem wp_loadWG {dst : Option Tmp} {ty : TypeId} {pos : String} {aft : Array Edge} {gd : Option (Nat × Bool)} {a : Act} {w : World} {K : Act → World → Prop} {Q : Exit → Act → World → Prop} {T : TypeId} {n : Nat} (hT : Wide T n) {x : Operand} {g : Nat} {t : TypeId} {cs : List Value} (hx : a.eval x = .pointer (some ⟨g, 0, none⟩)) (hg : Blk w g t cs) (hn : cs.length = n)
    (h : K (a.put dst (.agg cs.toArray)) w) : Oper.wp Tryd.prog ⟨dst, .load T x, ty, pos, aft, gd⟩ a w K Q :=
  wp_loadW hT rfl hx hg cs hn (by rw [List.drop_zero, List.take_of_length_le (by omega)]) h
theorem spl_same (xs ys : List Int) (hx : xs.length = 32) (hy : ys.length = 32) : spl (u8s xs) (u8s ys) 0 = u8s ys := by
  unfold spl
  rw [List.drop_of_length_le (by rw [u8s_length, u8s_length]; omega)]
  simp

set_option maxRecDepth 100000 in
set_option maxHeartbeats 1000000 in
theorem join_any (h : Int) (d x : List Int) (w : World) (hd : d.length = 32) (hdb : isB d) (hx : x.length = 32) (hxb : isB x) (hk : KT w) :
    Calls Tryd.prog 26 #[.int .i64 h, .agg (u8s d).toArray, .agg (u8s x).toArray] w fun e w' => e = .returned (.agg (u8s (jn h d x)).toArray) ∧ Below w.heap.size w w' := by
  have HD := hide hd
  have HX := hide hx
  have HDB := hide hdb
  have HXB := hide hxb
  have HK := hide hk
  have HDU := hide (show (u8s d).length = 32 by rw [u8s_length, hd])
  have HXU := hide (show (u8s x).length = 32 by rw [u8s_length, hx])
  clear hd hx hdb hxb hk
  by_cases h1 : h = 1
  · subst h1
    rw [show jn 1 d x = nd x d from rfl]
    go_enter Tryd.func26, Tryd.ntmps26
    go_wp2_with (refine step_box rfl rfl ?_)
    intro w1 g4 hr1 hl1 hb1
    have G4 := hide hr1
    clear hr1
    go_wp2_with (refine step_box rfl rfl ?_)
    intro w2 g5 hr2 hl2 hb2
    have G5 := hide hr2
    have G42 := hide (G4.out.below hb2 G4.out.lt)
    clear hr2
    go_wp2_with (refine step_alloc zD rfl ?_)
    intro w3 g6 hr3 hl3 hb3
    have G6 := hide hr3
    have G53 := hide (G5.out.below hb3 G5.out.lt)
    have G43 := hide (G42.out.below hb3 G42.out.lt)
    have B3 := hide ((hb1.trans (hb2.mono hb1.size)).trans (hb3.mono (Nat.le_trans hb1.size hb2.size)))
    have hw6 : w.heap.size ≤ g6 := Nat.le_trans (Nat.le_trans hb1.size hb2.size) hl3
    clear hr3 hb1 hb2 hb3 G4 G42 G5
    go_wp2_with (first | (refine step_loadA wD rfl rfl G53.out HXU.out ?_) | (refine step_loadA wD rfl rfl G43.out HDU.out ?_) | fail)
    refine (node_any x d _ HX.out HXB.out HD.out HDB.out (HK.out.below B3.out HK.out.lt)).mono ?_
    rintro e w4 ⟨rfl, hb4⟩
    have G64 := hide (G6.out.below hb4 G6.out.lt)
    have HML := hide (show (u8s (nd x d)).length = 32 by rw [u8s_length, nd_length])
    go_wp2_with (refine step_storeA wD rfl rfl rfl G64.out HML.out (One.u8 _) rfl ?_; intro w5 hg5 hbut5)
    refine bodyPost_ret (results_wide rfl wD _ _ rfl hg5 HML.out) rfl ⟨rfl, ?_⟩
    exact (B3.out.trans (hb4.mono B3.out.size)).trans (hbut5.below hw6)
  · rw [show jn h d x = nd d x from if_neg h1]
    go_enter Tryd.func26, Tryd.ntmps26
    go_wp2_with (refine step_box rfl rfl ?_)
    intro w1 g4 hr1 hl1 hb1
    have G4 := hide hr1
    clear hr1
    go_wp2_with (refine step_box rfl rfl ?_)
    intro w2 g5 hr2 hl2 hb2
    have G5 := hide hr2
    have G42 := hide (G4.out.below hb2 G4.out.lt)
    clear hr2
    go_wp2_with (refine step_alloc zD rfl ?_)
    intro w3 g6 hr3 hl3 hb3
    have G6 := hide hr3
    have G53 := hide (G5.out.below hb3 G5.out.lt)
    have G43 := hide (G42.out.below hb3 G42.out.lt)
    have B3 := hide ((hb1.trans (hb2.mono hb1.size)).trans (hb3.mono (Nat.le_trans hb1.size hb2.size)))
    have hw6 : w.heap.size ≤ g6 := Nat.le_trans (Nat.le_trans hb1.size hb2.size) hl3
    clear hr3 hb1 hb2 hb3 G4 G42 G5
    go_wp2_with (first | (refine step_loadA wD rfl rfl G43.out HDU.out ?_) | (refine step_loadA wD rfl rfl G53.out HXU.out ?_) | fail)
    refine (node_any d x _ HD.out HDB.out HX.out HXB.out (HK.out.below B3.out HK.out.lt)).mono ?_
    rintro e w4 ⟨rfl, hb4⟩
    have G64 := hide (G6.out.below hb4 G6.out.lt)
    have HML := hide (show (u8s (nd d x)).length = 32 by rw [u8s_length, nd_length])
    go_wp2_with (refine step_storeA wD rfl rfl rfl G64.out HML.out (One.u8 _) rfl ?_; intro w5 hg5 hbut5)
    refine bodyPost_ret (results_wide rfl wD _ _ rfl hg5 HML.out) rfl ⟨rfl, ?_⟩
    exact (B3.out.trans (hb4.mono B3.out.size)).trans (hbut5.below hw6)

/-- What the loop keeps. -/
structure RM (w wr : World) (g8 g12 : Nat) (v : Value) (hs D : List Int) : Prop where
  own : OwnH wr w.heap.size v hs
  ne : v.ownBlock ≠ some g12
  res : Blk wr g8 26 (u8s (zer 32))
  d : Blk wr g12 26 (u8s D)
  bel : Below w.heap.size w wr
theorem RM.below {w wr w' : World} {g8 g12 : Nat} {v : Value} {hs D : List Int} (h : RM w wr g8 g12 v hs D) (hb : Below wr.heap.size wr w') : RM w w' g8 g12 v hs D :=
  ⟨h.own.below hb, h.ne, h.res.on hb, h.d.on hb, on_below h.bel hb⟩
theorem RM.set {w wr w' : World} {g8 g12 : Nat} {v : Value} {hs D D' : List Int} (h : RM w wr g8 g12 v hs D) (hb : But g12 wr w') (hd : Blk w' g12 26 (u8s D')) (hg : w.heap.size ≤ g12) (h8 : g8 ≠ g12) : RM w w' g8 g12 v hs D' :=
  ⟨h.own.but hb h.ne, h.ne, h.res.but hb h8, hd, h.bel.trans (hb.below hg)⟩

set_option maxRecDepth 100000 in
set_option maxHeartbeats 1000000 in
theorem root7_bad (leaf : List Int) (i n : Int) (a : Value) (w : World) (h : i < 0 ∨ n ≤ i ∨ 281474976710656 < n) :
    Calls Tryd.prog 8 #[.agg (u8s leaf).toArray, .int .i64 i, .int .i64 n, a] w fun r w' => r = .returned (.tuple #[.agg (u8s (zer 32)).toArray, .int .i64 40]) ∧ Below w.heap.size w w' := by
  have H := hide (fun v => toLeaf_bad i n v h)
  clear h
  go_enter Tryd.func8, Tryd.ntmps8
  go_wp2_with (refine step_box rfl rfl ?_)
  intro w1 g4 hr1 hl1 hb1
  have G4 := hide hr1
  clear hr1
  go_wp2_with (refine step_alloc zD rfl ?_)
  intro w2 g8 hr2 hl2 hb2
  have G8 := hide hr2
  have G42 := hide (G4.out.below hb2 G4.out.lt)
  have B2 := hide (hb1.trans (hb2.mono hb1.size))
  have hw8 : w.heap.size ≤ g8 := Nat.le_trans hb1.size hl2
  clear hr2 hb1 hb2 G4
  go_wp2_with fail
  refine (H.out _).mono ?_
  rintro r w3 ⟨rfl, hb3⟩
  have G83 := hide (G8.out.on hb3)
  have B3 := hide (on_below B2.out hb3)
  clear hb3
  go_wp2_with (first | (refine step_buildD rfl ?_) | (refine step_storeA wD rfl rfl rfl G83.out (by rw [u8s_length, zer_length]) (One.u8 _) rfl ?_; intro w4 hg4 hbut4))
  refine bodyPost_ret (results_wide2 rfl wD _ _ rfl hg4 (by rw [u8s_length, zer_length])) rfl ⟨rfl, ?_⟩
  exact B3.out.trans (hbut4.below hw8)
set_option maxRecDepth 100000 in
set_option maxHeartbeats 1000000 in
theorem root7_len (leaf : List Int) (i n : Nat) (a : Option Addr) (l cap : Nat) (w : World) (h1 : i < n) (h2 : n ≤ 281474976710656) (hl : l ≠ (hvL i 0 n).length) :
    Calls Tryd.prog 8 #[.agg (u8s leaf).toArray, .int .i64 (i : Int), .int .i64 (n : Int), .slice a l cap] w fun r w' => r = .returned (.tuple #[.agg (u8s (zer 32)).toArray, .int .i64 70]) ∧ Below w.heap.size w w' := by
  have H := hide (fun v => toLeaf_ok i n v h1 h2)
  have hl' : ((l : Int) != ((hvL i 0 n).length : Int)) = true := by simp; omega
  generalize hvL i 0 n = L at *
  go_enter Tryd.func8, Tryd.ntmps8
  go_wp2_with (refine step_box rfl rfl ?_)
  intro w1 g4 hr1 hl1 hb1
  have G4 := hide hr1
  clear hr1
  go_wp2_with (refine step_alloc zD rfl ?_)
  intro w2 g8 hr2 hl2 hb2
  have G8 := hide hr2
  have G42 := hide (G4.out.below hb2 G4.out.lt)
  have B2 := hide (hb1.trans (hb2.mono hb1.size))
  have hw8 : w.heap.size ≤ g8 := Nat.le_trans hb1.size hl2
  clear hr2 hb1 hb2 G4
  go_wp2_with fail
  refine (H.out _).mono ?_
  rintro r w3 ⟨v3, rfl, ho3, hb3⟩
  obtain ⟨a3, c3, rfl⟩ := ho3.slice
  have G83 := hide (G8.out.on hb3)
  have B3 := hide (on_below B2.out hb3)
  clear hb3 ho3
  go_wp2_with (first | (refine step_buildD rfl ?_) | (refine step_storeA wD rfl rfl rfl G83.out (by rw [u8s_length, zer_length]) (One.u8 _) rfl ?_; intro w4 hg4 hbut4))
  refine bodyPost_ret (results_wide2 rfl wD _ _ rfl hg4 (by rw [u8s_length, zer_length])) rfl ⟨rfl, ?_⟩
  exact B3.out.trans (hbut4.below hw8)
set_option maxRecDepth 100000 in
set_option maxHeartbeats 2000000 in
theorem root7_ok (leaf : List Int) (i n : Nat) (a : Option Addr) (l cap : Nat) (xs : List Int) (w : World) (h1 : i < n) (h2 : n ≤ 281474976710656) (hl : l = (hvL i 0 n).length) (hlf : leaf.length = 32) (hlb : isB leaf) (hs : Ds w a l cap xs) (hk : KT w) :
    Calls Tryd.prog 8 #[.agg (u8s leaf).toArray, .int .i64 (i : Int), .int .i64 (n : Int), .slice a l cap] w fun r w' => r = .returned (.tuple #[.agg (u8s (fu (hvL i 0 n) xs leaf l)).toArray, .int .i64 0]) ∧ Below w.heap.size w w' := by
  have H := hide (fun v => toLeaf_ok i n v h1 h2)
  have hlen := hvL_few (Nat.zero_le i) (show i < 0 + n by omega) h2
  have HS := hide hs
  have HK := hide hk
  have HLL := hide (show (u8s leaf).length = 32 by rw [u8s_length, hlf])
  have HFL := hide (fun k => fu_length (hs := hvL i 0 n) (xs := xs) hlf k)
  have HFB := hide (fun k => fu_isB (hs := hvL i 0 n) (xs := xs) hlb k)
  generalize hvL i 0 n = L at *
  have HLN : Hid (L.length = l) := hide hl.symm
  rw [← hl] at hlen
  clear hs hk hlf hlb hl
  go_enter Tryd.func8, Tryd.ntmps8
  go_wp2_with (refine step_box rfl rfl ?_)
  intro w1 g4 hr1 hl1 hb1
  have G4 := hide hr1
  clear hr1
  go_wp2_with (refine step_alloc zD rfl ?_)
  intro w2 g8 hr2 hl2 hb2
  have G8 := hide hr2
  have G42 := hide (G4.out.below hb2 G4.out.lt)
  have B2 := hide (hb1.trans (hb2.mono hb1.size))
  have hw8 : w.heap.size ≤ g8 := Nat.le_trans hb1.size hl2
  clear hr2 hb1 hb2 G4
  go_wp2_with fail
  refine (H.out _).mono ?_
  rintro r w3 ⟨v3, rfl, ho3, hb3⟩
  obtain ⟨a3, c3, rfl⟩ := ho3.slice
  rw [HLN.out] at ho3 ⊢
  have G83 := hide (G8.out.on hb3)
  have G43 := hide (G42.out.on hb3)
  have O3 := hide (ho3.lower B2.out.size)
  have B3 := hide (on_below B2.out hb3)
  have hs23 := hb3.size
  clear hb3 ho3 G8 G42
  go_wp2_with (first | (refine step_loadA wD rfl rfl G43.out HLL.out ?_) | (refine step_alloc zD rfl ?_))
  intro w4 g12 hr4 hl4 hb4
  have G12 := hide hr4
  have h812 : g8 ≠ g12 := by have := G83.out.lt; omega
  clear hr4
  go_wp2_with (refine step_storeA wD rfl rfl rfl G12.out HLL.out (One.u8 _) rfl ?_)
  intro w5 hg5 hbut5
  have hw12 : w.heap.size ≤ g12 := Nat.le_trans B3.out.size hl4
  have R5 : Hid (RM w w5 g8 g12 (.slice a3 l c3) L leaf) := hide ⟨(O3.out.below hb4).but hbut5 (fun hk => by have := (O3.out.lt _ hk).2; omega), fun hk => by have := (O3.out.lt _ hk).2; omega, (G83.out.on hb4).but hbut5 h812, hg5, new_below B3.out hb4 hl4 hbut5⟩
  clear hg5 hbut5 hb4 G12 O3 B3 G83 G43
  go_wp2
  go_loopw [34] (fun s wr => ∃ k : Nat, k ≤ l ∧ s = .int .i64 (k : Int) ∧ RM w wr g8 g12 (.slice a3 l c3) L (fu L xs leaf k)) (fun s _ => l - (intOf s).toNat)
  case atStart => exact ⟨0, by omega, rfl, R5.out⟩
  case round =>
    obtain ⟨k, hkl, rfl, hR⟩ := hrel
    have R := hide hR
    clear hR R5
    by_cases hlt : k < l
    · have hlt' : (k : Int) < (l : Int) := by omega
      obtain ⟨b, o, rfl⟩ := HS.out.place (by omega)
      have hat := d_at b o l cap k (k : Int) rfl hlt
      have HDL := hide (dat_length HS.out.hlen hlt)
      have HDB := hide (dat_isB HS.out.hbyte k)
      have HUL := hide (show (u8s (dat xs k)).length = 32 by rw [u8s_length, HDL.out])
      have HRG := hide ((HS.out.below R.out.bel).range k hlt)
      obtain ⟨h, hh⟩ : ∃ h, L[k]? = some h := ⟨_, List.getElem?_eq_getElem (show k < L.length by rw [HLN.out]; exact hlt)⟩
      have HNX : Hid (fu L xs leaf (k + 1) = jn h (fu L xs leaf k) (dat xs k)) := hide (by show jn (L.getD k 0) _ _ = _; rw [List.getD, hh]; rfl)
      obtain ⟨gH, rfl⟩ : ∃ gH, a3 = some ⟨gH, 0, none⟩ := by
        rcases R.out.own.lies with ⟨e, h0⟩ | ⟨g, c, cs, e, _⟩
        · rw [h0] at hh; cases hh
        · injection e with e1 _ _; exact ⟨g, e1⟩
      have HFL2 := hide (HFL.out k)
      have HFB2 := hide (HFB.out k)
      generalize fu L xs leaf k = Dk at *
      go_wp2_with (first | (refine step_loadR wD rfl rfl _ HRG.out HUL.out ?_) | (refine step_alloc zD rfl ?_))
      intro w6 g14 hr6 hl6 hb6
      have G14 := hide hr6
      clear hr6
      go_wp2_with (refine step_storeA wD rfl rfl rfl G14.out HUL.out (One.u8 _) rfl ?_)
      intro w7 hg7 hbut7
      have hn14 : g12 ≠ g14 := by have := R.out.d.lt; omega
      have B67 := hide (hb6.trans (hbut7.below hl6))
      have R7 := hide (R.out.below B67.out)
      have G7 := hide hg7
      clear hg7 hbut7 hb6 G14 R HRG hat B67
      go_wp2_with fail
      refine wp_region_noPanic ?_
      have R0 := hide (R7.out.below ((Below.refl _ _).drew))
      have G0 := hide (G7.out.on ((Below.refl _ _).drew))
      have hu := aD.und
      have HI1 : Hid ((Tryd.prog.info? 26).map (·.size) = some (u8s (dat xs k)).length) := hide (by rw [wD.size, HUL.out])
      have hS : ∀ v : World, OwnH v w.heap.size (.slice (some ⟨gH, 0, none⟩) l c3) L → Blk v g14 26 (u8s (dat xs k)) → v.cell? ⟨gH, k, none⟩ = some (.int .i64 h) ∧ v.rangeAt g14 0 (u8s (dat xs k)) := fun v h1 h2 => ⟨h1.cell k h hh, h2.range 0 _ (by simp)⟩
      refine wp_region_held_drew (S := fun v : World => v.cell? ⟨gH, k, none⟩ = some (.int .i64 h) ∧ v.rangeAt g14 0 (u8s (dat xs k))) (by kernel_rfl) (hS _ R0.out.own G0.out) (fun hHeld => ?_)
      refine takeH 0 39 (.slice (some ⟨gH, 0, none⟩) l c3) hHeld rfl rfl (by kernel_rfl) (by kernel_rfl) (by kernel_rfl) (fun _ _ _ h => h) (Or.inl ⟨by rfl, fun w _ => by go_simp⟩) ?_
      simp only [Act.put, List.setIfInBounds_toArray, List.set_cons_zero, List.set_cons_succ]
      refine takeH 1 40 (.int .i64 (k : Int)) hHeld rfl rfl (by kernel_rfl) (by kernel_rfl) (by kernel_rfl) (fun _ _ _ h => h) (Or.inl ⟨by rfl, fun w _ => by go_simp⟩) ?_
      simp only [Act.put, List.setIfInBounds_toArray, List.set_cons_zero, List.set_cons_succ]
      refine takeH 2 41 (.pointer (some ⟨gH, k, none⟩)) hHeld rfl rfl (by kernel_rfl) (by kernel_rfl) (by kernel_rfl) (fun _ _ _ h => h) (Or.inl ⟨by rfl, fun w _ => run_op rfl ((atH gH l c3 k _ rfl hlt) w)⟩) ?_
      simp only [Act.put, List.setIfInBounds_toArray, List.set_cons_zero, List.set_cons_succ]
      refine takeH 3 42 (.int .i64 h) hHeld rfl rfl (by kernel_rfl) (by kernel_rfl) (by kernel_rfl) (fun _ _ _ h => h) (Or.inl ⟨by rfl, fun w hw => by have hw' : w.cell? ⟨gH, k, none⟩ = some (.int .i64 h) := (fun h => h.1) hw; go_simp⟩) ?_
      simp only [Act.put, List.setIfInBounds_toArray, List.set_cons_zero, List.set_cons_succ]
      refine takeH 5 44 (.agg (u8s (dat xs k)).toArray) hHeld rfl rfl (by kernel_rfl) (by kernel_rfl) (by kernel_rfl) (fun _ _ _ h => h) (yieldsIf_load_mid (by rfl) _ _ rfl g14 0 rfl _ _ (fun w h => h.2) hu rfl HI1.out) ?_
      simp only [Act.put, List.setIfInBounds_toArray, List.set_cons_zero, List.set_cons_succ]
      refine wpAnyH_ready (rs := [4]) (by kernel_rfl) (by simp) (AllReadyH.cons rfl (fun K hK => ?_) AllReadyH.nil)
      rw [if_pos (by rfl)]
      refine wp_loadWG wD rfl R0.out.d (by rw [u8s_length]; exact HFL2.out) ?_
      refine hK.out _ _ (hS _ R0.out.own G0.out) (fun hHeld => ?_)
      clear hK K
      simp only [Act.put]
      refine wpAnyH_ready (rs := [6]) (by kernel_rfl) (by simp) (AllReadyH.cons rfl (fun K hK => ?_) AllReadyH.nil)
      rw [if_pos (by rfl)]
      go_simp
      refine (join_any h Dk (dat xs k) _ HFL2.out HFB2.out HDL.out HDB.out (HK.out.below R0.out.bel HK.out.lt)).mono ?_
      rintro r v1 ⟨rfl, hv1⟩
      have R1 := hide (R0.out.below hv1)
      have G1 := hide (G0.out.on hv1)
      refine hK.out _ _ (hS _ R1.out.own G1.out) (fun hHeld => ?_)
      clear hK K
      refine wpAnyH_ready (rs := [7]) (by kernel_rfl) (by simp) (AllReadyH.cons rfl (fun K hK => ?_) AllReadyH.nil)
      rw [if_pos (by rfl)]
      refine wp_storeW wD rfl rfl rfl R1.out.d (by rw [u8s_length]; exact jn_length _ _ _) (One.u8 _) (by rw [u8s_length, HFL2.out]; omega) ?_
      intro v2 hgs hbuts
      rw [spl_same _ _ HFL2.out (jn_length _ _ _)] at hgs
      have R2 := hide (R1.out.set hbuts hgs hw12 h812)
      have G2 := hide (G1.out.but hbuts (Ne.symm hn14))
      refine hK.out _ _ (hS _ R2.out.own G2.out) (fun hHeld => ?_)
      clear hK K
      simp only [Act.put]
      refine wpAnyH_done (by kernel_rfl) ?_ _
      refine NoPanic.normal ?_
      clear hHeld hS hu
      go_wp2
      go_roundw
      case rel => exact ⟨k + 1, by omega, by simp, by rw [HNX.out]; exact R2.out⟩
      case measure => simp only [intOf]; omega
    · obtain rfl : k = l := by omega
      have hlt' : ¬ ((k : Int) < (k : Int)) := by omega
      have HRL := hide (show (u8s (fu L xs leaf k)).length = 32 by rw [u8s_length, HFL.out k])
      go_wp2_with (first | (refine step_loadA wD rfl rfl R.out.d HRL.out ?_) | (refine step_storeA wD rfl rfl rfl R.out.res HRL.out (One.u8 _) (by rw [u8s_length, zer_length]) ?_; intro w9 hg9 hbut9))
      refine bodyPost_ret (results_wide2 rfl wD _ _ rfl hg9 HRL.out) rfl ⟨rfl, ?_⟩
      exact R.out.bel.trans (hbut9.below hw8)

end Go.Proofs.YtdggooanpamoeaaDoor

/-
  The document's root that a proof leads to.
-/
namespace Go.Proofs.YtdggooanpamoeaaDoor
open Go.RowKit
set_option linter.unusedVariables false

theorem fu_app (A B xs d : List Int) : ∀ k, k ≤ A.length → fu (A ++ B) xs d k = fu A xs d k
  | 0, _ => rfl
  | k + 1, h => by
    show jn ((A ++ B).getD k 0) (fu (A ++ B) xs d k) _ = jn (A.getD k 0) (fu A xs d k) _
    rw [fu_app A B xs d k (by omega)]
    congr 1
    simp [List.getD, List.getElem?_append_left (show k < A.length by omega)]
theorem dat_take (xs : List Int) (m k : Nat) (h : k < m) : dat (xs.take (32 * m)) k = dat xs k := by
  unfold dat
  rw [List.drop_take, List.take_take]
  congr 1
  omega
theorem fu_take (hs xs d : List Int) (m : Nat) : ∀ k, k ≤ m → fu hs (xs.take (32 * m)) d k = fu hs xs d k
  | 0, _ => rfl
  | k + 1, h => by
    show jn _ (fu hs _ d k) _ = jn _ (fu hs xs d k) _
    rw [fu_take hs xs d m k (by omega), dat_take xs m k (by omega)]
theorem fu_snoc (A xs d : List Int) (h : Int) : fu (A ++ [h]) xs d (A.length + 1) = jn h (fu A (xs.take (32 * A.length)) d A.length) (dat xs A.length) := by
  show jn ((A ++ [h]).getD A.length 0) (fu (A ++ [h]) xs d A.length) _ = _
  rw [fu_app A [h] xs d _ (Nat.le_refl _), fu_take A xs d A.length _ (Nat.le_refl _)]
  congr 1
  simp [List.getD]

set_option maxRecDepth 100000 in
set_option maxHeartbeats 2000000 in
theorem upR_any (leaf : List Int) (i : Nat) (hlf : leaf.length = 32) (hlb : isB leaf) : ∀ (f b n l : Nat) (a : Option Addr) (cap : Nat) (xs : List Int) (w : World), n ≤ f → b ≤ i → i < b + n → b + n ≤ 281474976710656 → l = (hvL i b n).length → Ds w a l cap xs →
    Calls Tryd.prog 28 #[.agg (u8s leaf).toArray, .int .i64 ((i : Int) - (b : Int)), .int .i64 (n : Int), .slice a l cap] w fun r w' => r = .returned (.agg (u8s (fu (hvL i b n) xs leaf l)).toArray) ∧ Below w.heap.size w w'
  | 0, b, n, l, a, cap, xs, w, h, _, _, _, _, _ => by omega
  | f + 1, b, n, l, a, cap, xs, w, h, h1, h2, h3, hl, hs => by
    have ih := hide (fun b n l a cap xs w => upR_any leaf i hlf hlb f b n l a cap xs w)
    have HLL := hide (show (u8s leaf).length = 32 by rw [u8s_length, hlf])
    have HS := hide hs
    have hcap := hs.hcap
    have hmax := hs.hmax
    clear hs
    by_cases hn : n = 1
    · subst hn
      rw [hvL_one] at hl ⊢
      subst hl
      rw [show fu [] xs leaf ([] : List Int).length = leaf from rfl]
      clear ih
      go_enter Tryd.func28, Tryd.ntmps28
      go_wp2_with (refine step_box rfl rfl ?_)
      intro w1 g4 hr1 hl1 hb1
      have G4 := hide hr1
      clear hr1
      go_wp2_with (refine step_alloc zD rfl ?_)
      intro w2 g8 hr2 hl2 hb2
      have G8 := hide hr2
      have G42 := hide (G4.out.below hb2 G4.out.lt)
      have B2 := hide (hb1.trans (hb2.mono hb1.size))
      have hw8 : w.heap.size ≤ g8 := Nat.le_trans hb1.size hl2
      have h48 : g4 ≠ g8 := by have := G4.out.lt; omega
      clear hr2 hb1 hb2 G4
      go_wp2_with (first | (refine step_loadA wD rfl rfl G42.out HLL.out ?_) | (refine step_storeA wD rfl rfl rfl G8.out HLL.out (One.u8 _) rfl ?_; intro w3 hg3 hbut3))
      refine bodyPost_ret (results_wide rfl wD _ _ rfl hg3 HLL.out) rfl ⟨rfl, ?_⟩
      exact B2.out.trans (hbut3.below hw8)
    · have hn2 : 2 ≤ n := by omega
      have hn' : ¬ ((n : Int) = 1) := by omega
      have hh := hf_bd n hn2 (by omega)
      have HH := hide (fun v => half7_any n v hn2 (by omega))
      by_cases hc : i < b + hf n
      · have hlen := hvL_few h1 hc (by omega)
        rw [hvL_lo hn2 (by omega) h1 hc] at hl ⊢
        have IH := hide (fun (l : Nat) (hl : l = (hvL i b (hf n)).length) a cap xs w hd => ih.out b (hf n) l a cap xs w (by omega) h1 hc (by omega) hl hd)
        generalize hvL i b (hf n) = L at *
        clear ih
        generalize hf n = k at *
        obtain ⟨q, hq⟩ : ∃ q, q = L.length := ⟨_, rfl⟩
        have hl1 : l = q + 1 := by rw [hl, List.length_append, hq]; rfl
        obtain ⟨pb, po, rfl⟩ := HS.out.place (by omega)
        have HF : Hid (fu (L ++ [0]) xs leaf l = nd (fu L (xs.take (32 * q)) leaf q) (dat xs q)) := hide (by rw [hl1, hq]; exact fu_snoc L xs leaf 0)
        replace IH := hide (fun w (hd : Ds w (some ⟨pb, po, none⟩) l cap xs) => IH.out q hq (some ⟨pb, po, none⟩) cap (xs.take (32 * q)) w (Ds.take hd q (by omega)))
        have hat := d_at pb po l cap q ((l : Int) - 1) (by omega) (by omega)
        have hto := d_to pb po l cap q ((l : Int) - 1) (by omega) (by omega)
        have HUL := hide (show (u8s (dat xs q)).length = 32 by rw [u8s_length, dat_length HS.out.hlen (show q < l by omega)])
        have HXD := hide (dat_length HS.out.hlen (show q < l by omega))
        have HXB := hide (dat_isB HS.out.hbyte q)
        have HDD := hide (fu_length (hs := L) (xs := xs.take (32 * q)) hlf q)
        have HDB := hide (fu_isB (hs := L) (xs := xs.take (32 * q)) hlb q)
        generalize fu L (xs.take (32 * q)) leaf q = Dq at *
        have hc' : (i : Int) - (b : Int) < (k : Int) := by omega
        have HL1 := hide hl1
        have hl2 : 1 ≤ l := by omega
        clear hl hq hl1
        go_enter Tryd.func28, Tryd.ntmps28
        go_wp2_with (refine step_box rfl rfl ?_)
        intro w1 g4 hr1 hl1 hb1
        have G4 := hide hr1
        clear hr1
        go_wp2_with (refine step_alloc zD rfl ?_)
        intro w2 g8 hr2 hl2 hb2
        have G8 := hide hr2
        have G42 := hide (G4.out.below hb2 G4.out.lt)
        have B2 := hide (hb1.trans (hb2.mono hb1.size))
        have hw8 : w.heap.size ≤ g8 := Nat.le_trans hb1.size hl2
        have h48 : g4 ≠ g8 := by have := G4.out.lt; omega
        clear hr2 hb1 hb2 G4
        go_wp2_with fail
        refine (HH.out _).mono ?_
        rintro r w' ⟨rfl, rfl⟩
        have HRG := hide ((HS.out.below B2.out).range q (by have := HL1.out; omega))
        go_wp2_with (first | (refine step_loadR wD rfl rfl _ HRG.out HUL.out ?_) | (refine step_alloc zD rfl ?_))
        intro w3 g10 hr3 hl3 hb3
        have G10 := hide hr3
        clear hr3
        go_wp2_with (refine step_storeA wD rfl rfl rfl G10.out HUL.out (One.u8 _) rfl ?_)
        intro w4 hg4 hbut4
        have B4 := hide (new_below B2.out hb3 hl3 hbut4)
        have X4 := hide (hb3.trans (hbut4.below hl3))
        have L4 := hide (G42.out.on X4.out)
        have R4 := hide (G8.out.on X4.out)
        have X5 := hide hg4
        have h810 : g10 ≠ g8 := by have := G8.out.lt; omega
        clear hg4 hbut4 hb3 G10 HRG G42 G8 X4 hat
        go_wp2_with fail
        refine wp_region_noPanic ?_
        have B0 := hide (B4.out.drew)
        have L0 := hide (L4.out.on ((Below.refl _ _).drew))
        have R0 := hide (R4.out.on ((Below.refl _ _).drew))
        have X0 := hide (X5.out.on ((Below.refl _ _).drew))
        have hu := aD.und
        have HI1 : Hid ((Tryd.prog.info? 26).map (·.size) = some (u8s leaf).length) := hide (by rw [wD.size, HLL.out])
        have HI2 : Hid ((Tryd.prog.info? 26).map (·.size) = some (u8s (dat xs q)).length) := hide (by rw [wD.size, HUL.out])
        have hS : ∀ v : World, Blk v g4 26 (u8s leaf) → Blk v g10 26 (u8s (dat xs q)) → v.rangeAt g4 0 (u8s leaf) ∧ v.rangeAt g10 0 (u8s (dat xs q)) := fun v h1 h2 => ⟨h1.range 0 _ (by simp), h2.range 0 _ (by simp)⟩
        clear L4 R4 X5 B4
        refine wp_region_held_drew (S := fun v : World => v.rangeAt g4 0 (u8s leaf) ∧ v.rangeAt g10 0 (u8s (dat xs q))) (by kernel_rfl) (hS _ L0.out X0.out) (fun hHeld => ?_)
        refine takeH 0 31 (.agg (u8s leaf).toArray) hHeld rfl rfl (by kernel_rfl) (by kernel_rfl) (by kernel_rfl) (fun _ _ _ h => h) (yieldsIf_load_mid (by rfl) _ _ rfl g4 0 rfl _ _ (fun w h => h.1) hu rfl HI1.out) ?_
        simp only [Act.put, List.setIfInBounds_toArray, List.set_cons_zero, List.set_cons_succ]
        refine takeH 1 32 (.int .i64 ((i : Int) - (b : Int))) hHeld rfl rfl (by kernel_rfl) (by kernel_rfl) (by kernel_rfl) (fun _ _ _ h => h) (Or.inl ⟨by rfl, fun w _ => by go_simp⟩) ?_
        simp only [Act.put, List.setIfInBounds_toArray, List.set_cons_zero, List.set_cons_succ]
        refine takeH 2 33 (.int .i64 (k : Int)) hHeld rfl rfl (by kernel_rfl) (by kernel_rfl) (by kernel_rfl) (fun _ _ _ h => h) (Or.inl ⟨by rfl, fun w _ => by go_simp⟩) ?_
        simp only [Act.put, List.setIfInBounds_toArray, List.set_cons_zero, List.set_cons_succ]
        refine takeH 3 34 (.slice (some ⟨pb, po, none⟩) q cap) hHeld rfl rfl (by kernel_rfl) (by kernel_rfl) (by kernel_rfl) (fun _ _ _ h => h) (Or.inl ⟨by rfl, fun w _ => by go_simp⟩) ?_
        simp only [Act.put, List.setIfInBounds_toArray, List.set_cons_zero, List.set_cons_succ]
        refine takeH 5 36 (.agg (u8s (dat xs q)).toArray) hHeld rfl rfl (by kernel_rfl) (by kernel_rfl) (by kernel_rfl) (fun _ _ _ h => h) (yieldsIf_load_mid (by rfl) _ _ rfl g10 0 rfl _ _ (fun w h => h.2) hu rfl HI2.out) ?_
        simp only [Act.put, List.setIfInBounds_toArray, List.set_cons_zero, List.set_cons_succ]
        refine wpAnyH_ready (rs := [4]) (by kernel_rfl) (by simp) (AllReadyH.cons rfl (fun K hK => ?_) AllReadyH.nil)
        rw [if_pos (by rfl)]
        go_simp
        refine (IH.out _ (HS.out.below B0.out)).mono ?_
        rintro r v1 ⟨rfl, hv1⟩
        have B1 := hide (on_below B0.out hv1)
        have L1 := hide (L0.out.on hv1)
        have R1 := hide (R0.out.on hv1)
        have X1 := hide (X0.out.on hv1)
        clear B0 L0 R0 X0 hv1
        refine hK.out _ _ (hS _ L1.out X1.out) (fun hHeld => ?_)
        clear hK K
        refine wpAnyH_ready (rs := [6]) (by kernel_rfl) (by simp) (AllReadyH.cons rfl (fun K hK => ?_) AllReadyH.nil)
        rw [if_pos (by rfl)]
        go_simp
        refine (nodeR_any Dq (dat xs q) _ HDD.out HDB.out HXD.out HXB.out).mono ?_
        rintro r v2 ⟨rfl, hv2⟩
        have B2 := hide (on_below B1.out hv2)
        have L2 := hide (L1.out.on hv2)
        have R2 := hide (R1.out.on hv2)
        have X2 := hide (X1.out.on hv2)
        clear B1 L1 R1 X1 hv2
        refine hK.out _ _ (hS _ L2.out X2.out) (fun hHeld => ?_)
        clear hK K
        refine wpAnyH_ready (rs := [7]) (by kernel_rfl) (by simp) (AllReadyH.cons rfl (fun K hK => ?_) AllReadyH.nil)
        rw [if_pos (by rfl)]
        refine wp_storeW wD rfl rfl rfl R2.out (by rw [u8s_length]; exact nd_length _ _) (One.u8 _) (by rw [u8s_length, zer_length]; omega) ?_
        intro v3 hgs hbuts
        rw [spl_same _ _ (zer_length 32) (nd_length _ _)] at hgs
        refine hK.out _ _ (hS _ (L2.out.but hbuts h48) (X2.out.but hbuts h810)) (fun hHeld => ?_)
        clear hK K
        simp only [Act.put]
        refine wpAnyH_done (by kernel_rfl) ?_ _
        refine NoPanic.normal ?_
        clear hHeld hS hu
        go_wp2
        refine bodyPost_ret (results_wide rfl wD _ _ rfl hgs (by rw [u8s_length, nd_length])) rfl ⟨?_, B2.out.trans (hbuts.below hw8)⟩
        rw [HF.out]
      · have hlen := hvL_few (show b + hf n ≤ i by omega) (show i < b + hf n + (n - hf n) by omega) (by omega)
        rw [hvL_hi hn2 (by omega) h2 hc] at hl ⊢
        have IH := hide (fun (l : Nat) (hl : l = (hvL i (b + hf n) (n - hf n)).length) a cap xs w hd => ih.out (b + hf n) (n - hf n) l a cap xs w (by omega) (by omega) (by omega) (by omega) hl hd)
        generalize hvL i (b + hf n) (n - hf n) = L at *
        clear ih
        generalize hf n = k at *
        obtain ⟨q, hq⟩ : ∃ q, q = L.length := ⟨_, rfl⟩
        have hl1 : l = q + 1 := by rw [hl, List.length_append, hq]; rfl
        obtain ⟨pb, po, rfl⟩ := HS.out.place (by omega)
        have HF : Hid (fu (L ++ [1]) xs leaf l = nd (dat xs q) (fu L (xs.take (32 * q)) leaf q)) := hide (by rw [hl1, hq]; exact fu_snoc L xs leaf 1)
        replace IH := hide (fun w (hd : Ds w (some ⟨pb, po, none⟩) l cap xs) => IH.out q hq (some ⟨pb, po, none⟩) cap (xs.take (32 * q)) w (Ds.take hd q (by omega)))
        have e2 : ((n - k : Nat) : Int) = (n : Int) - (k : Int) := by omega
        have e3 : (i : Int) - ((b + k : Nat) : Int) = (i : Int) - (b : Int) - (k : Int) := by omega
        rw [e3, e2] at IH
        have hat := d_at pb po l cap q ((l : Int) - 1) (by omega) (by omega)
        have hto := d_to pb po l cap q ((l : Int) - 1) (by omega) (by omega)
        have HUL := hide (show (u8s (dat xs q)).length = 32 by rw [u8s_length, dat_length HS.out.hlen (show q < l by omega)])
        have HXD := hide (dat_length HS.out.hlen (show q < l by omega))
        have HXB := hide (dat_isB HS.out.hbyte q)
        have HDD := hide (fu_length (hs := L) (xs := xs.take (32 * q)) hlf q)
        have HDB := hide (fu_isB (hs := L) (xs := xs.take (32 * q)) hlb q)
        generalize fu L (xs.take (32 * q)) leaf q = Dq at *
        have hc' : ¬ (i : Int) - (b : Int) < (k : Int) := by omega
        have hw1 : IntKind.i64.wrap ((i : Int) - (b : Int) - (k : Int)) = (i : Int) - (b : Int) - (k : Int) := by rw [IntKind.wrap_i64]; omega
        have hw2 : IntKind.i64.wrap ((n : Int) - (k : Int)) = (n : Int) - (k : Int) := by rw [IntKind.wrap_i64]; omega
        have HL1 := hide hl1
        have hl2 : 1 ≤ l := by omega
        clear hl hq e2 e3 hl1
        go_enter Tryd.func28, Tryd.ntmps28
        go_wp2_with (refine step_box rfl rfl ?_)
        intro w1 g4 hr1 hl1 hb1
        have G4 := hide hr1
        clear hr1
        go_wp2_with (refine step_alloc zD rfl ?_)
        intro w2 g8 hr2 hl2 hb2
        have G8 := hide hr2
        have G42 := hide (G4.out.below hb2 G4.out.lt)
        have B2 := hide (hb1.trans (hb2.mono hb1.size))
        have hw8 : w.heap.size ≤ g8 := Nat.le_trans hb1.size hl2
        have h48 : g4 ≠ g8 := by have := G4.out.lt; omega
        clear hr2 hb1 hb2 G4
        go_wp2_with fail
        refine (HH.out _).mono ?_
        rintro r w' ⟨rfl, rfl⟩
        have HRG := hide ((HS.out.below B2.out).range q (by have := HL1.out; omega))
        go_wp2_with (first | (refine step_loadR wD rfl rfl _ HRG.out HUL.out ?_) | (refine step_alloc zD rfl ?_))
        intro w3 g10 hr3 hl3 hb3
        have G10 := hide hr3
        clear hr3
        go_wp2_with (refine step_storeA wD rfl rfl rfl G10.out HUL.out (One.u8 _) rfl ?_)
        intro w4 hg4 hbut4
        have B4 := hide (new_below B2.out hb3 hl3 hbut4)
        have X4 := hide (hb3.trans (hbut4.below hl3))
        have L4 := hide (G42.out.on X4.out)
        have R4 := hide (G8.out.on X4.out)
        have X5 := hide hg4
        have h810 : g10 ≠ g8 := by have := G8.out.lt; omega
        clear hg4 hbut4 hb3 G10 HRG G42 G8 X4 hat
        go_wp2_with fail
        refine wp_region_noPanic ?_
        have B0 := hide (B4.out.drew)
        have L0 := hide (L4.out.on ((Below.refl _ _).drew))
        have R0 := hide (R4.out.on ((Below.refl _ _).drew))
        have X0 := hide (X5.out.on ((Below.refl _ _).drew))
        have hu := aD.und
        have HI1 : Hid ((Tryd.prog.info? 26).map (·.size) = some (u8s leaf).length) := hide (by rw [wD.size, HLL.out])
        have HI2 : Hid ((Tryd.prog.info? 26).map (·.size) = some (u8s (dat xs q)).length) := hide (by rw [wD.size, HUL.out])
        have hS : ∀ v : World, Blk v g4 26 (u8s leaf) → Blk v g10 26 (u8s (dat xs q)) → v.rangeAt g4 0 (u8s leaf) ∧ v.rangeAt g10 0 (u8s (dat xs q)) := fun v h1 h2 => ⟨h1.range 0 _ (by simp), h2.range 0 _ (by simp)⟩
        clear L4 R4 X5 B4
        refine wp_region_held_drew (S := fun v : World => v.rangeAt g4 0 (u8s leaf) ∧ v.rangeAt g10 0 (u8s (dat xs q))) (by kernel_rfl) (hS _ L0.out X0.out) (fun hHeld => ?_)
        refine takeH 0 38 (.agg (u8s (dat xs q)).toArray) hHeld rfl rfl (by kernel_rfl) (by kernel_rfl) (by kernel_rfl) (fun _ _ _ h => h) (yieldsIf_load_mid (by rfl) _ _ rfl g10 0 rfl _ _ (fun w h => h.2) hu rfl HI2.out) ?_
        simp only [Act.put, List.setIfInBounds_toArray, List.set_cons_zero, List.set_cons_succ]
        refine takeH 1 39 (.agg (u8s leaf).toArray) hHeld rfl rfl (by kernel_rfl) (by kernel_rfl) (by kernel_rfl) (fun _ _ _ h => h) (yieldsIf_load_mid (by rfl) _ _ rfl g4 0 rfl _ _ (fun w h => h.1) hu rfl HI1.out) ?_
        simp only [Act.put, List.setIfInBounds_toArray, List.set_cons_zero, List.set_cons_succ]
        refine takeH 2 40 (.int .i64 ((i : Int) - (b : Int))) hHeld rfl rfl (by kernel_rfl) (by kernel_rfl) (by kernel_rfl) (fun _ _ _ h => h) (Or.inl ⟨by rfl, fun w _ => by go_simp⟩) ?_
        simp only [Act.put, List.setIfInBounds_toArray, List.set_cons_zero, List.set_cons_succ]
        refine takeH 3 41 (.int .i64 (k : Int)) hHeld rfl rfl (by kernel_rfl) (by kernel_rfl) (by kernel_rfl) (fun _ _ _ h => h) (Or.inl ⟨by rfl, fun w _ => by go_simp⟩) ?_
        simp only [Act.put, List.setIfInBounds_toArray, List.set_cons_zero, List.set_cons_succ]
        refine takeH 4 42 (.int .i64 ((i : Int) - (b : Int) - (k : Int))) hHeld rfl rfl (by kernel_rfl) (by kernel_rfl) (by kernel_rfl) (fun _ _ _ h => h) (Or.inl ⟨by rfl, fun w _ => by go_simp⟩) ?_
        simp only [Act.put, List.setIfInBounds_toArray, List.set_cons_zero, List.set_cons_succ]
        refine takeH 5 43 (.int .i64 (n : Int)) hHeld rfl rfl (by kernel_rfl) (by kernel_rfl) (by kernel_rfl) (fun _ _ _ h => h) (Or.inl ⟨by rfl, fun w _ => by go_simp⟩) ?_
        simp only [Act.put, List.setIfInBounds_toArray, List.set_cons_zero, List.set_cons_succ]
        refine takeH 6 44 (.int .i64 (k : Int)) hHeld rfl rfl (by kernel_rfl) (by kernel_rfl) (by kernel_rfl) (fun _ _ _ h => h) (Or.inl ⟨by rfl, fun w _ => by go_simp⟩) ?_
        simp only [Act.put, List.setIfInBounds_toArray, List.set_cons_zero, List.set_cons_succ]
        refine takeH 7 45 (.int .i64 ((n : Int) - (k : Int))) hHeld rfl rfl (by kernel_rfl) (by kernel_rfl) (by kernel_rfl) (fun _ _ _ h => h) (Or.inl ⟨by rfl, fun w _ => by go_simp⟩) ?_
        simp only [Act.put, List.setIfInBounds_toArray, List.set_cons_zero, List.set_cons_succ]
        refine takeH 8 46 (.slice (some ⟨pb, po, none⟩) q cap) hHeld rfl rfl (by kernel_rfl) (by kernel_rfl) (by kernel_rfl) (fun _ _ _ h => h) (Or.inl ⟨by rfl, fun w _ => by go_simp⟩) ?_
        simp only [Act.put, List.setIfInBounds_toArray, List.set_cons_zero, List.set_cons_succ]
        refine wpAnyH_ready (rs := [9]) (by kernel_rfl) (by simp) (AllReadyH.cons rfl (fun K hK => ?_) AllReadyH.nil)
        rw [if_pos (by rfl)]
        go_simp
        refine (IH.out _ (HS.out.below B0.out)).mono ?_
        rintro r v1 ⟨rfl, hv1⟩
        have B1 := hide (on_below B0.out hv1)
        have L1 := hide (L0.out.on hv1)
        have R1 := hide (R0.out.on hv1)
        have X1 := hide (X0.out.on hv1)
        clear B0 L0 R0 X0 hv1
        refine hK.out _ _ (hS _ L1.out X1.out) (fun hHeld => ?_)
        clear hK K
        refine wpAnyH_ready (rs := [10]) (by kernel_rfl) (by simp) (AllReadyH.cons rfl (fun K hK => ?_) AllReadyH.nil)
        rw [if_pos (by rfl)]
        go_simp
        refine (nodeR_any (dat xs q) Dq _ HXD.out HXB.out HDD.out HDB.out).mono ?_
        rintro r v2 ⟨rfl, hv2⟩
        have B2 := hide (on_below B1.out hv2)
        have L2 := hide (L1.out.on hv2)
        have R2 := hide (R1.out.on hv2)
        have X2 := hide (X1.out.on hv2)
        clear B1 L1 R1 X1 hv2
        refine hK.out _ _ (hS _ L2.out X2.out) (fun hHeld => ?_)
        clear hK K
        refine wpAnyH_ready (rs := [11]) (by kernel_rfl) (by simp) (AllReadyH.cons rfl (fun K hK => ?_) AllReadyH.nil)
        rw [if_pos (by rfl)]
        refine wp_storeW wD rfl rfl rfl R2.out (by rw [u8s_length]; exact nd_length _ _) (One.u8 _) (by rw [u8s_length, zer_length]; omega) ?_
        intro v3 hgs hbuts
        rw [spl_same _ _ (zer_length 32) (nd_length _ _)] at hgs
        refine hK.out _ _ (hS _ (L2.out.but hbuts h48) (X2.out.but hbuts h810)) (fun hHeld => ?_)
        clear hK K
        simp only [Act.put]
        refine wpAnyH_done (by kernel_rfl) ?_ _
        refine NoPanic.normal ?_
        clear hHeld hS hu
        go_wp2
        refine bodyPost_ret (results_wide rfl wD _ _ rfl hgs (by rw [u8s_length, nd_length])) rfl ⟨?_, B2.out.trans (hbuts.below hw8)⟩
        rw [HF.out]

end Go.Proofs.YtdggooanpamoeaaDoor

/-
  A tree's own inclusion proof leads to its root. No program here.
-/
namespace Go.Proofs.YtdggooanpamoeaaDoor
open Go.RowKit
set_option linter.unusedVariables false

theorem dat_last (P R : List Int) (q : Nat) (hP : P.length = 32 * q) (hR : R.length = 32) : dat (P ++ R) q = R ∧ (P ++ R).take (32 * q) = P := by
  refine ⟨?_, ?_⟩
  · unfold dat
    rw [← hP, List.drop_left, List.take_of_length_le (by omega)]
  · rw [← hP, List.take_left]
theorem sub_one {xs : List Int} {n : Nat} (h : xs.length = 32 * n) (i : Nat) (hi' : i < n) : sub xs i (i + 1) = dat xs i ∧ (sub xs i (i + 1)).length = 32 := by
  refine ⟨by simp [sub, dat], ?_⟩
  rw [sub_length h (by omega) (by omega)]
  omega
theorem path_leads {xs : List Int} {N i : Nat} (hx : xs.length = 32 * N) (hxb : isB xs) (hN : N ≤ 281474976710656) : ∀ (f b n : Nat), n ≤ f → b ≤ i → i < b + n → b + n ≤ N →
    (path (sub xs b (b + n)) (i - b)).length = 32 * (hvL i b n).length ∧ fu (hvL i b n) (path (sub xs b (b + n)) (i - b)) (dat xs i) (hvL i b n).length = root (sub xs b (b + n))
  | 0, b, n, h, _, _, _ => by omega
  | f + 1, b, n, h, h1, h2, h3 => by
    have hsl := sub_length hx (show b ≤ b + n by omega) h3
    rw [show b + n - b = n by omega] at hsl
    by_cases hn : n = 1
    · subst hn
      obtain rfl : b = i := by omega
      obtain ⟨e1, e2⟩ := sub_one hx b (by omega)
      rw [hvL_one, path_one e2, root_one e2, e1]
      exact ⟨rfl, rfl⟩
    · have hn2 : 2 ≤ n := by omega
      have hh := hf_bd n hn2 (by omega)
      have e : b + n - b = n := by omega
      have hlo := sub_lo hx (show b ≤ b + n by omega) h3 (by omega) (by omega)
      have hhi := sub_hi hx (show b ≤ b + n by omega) h3 (by omega) (by omega)
      rw [e] at hlo hhi
      have hrn := root_node hsl hn2 (by omega)
      rw [hlo, hhi] at hrn
      by_cases hc : i < b + hf n
      · obtain ⟨i1, i2⟩ := path_leads (i := i) hx hxb hN f b (hf n) (by omega) h1 hc (by omega)
        have hR : (root (sub xs (b + hf n) (b + n))).length = 32 := root_length (sub_length hx (by omega) h3) (sub_isB hxb _ _)
        rw [hvL_lo hn2 (by omega) h1 hc, path_lo (i := i - b) hsl hn2 (by omega) (by omega), hlo, hhi, List.length_append, List.length_append, i1, hR, List.length_singleton]
        obtain ⟨d1, d2⟩ := dat_last _ _ _ i1 hR
        refine ⟨by omega, ?_⟩
        rw [fu_snoc, d1, d2, i2, hrn]
        rfl
      · obtain ⟨i1, i2⟩ := path_leads (i := i) hx hxb hN f (b + hf n) (n - hf n) (by omega) (by omega) (by omega) (by omega)
        rw [show b + hf n + (n - hf n) = b + n by omega] at i1 i2
        have hR : (root (sub xs b (b + hf n))).length = 32 := root_length (sub_length hx (show b ≤ b + hf n by omega) (show b + hf n ≤ N by omega)) (sub_isB hxb _ _)
        rw [hvL_hi hn2 (by omega) h2 hc, path_hi (i := i - b) hsl hn2 (by omega) (by omega), hlo, hhi, show i - b - hf n = i - (b + hf n) by omega, List.length_append, List.length_append, i1, hR, List.length_singleton]
        obtain ⟨d1, d2⟩ := dat_last _ _ _ i1 hR
        refine ⟨by omega, ?_⟩
        rw [fu_snoc, d1, d2, i2, hrn]
        rfl
/-- .. of the first n leaves. -/
theorem path_root {xs : List Int} {N i n : Nat} (hx : xs.length = 32 * N) (hxb : isB xs) (hN : N ≤ 281474976710656) (hi' : i < n) (hn : n ≤ N) :
    (path (sub xs 0 n) i).length = 32 * (hvL i 0 n).length ∧ fu (hvL i 0 n) (path (sub xs 0 n) i) (dat xs i) (hvL i 0 n).length = root (sub xs 0 n) := by
  have := path_leads hx hxb hN n 0 n (Nat.le_refl _) (Nat.zero_le i) (by omega) (by omega)
  rwa [Nat.zero_add, Nat.sub_zero] at this

end Go.Proofs.YtdggooanpamoeaaDoor

/-
  The document's Root; what both tell; Inclusion of both.
-/
namespace Go.Proofs.YtdggooanpamoeaaDoor
open Go.RowKit
set_option linter.unusedVariables false

section
variable {dst : Option Tmp} {ty : TypeId} {pos : String} {aft : Array Edge} {gd : Option (Nat × Bool)} {ops : Array Oper} {rest : List Oper} {a : Act} {w : World} {Q : Exit → Act → World → Prop}
theorem step_neQ {T E : TypeId} {k : IntKind} {n : Nat} (hA : Arr T E k n) {t' : TypeId} {x y : Operand} {xs ys : List Int} (q : Bool) (hq : (!decide (xs = ys)) = q) (hw : Region.wanted ⟨dst, .binOp .neq T x y t', ty, pos, aft, gd⟩ (yielded ops a.tmps) = true)
    (hx : a.eval x = .agg (xs.map (Value.int k)).toArray) (hy : a.eval y = .agg (ys.map (Value.int k)).toArray) (hl : xs.length = n) (hl' : ys.length = n) (h : wpList Tryd.prog ops Q rest (a.put dst (.bool q)) w) :
    wpList Tryd.prog ops Q (⟨dst, .binOp .neq T x y t', ty, pos, aft, gd⟩ :: rest) a w := by
  subst hq
  exact step_neA hA hw hx hy hl hl' h
end
set_option maxRecDepth 100000 in
set_option maxHeartbeats 1000000 in
theorem rootR7_bad (leaf : List Int) (i n : Int) (a : Value) (w : World) (h : i < 0 ∨ n ≤ i ∨ 281474976710656 < n) :
    Calls Tryd.prog 9 #[.agg (u8s leaf).toArray, .int .i64 i, .int .i64 n, a] w fun r w' => r = .returned (.tuple #[.agg (u8s (zer 32)).toArray, .int .i64 40]) ∧ Below w.heap.size w w' := by
  have H := hide (fun v => lengthR_bad i n v h)
  clear h
  go_enter Tryd.func9, Tryd.ntmps9
  go_wp2_with (refine step_box rfl rfl ?_)
  intro w1 g4 hr1 hl1 hb1
  have G4 := hide hr1
  clear hr1
  go_wp2_with (refine step_alloc zD rfl ?_)
  intro w2 g8 hr2 hl2 hb2
  have G8 := hide hr2
  have G42 := hide (G4.out.below hb2 G4.out.lt)
  have B2 := hide (hb1.trans (hb2.mono hb1.size))
  have hw8 : w.heap.size ≤ g8 := Nat.le_trans hb1.size hl2
  clear hr2 hb1 hb2 G4
  go_wp2_with fail
  refine (H.out _).mono ?_
  rintro r w3 ⟨rfl, rfl⟩
  go_wp2_with (first | (refine step_buildD rfl ?_) | (refine step_storeA wD rfl rfl rfl G8.out (by rw [u8s_length, zer_length]) (One.u8 _) rfl ?_; intro w4 hg4 hbut4))
  refine bodyPost_ret (results_wide2 rfl wD _ _ rfl hg4 (by rw [u8s_length, zer_length])) rfl ⟨rfl, ?_⟩
  exact B2.out.trans (hbut4.below hw8)
set_option maxRecDepth 100000 in
set_option maxHeartbeats 1000000 in
theorem rootR7_len (leaf : List Int) (i n : Nat) (a : Option Addr) (l cap : Nat) (w : World) (h1 : i < n) (h2 : n ≤ 281474976710656) (hl : l ≠ (hvL i 0 n).length) :
    Calls Tryd.prog 9 #[.agg (u8s leaf).toArray, .int .i64 (i : Int), .int .i64 (n : Int), .slice a l cap] w fun r w' => r = .returned (.tuple #[.agg (u8s (zer 32)).toArray, .int .i64 70]) ∧ Below w.heap.size w w' := by
  have H := hide (fun v => lengthR_ok i n v h1 h2)
  have hl' : ((l : Int) != ((hvL i 0 n).length : Int)) = true := by simp; omega
  generalize hvL i 0 n = L at *
  go_enter Tryd.func9, Tryd.ntmps9
  go_wp2_with (refine step_box rfl rfl ?_)
  intro w1 g4 hr1 hl1 hb1
  have G4 := hide hr1
  clear hr1
  go_wp2_with (refine step_alloc zD rfl ?_)
  intro w2 g8 hr2 hl2 hb2
  have G8 := hide hr2
  have G42 := hide (G4.out.below hb2 G4.out.lt)
  have B2 := hide (hb1.trans (hb2.mono hb1.size))
  have hw8 : w.heap.size ≤ g8 := Nat.le_trans hb1.size hl2
  clear hr2 hb1 hb2 G4
  go_wp2_with fail
  refine (H.out _).mono ?_
  rintro r w3 ⟨rfl, rfl⟩
  go_wp2_with (first | (refine step_buildD rfl ?_) | (refine step_storeA wD rfl rfl rfl G8.out (by rw [u8s_length, zer_length]) (One.u8 _) rfl ?_; intro w4 hg4 hbut4))
  refine bodyPost_ret (results_wide2 rfl wD _ _ rfl hg4 (by rw [u8s_length, zer_length])) rfl ⟨rfl, ?_⟩
  exact B2.out.trans (hbut4.below hw8)
set_option maxRecDepth 100000 in
set_option maxHeartbeats 1000000 in
theorem rootR7_ok (leaf : List Int) (i n : Nat) (a : Option Addr) (l cap : Nat) (xs : List Int) (w : World) (h1 : i < n) (h2 : n ≤ 281474976710656) (hl : l = (hvL i 0 n).length) (hlf : leaf.length = 32) (hlb : isB leaf) (hs : Ds w a l cap xs) :
    Calls Tryd.prog 9 #[.agg (u8s leaf).toArray, .int .i64 (i : Int), .int .i64 (n : Int), .slice a l cap] w fun r w' => r = .returned (.tuple #[.agg (u8s (fu (hvL i 0 n) xs leaf l)).toArray, .int .i64 0]) ∧ Below w.heap.size w w' := by
  have H := hide (fun v => lengthR_ok i n v h1 h2)
  have HU : Hid (∀ v : World, Ds v a l cap xs → Calls Tryd.prog 28 #[.agg (u8s leaf).toArray, .int .i64 (i : Int), .int .i64 (n : Int), .slice a l cap] v fun r w' => r = .returned (.agg (u8s (fu (hvL i 0 n) xs leaf l)).toArray) ∧ Below v.heap.size v w') := hide fun v hv => by
    have := upR_any leaf i hlf hlb n 0 n l a cap xs v (Nat.le_refl _) (Nat.zero_le _) (by omega) (by omega) hl hv
    rwa [show (i : Int) - ((0 : Nat) : Int) = (i : Int) by omega] at this
  have HS := hide hs
  have HLL := hide (show (u8s leaf).length = 32 by rw [u8s_length, hlf])
  have HRL := hide (show (u8s (fu (hvL i 0 n) xs leaf l)).length = 32 by rw [u8s_length, fu_length hlf])
  generalize fu (hvL i 0 n) xs leaf l = R at *
  rw [← hl] at H
  clear hs hl
  go_enter Tryd.func9, Tryd.ntmps9
  go_wp2_with (refine step_box rfl rfl ?_)
  intro w1 g4 hr1 hl1 hb1
  have G4 := hide hr1
  clear hr1
  go_wp2_with (refine step_alloc zD rfl ?_)
  intro w2 g8 hr2 hl2 hb2
  have G8 := hide hr2
  have G42 := hide (G4.out.below hb2 G4.out.lt)
  have B2 := hide (hb1.trans (hb2.mono hb1.size))
  have hw8 : w.heap.size ≤ g8 := Nat.le_trans hb1.size hl2
  clear hr2 hb1 hb2 G4
  go_wp2_with fail
  refine (H.out _).mono ?_
  rintro r w3 ⟨rfl, rfl⟩
  go_wp2_with (refine step_loadA wD rfl rfl G42.out HLL.out ?_)
  refine (HU.out _ (HS.out.below B2.out)).mono ?_
  rintro r w4 ⟨rfl, hb4⟩
  have G84 := hide (G8.out.on hb4)
  go_wp2_with (refine step_storeA wD rfl rfl rfl G84.out HRL.out (One.u8 _) rfl ?_; intro w5 hg5 hbut5)
  refine bodyPost_ret (results_wide2 rfl wD _ _ rfl hg5 HRL.out) rfl ⟨rfl, ?_⟩
  exact (on_below B2.out hb4).trans (hbut5.below hw8)

/-- What Root tells, program and document. -/
structure RB (leaf : List Int) (i n : Int) (l : Nat) (xs D : List Int) (E : Int) : Prop where
  len : D.length = 32
  byte : isB D
  prog : ∀ (a : Option Addr) (cap : Nat) (w : World), Ds w a l cap xs → KT w → Calls Tryd.prog 8 #[.agg (u8s leaf).toArray, .int .i64 i, .int .i64 n, .slice a l cap] w fun r w' => r = .returned (.tuple #[.agg (u8s D).toArray, .int .i64 E]) ∧ Below w.heap.size w w'
  doc : ∀ (a : Option Addr) (cap : Nat) (w : World), Ds w a l cap xs → Calls Tryd.prog 9 #[.agg (u8s leaf).toArray, .int .i64 i, .int .i64 n, .slice a l cap] w fun r w' => r = .returned (.tuple #[.agg (u8s D).toArray, .int .i64 E]) ∧ Below w.heap.size w w'
theorem zer_isB32 : isB (zer 32) := by unfold isB; decide
theorem root_both (leaf : List Int) (i n : Int) (l : Nat) (xs : List Int) (hlf : leaf.length = 32) (hlb : isB leaf) : ∃ D E, RB leaf i n l xs D E := by
  by_cases h : i < 0 ∨ n ≤ i ∨ 281474976710656 < n
  · exact ⟨zer 32, 40, zer_length 32, zer_isB32, fun a cap w _ _ => root7_bad leaf i n _ w h, fun a cap w _ => rootR7_bad leaf i n _ w h⟩
  · obtain ⟨i', rfl⟩ : ∃ i' : Nat, i = (i' : Int) := ⟨i.toNat, by omega⟩
    obtain ⟨n', rfl⟩ : ∃ n' : Nat, n = (n' : Int) := ⟨n.toNat, by omega⟩
    by_cases hl : l = (hvL i' 0 n').length
    · exact ⟨_, 0, fu_length hlf l, fu_isB hlb l, fun a cap w hs hk => root7_ok leaf i' n' a l cap xs w (by omega) (by omega) hl hlf hlb hs hk, fun a cap w hs => rootR7_ok leaf i' n' a l cap xs w (by omega) (by omega) hl hlf hlb hs⟩
    · exact ⟨zer 32, 70, zer_length 32, zer_isB32, fun a cap w _ _ => root7_len leaf i' n' a l cap w (by omega) (by omega) hl, fun a cap w _ => rootR7_len leaf i' n' a l cap w (by omega) (by omega) hl⟩

/-- What Inclusion tells. -/
def inR (D root : List Int) (E : Int) : Int := if E = 0 then (if D = root then 0 else 71) else E
theorem inR_self (D : List Int) (E : Int) : inR D D E = E := by
  unfold inR
  by_cases h : E = 0
  · rw [if_pos h, if_pos rfl, h]
  · rw [if_neg h]
set_option maxRecDepth 100000 in
set_option maxHeartbeats 1000000 in
theorem inc7_any (leaf root : List Int) (i n : Int) (a : Option Addr) (l cap : Nat) (xs D : List Int) (E : Int) (w : World) (hB : RB leaf i n l xs D E) (hlf : leaf.length = 32) (hrl : root.length = 32) (hs : Ds w a l cap xs) (hk : KT w) :
    Calls Tryd.prog 10 #[.agg (u8s leaf).toArray, .int .i64 i, .int .i64 n, .slice a l cap, .agg (u8s root).toArray] w fun r w' => r = .returned (.int .i64 (inR D root E)) ∧ Below w.heap.size w w' := by
  have HK := hide hk
  have HB := hide hB
  have HS := hide hs
  have HDL := hide hB.len
  have HRL := hide hrl
  have HDU := hide (show (u8s D).length = 32 by rw [u8s_length, hB.len])
  have HRU := hide (show (u8s root).length = 32 by rw [u8s_length, hrl])
  have HLL := hide (show (u8s leaf).length = 32 by rw [u8s_length, hlf])
  clear hk hs hrl hlf hB
  by_cases hE : E = 0
  · subst hE
    by_cases hD : D = root
    · rw [show inR D root 0 = 0 by unfold inR; rw [if_pos rfl, if_pos hD]]
      have hd : (!decide (D = root)) = false := by simp [hD]
      have HDD := hide hd
      clear hD hd
      go_enter Tryd.func10, Tryd.ntmps10
      go_wp2_with (refine step_box rfl rfl ?_)
      intro w1 g5 hr1 hl1 hb1
      have G5 := hide hr1
      clear hr1
      go_wp2_with (refine step_box rfl rfl ?_)
      intro w2 g9 hr2 hl2 hb2
      have G9 := hide hr2
      have G52 := hide (G5.out.on hb2)
      have B2 := hide (on_below hb1 hb2)
      clear hr2 hb1 hb2 G5
      go_wp2_with (refine step_loadA wD rfl rfl G52.out HLL.out ?_)
      refine (HB.out.prog a cap _ (HS.out.below B2.out) (HK.out.below B2.out HK.out.lt)).mono ?_
      rintro r w3 ⟨rfl, hb3⟩
      have G93 := hide (G9.out.on hb3)
      have B3 := hide (on_below B2.out hb3)
      clear hb3 G52 G9 B2
      go_wp2_with (refine step_alloc zD rfl ?_)
      intro w4 g11 hr4 hl4 hb4
      have G11 := hide hr4
      have h911 : g9 ≠ g11 := by have := G93.out.lt; omega
      clear hr4
      go_wp2_with (refine step_storeA wD rfl rfl rfl G11.out HDU.out (One.u8 _) rfl ?_)
      intro w5 hg5 hbut5
      have B5 := hide (new_below B3.out hb4 hl4 hbut5)
      have G95 := hide ((G93.out.on hb4).but hbut5 h911)
      have GD := hide hg5
      clear hg5 hbut5 hb4 G11 B3 G93
      go_wp2_with (first | (refine step_loadA wD rfl rfl GD.out HDU.out ?_) | (refine step_loadA wD rfl rfl G95.out HRU.out ?_) | (refine step_neQ aD _ HDD.out rfl rfl rfl HDL.out HRL.out ?_))
      go_ret
      exact ⟨rfl, B5.out⟩
    · rw [show inR D root 0 = 71 by unfold inR; rw [if_pos rfl, if_neg hD]]
      have hd : (!decide (D = root)) = true := by simp [hD]
      have HDD := hide hd
      clear hD hd
      go_enter Tryd.func10, Tryd.ntmps10
      go_wp2_with (refine step_box rfl rfl ?_)
      intro w1 g5 hr1 hl1 hb1
      have G5 := hide hr1
      clear hr1
      go_wp2_with (refine step_box rfl rfl ?_)
      intro w2 g9 hr2 hl2 hb2
      have G9 := hide hr2
      have G52 := hide (G5.out.on hb2)
      have B2 := hide (on_below hb1 hb2)
      clear hr2 hb1 hb2 G5
      go_wp2_with (refine step_loadA wD rfl rfl G52.out HLL.out ?_)
      refine (HB.out.prog a cap _ (HS.out.below B2.out) (HK.out.below B2.out HK.out.lt)).mono ?_
      rintro r w3 ⟨rfl, hb3⟩
      have G93 := hide (G9.out.on hb3)
      have B3 := hide (on_below B2.out hb3)
      clear hb3 G52 G9 B2
      go_wp2_with (refine step_alloc zD rfl ?_)
      intro w4 g11 hr4 hl4 hb4
      have G11 := hide hr4
      have h911 : g9 ≠ g11 := by have := G93.out.lt; omega
      clear hr4
      go_wp2_with (refine step_storeA wD rfl rfl rfl G11.out HDU.out (One.u8 _) rfl ?_)
      intro w5 hg5 hbut5
      have B5 := hide (new_below B3.out hb4 hl4 hbut5)
      have G95 := hide ((G93.out.on hb4).but hbut5 h911)
      have GD := hide hg5
      clear hg5 hbut5 hb4 G11 B3 G93
      go_wp2_with (first | (refine step_loadA wD rfl rfl GD.out HDU.out ?_) | (refine step_loadA wD rfl rfl G95.out HRU.out ?_) | (refine step_neQ aD _ HDD.out rfl rfl rfl HDL.out HRL.out ?_))
      go_ret
      exact ⟨rfl, B5.out⟩
  · rw [show inR D root E = E by unfold inR; rw [if_neg hE]]
    have hE1 : (E != 0) = true := by simp [hE]
    have hE2 : (E == 0) = false := by simp [hE]
    have HDD : Hid ((!decide (D = root)) = !decide (D = root)) := hide rfl
    go_enter Tryd.func10, Tryd.ntmps10
    go_wp2_with (refine step_box rfl rfl ?_)
    intro w1 g5 hr1 hl1 hb1
    have G5 := hide hr1
    clear hr1
    go_wp2_with (refine step_box rfl rfl ?_)
    intro w2 g9 hr2 hl2 hb2
    have G9 := hide hr2
    have G52 := hide (G5.out.on hb2)
    have B2 := hide (on_below hb1 hb2)
    clear hr2 hb1 hb2 G5
    go_wp2_with (refine step_loadA wD rfl rfl G52.out HLL.out ?_)
    refine (HB.out.prog a cap _ (HS.out.below B2.out) (HK.out.below B2.out HK.out.lt)).mono ?_
    rintro r w3 ⟨rfl, hb3⟩
    have G93 := hide (G9.out.on hb3)
    have B3 := hide (on_below B2.out hb3)
    clear hb3 G52 G9 B2
    go_wp2_with (refine step_alloc zD rfl ?_)
    intro w4 g11 hr4 hl4 hb4
    have G11 := hide hr4
    have h911 : g9 ≠ g11 := by have := G93.out.lt; omega
    clear hr4
    go_wp2_with (refine step_storeA wD rfl rfl rfl G11.out HDU.out (One.u8 _) rfl ?_)
    intro w5 hg5 hbut5
    have B5 := hide (new_below B3.out hb4 hl4 hbut5)
    have G95 := hide ((G93.out.on hb4).but hbut5 h911)
    have GD := hide hg5
    clear hg5 hbut5 hb4 G11 B3 G93
    go_wp2_with (first | (refine step_loadA wD rfl rfl GD.out HDU.out ?_) | (refine step_loadA wD rfl rfl G95.out HRU.out ?_) | (refine step_neQ aD _ HDD.out rfl rfl rfl HDL.out HRL.out ?_))
    go_ret
    exact ⟨rfl, B5.out⟩
set_option maxRecDepth 100000 in
set_option maxHeartbeats 1000000 in
theorem incR7_any (leaf root : List Int) (i n : Int) (a : Option Addr) (l cap : Nat) (xs D : List Int) (E : Int) (w : World) (hB : RB leaf i n l xs D E) (hlf : leaf.length = 32) (hrl : root.length = 32) (hs : Ds w a l cap xs) :
    Calls Tryd.prog 11 #[.agg (u8s leaf).toArray, .int .i64 i, .int .i64 n, .slice a l cap, .agg (u8s root).toArray] w fun r w' => r = .returned (.int .i64 (inR D root E)) ∧ Below w.heap.size w w' := by
  have HB := hide hB
  have HS := hide hs
  have HDL := hide hB.len
  have HRL := hide hrl
  have HDU := hide (show (u8s D).length = 32 by rw [u8s_length, hB.len])
  have HRU := hide (show (u8s root).length = 32 by rw [u8s_length, hrl])
  have HLL := hide (show (u8s leaf).length = 32 by rw [u8s_length, hlf])
  clear hs hrl hlf hB
  by_cases hE : E = 0
  · subst hE
    by_cases hD : D = root
    · rw [show inR D root 0 = 0 by unfold inR; rw [if_pos rfl, if_pos hD]]
      have hd : (!decide (D = root)) = false := by simp [hD]
      have HDD := hide hd
      clear hD hd
      go_enter Tryd.func11, Tryd.ntmps11
      go_wp2_with (refine step_box rfl rfl ?_)
      intro w1 g5 hr1 hl1 hb1
      have G5 := hide hr1
      clear hr1
      go_wp2_with (refine step_box rfl rfl ?_)
      intro w2 g9 hr2 hl2 hb2
      have G9 := hide hr2
      have G52 := hide (G5.out.on hb2)
      have B2 := hide (on_below hb1 hb2)
      clear hr2 hb1 hb2 G5
      go_wp2_with (refine step_loadA wD rfl rfl G52.out HLL.out ?_)
      refine (HB.out.doc a cap _ (HS.out.below B2.out)).mono ?_
      rintro r w3 ⟨rfl, hb3⟩
      have G93 := hide (G9.out.on hb3)
      have B3 := hide (on_below B2.out hb3)
      clear hb3 G52 G9 B2
      go_wp2_with (refine step_alloc zD rfl ?_)
      intro w4 g11 hr4 hl4 hb4
      have G11 := hide hr4
      have h911 : g9 ≠ g11 := by have := G93.out.lt; omega
      clear hr4
      go_wp2_with (refine step_storeA wD rfl rfl rfl G11.out HDU.out (One.u8 _) rfl ?_)
      intro w5 hg5 hbut5
      have B5 := hide (new_below B3.out hb4 hl4 hbut5)
      have G95 := hide ((G93.out.on hb4).but hbut5 h911)
      have GD := hide hg5
      clear hg5 hbut5 hb4 G11 B3 G93
      go_wp2_with (first | (refine step_loadA wD rfl rfl GD.out HDU.out ?_) | (refine step_loadA wD rfl rfl G95.out HRU.out ?_) | (refine step_neQ aD _ HDD.out rfl rfl rfl HDL.out HRL.out ?_))
      go_ret
      exact ⟨rfl, B5.out⟩
    · rw [show inR D root 0 = 71 by unfold inR; rw [if_pos rfl, if_neg hD]]
      have hd : (!decide (D = root)) = true := by simp [hD]
      have HDD := hide hd
      clear hD hd
      go_enter Tryd.func11, Tryd.ntmps11
      go_wp2_with (refine step_box rfl rfl ?_)
      intro w1 g5 hr1 hl1 hb1
      have G5 := hide hr1
      clear hr1
      go_wp2_with (refine step_box rfl rfl ?_)
      intro w2 g9 hr2 hl2 hb2
      have G9 := hide hr2
      have G52 := hide (G5.out.on hb2)
      have B2 := hide (on_below hb1 hb2)
      clear hr2 hb1 hb2 G5
      go_wp2_with (refine step_loadA wD rfl rfl G52.out HLL.out ?_)
      refine (HB.out.doc a cap _ (HS.out.below B2.out)).mono ?_
      rintro r w3 ⟨rfl, hb3⟩
      have G93 := hide (G9.out.on hb3)
      have B3 := hide (on_below B2.out hb3)
      clear hb3 G52 G9 B2
      go_wp2_with (refine step_alloc zD rfl ?_)
      intro w4 g11 hr4 hl4 hb4
      have G11 := hide hr4
      have h911 : g9 ≠ g11 := by have := G93.out.lt; omega
      clear hr4
      go_wp2_with (refine step_storeA wD rfl rfl rfl G11.out HDU.out (One.u8 _) rfl ?_)
      intro w5 hg5 hbut5
      have B5 := hide (new_below B3.out hb4 hl4 hbut5)
      have G95 := hide ((G93.out.on hb4).but hbut5 h911)
      have GD := hide hg5
      clear hg5 hbut5 hb4 G11 B3 G93
      go_wp2_with (first | (refine step_loadA wD rfl rfl GD.out HDU.out ?_) | (refine step_loadA wD rfl rfl G95.out HRU.out ?_) | (refine step_neQ aD _ HDD.out rfl rfl rfl HDL.out HRL.out ?_))
      go_ret
      exact ⟨rfl, B5.out⟩
  · rw [show inR D root E = E by unfold inR; rw [if_neg hE]]
    have hE1 : (E != 0) = true := by simp [hE]
    have hE2 : (E == 0) = false := by simp [hE]
    have HDD : Hid ((!decide (D = root)) = !decide (D = root)) := hide rfl
    go_enter Tryd.func11, Tryd.ntmps11
    go_wp2_with (refine step_box rfl rfl ?_)
    intro w1 g5 hr1 hl1 hb1
    have G5 := hide hr1
    clear hr1
    go_wp2_with (refine step_box rfl rfl ?_)
    intro w2 g9 hr2 hl2 hb2
    have G9 := hide hr2
    have G52 := hide (G5.out.on hb2)
    have B2 := hide (on_below hb1 hb2)
    clear hr2 hb1 hb2 G5
    go_wp2_with (refine step_loadA wD rfl rfl G52.out HLL.out ?_)
    refine (HB.out.doc a cap _ (HS.out.below B2.out)).mono ?_
    rintro r w3 ⟨rfl, hb3⟩
    have G93 := hide (G9.out.on hb3)
    have B3 := hide (on_below B2.out hb3)
    clear hb3 G52 G9 B2
    go_wp2_with (refine step_alloc zD rfl ?_)
    intro w4 g11 hr4 hl4 hb4
    have G11 := hide hr4
    have h911 : g9 ≠ g11 := by have := G93.out.lt; omega
    clear hr4
    go_wp2_with (refine step_storeA wD rfl rfl rfl G11.out HDU.out (One.u8 _) rfl ?_)
    intro w5 hg5 hbut5
    have B5 := hide (new_below B3.out hb4 hl4 hbut5)
    have G95 := hide ((G93.out.on hb4).but hbut5 h911)
    have GD := hide hg5
    clear hg5 hbut5 hb4 G11 B3 G93
    go_wp2_with (first | (refine step_loadA wD rfl rfl GD.out HDU.out ?_) | (refine step_loadA wD rfl rfl G95.out HRU.out ?_) | (refine step_neQ aD _ HDD.out rfl rfl rfl HDL.out HRL.out ?_))
    go_ret
    exact ⟨rfl, B5.out⟩

end Go.Proofs.YtdggooanpamoeaaDoor

/-
  The law's collides: where two ways up lead to one root, two unlike pairs of digests have one node.
-/
namespace Go.Proofs.YtdggooanpamoeaaDoor
open Go.RowKit
set_option linter.unusedVariables false
set_option linter.unusedSimpArgs false

/-- Is it the first half that is taken? -/
def lft (h : Int) : Bool := decide (h ≠ 1)
/-- The two ways part at k, or behind it. -/
def Part (hs P X d e : List Int) (q k : Nat) : Prop := fu hs P d k ≠ fu hs X e k ∨ ∃ j, k ≤ j ∧ j < q ∧ dat X j ≠ dat P j
theorem Part.next {hs P X d e : List Int} {q k : Nat} (h : Part hs P X d e q k) (hn : (fu hs P d k ≠ fu hs X e k ∨ dat X k ≠ dat P k) → fu hs P d (k + 1) ≠ fu hs X e (k + 1)) : Part hs P X d e q (k + 1) := by
  by_cases hu : fu hs P d k ≠ fu hs X e k ∨ dat X k ≠ dat P k
  · exact .inl (hn hu)
  · rcases h with h | ⟨j, h1, h2, h3⟩
    · exact absurd (.inl h) hu
    · refine .inr ⟨j, ?_, h2, h3⟩
      rcases Nat.lt_or_ge k j with hlt | hge
      · exact hlt
      · obtain rfl : j = k := by omega
        exact absurd (.inr h3) hu
theorem Part.not {hs P X d e : List Int} {q : Nat} (h : Part hs P X d e q q) (hq : fu hs P d q = fu hs X e q) : False := by
  rcases h with h | ⟨j, h1, h2, _⟩
  · exact h hq
  · omega
/-- What the first loop keeps. -/
structure CL (w W : World) (g6 : Nat) (aq : Option Addr) (q cq : Nat) (P lf : List Int) : Prop where
  ds : Ds W aq q cq P
  pb : ∀ x, aq = some x → ∃ cs, Blk W x.block 26 cs
  g : Blk W g6 26 (u8s lf)
  bel : Below w.heap.size w W
theorem CL.below {w W W' : World} {g6 : Nat} {aq : Option Addr} {q cq : Nat} {P lf : List Int} (h : CL w W g6 aq q cq P lf) (hb : Below W.heap.size W W') : CL w W' g6 aq q cq P lf :=
  ⟨h.ds.below hb, fun x hx => by obtain ⟨cs, hcs⟩ := h.pb x hx; exact ⟨cs, hcs.on hb⟩, h.g.on hb, on_below h.bel hb⟩
theorem CL.grown {w W W' : World} {g6 : Nat} {aq : Option Addr} {q cq : Nat} {P lf : List Int} {v : Value} {bs : List Bool} (h : CL w W g6 aq q cq P lf) (ho : BOwn W w.heap.size v bs) (hg : W.grownBy W' v.ownBlock) : CL w W' g6 aq q cq P lf :=
  ⟨h.ds.grown ho hg h.pb, fun x hx => by obtain ⟨cs, hcs⟩ := h.pb x hx; exact ⟨cs, hcs.grownO ho hg⟩, h.g.grownO ho hg, h.bel.trans (Below.of_grown hg h.bel.size ho.lt)⟩
/-- What the second loop keeps. -/
structure CM (w W : World) (g16 g17 : Nat) (aq : Option Addr) (q cq : Nat) (P A B : List Int) (v : Value) (bs : List Bool) : Prop where
  ds : Ds W aq q cq P
  pb : ∀ x, aq = some x → x.block ≠ g16 ∧ x.block ≠ g17
  a : Blk W g16 26 (u8s A)
  b : Blk W g17 26 (u8s B)
  own : BOwn W w.heap.size v bs
  bel : Below w.heap.size w W
theorem CM.below {w W W' : World} {g16 g17 : Nat} {aq : Option Addr} {q cq : Nat} {P A B : List Int} {v : Value} {bs : List Bool} (h : CM w W g16 g17 aq q cq P A B v bs) (hb : Below W.heap.size W W') : CM w W' g16 g17 aq q cq P A B v bs :=
  ⟨h.ds.below hb, h.pb, h.a.on hb, h.b.on hb, h.own.below hb, on_below h.bel hb⟩
theorem CM.set16 {w W W' : World} {g16 g17 : Nat} {aq : Option Addr} {q cq : Nat} {P A A' B : List Int} {v : Value} {bs : List Bool} (h : CM w W g16 g17 aq q cq P A B v bs) (hb : But g16 W W') (ha : Blk W' g16 26 (u8s A')) (hg : w.heap.size ≤ g16) (hne : g16 ≠ g17) : CM w W' g16 g17 aq q cq P A' B v bs :=
  ⟨⟨h.ds.hcap, h.ds.hmax, h.ds.hnil, h.ds.sl.but hb (fun _ x hx => (h.pb x hx).1)⟩, h.pb, ha, h.b.but hb hne.symm, h.own.but h.a hb, h.bel.trans (hb.below hg)⟩
theorem CM.set17 {w W W' : World} {g16 g17 : Nat} {aq : Option Addr} {q cq : Nat} {P A B B' : List Int} {v : Value} {bs : List Bool} (h : CM w W g16 g17 aq q cq P A B v bs) (hb : But g17 W W') (ha : Blk W' g17 26 (u8s B')) (hg : w.heap.size ≤ g17) (hne : g16 ≠ g17) : CM w W' g16 g17 aq q cq P A B' v bs :=
  ⟨⟨h.ds.hcap, h.ds.hmax, h.ds.hnil, h.ds.sl.but hb (fun _ x hx => (h.pb x hx).2)⟩, h.pb, h.a.but hb hne, ha, h.own.but h.b hb, h.bel.trans (hb.below hg)⟩
theorem cell_newB (w : World) (b : Bool) : (w.alloc (.cells #[.bool b] 4)).cell? ⟨w.heap.size, 0, none⟩ = some (.bool b) := by
  rw [show (w.alloc (.cells #[.bool b] 4)).cell? ⟨w.heap.size, 0, none⟩ = [Value.bool b][0]? from (Blk.made w 4 [.bool b]).cell 0]
  rfl
theorem o_at7 (b n cap i : Nat) (I : Int) (hI : I = (i : Int)) (hi : i < n) (v : World) : (Instr.indexAt 76 (.slice (some ⟨b, 0, none⟩) n cap) (.int .i64 I)).run Tryd.prog v = .ok (.pointer (some ⟨b, i, none⟩)) v := by
  subst hI
  rw [run_indexAt_slice v _ _ _ _ .i64 i undOs, if_pos ⟨by omega, by omega⟩, elemO, sizeO]
  simp only [Result.andThen_ok, Int.toNat_natCast, Nat.mul_one]
  rw [Addr.add_lit, Nat.zero_add]
theorem DOwn.dsB7 {w : World} {B : Nat} {v : Value} {n : Nat} {xs : List Int} (h : DOwn w B v n xs) (hb : isB xs) (hn : n ≤ 4398046511104) :
    ∃ a cap, v = .slice a n cap ∧ Ds w a n cap xs ∧ ∀ x, a = some x → B ≤ x.block ∧ ∃ cs, Blk w x.block 26 cs := by
  obtain ⟨a, cap, rfl, hd, h1⟩ := h.ds hb hn
  refine ⟨a, cap, rfl, hd, fun x hx => ⟨h1 x hx, ?_⟩⟩
  rcases h.2 with ⟨e, _⟩ | ⟨g, c, cur, e, hB, hh, _⟩
  · cases e; cases hx
  · cases e
    cases hx
    exact ⟨cur.toList, by unfold Blk; simpa using hh⟩
theorem BOwn.cell7 {w : World} {B g n cap : Nat} {bs : List Bool} (h : BOwn w B (.slice (some ⟨g, 0, none⟩) n cap) bs) (i : Nat) (hi : i < bs.length) : w.cell? ⟨g, i, none⟩ = some (.bool (bs.getD i false)) := by
  obtain ⟨a9, c9, e9, hc9⟩ := h.at
  obtain ⟨gL, hgL, hcL⟩ := hc9 i hi
  cases e9
  cases hgL
  exact hcL
theorem joinC {T : Program} {c : Code} {a : Act} {w : World} {Q : Exit → Act → World → Prop} {K : Act → World → Prop} (P : Nat → Nat → World → Prop) (act : Nat → Nat → Act) (h1 : ∀ g h W, P g h W → K (act g h) W) (h2 : (∀ g h W, P g h W → K (act g h) W) → Code.wp T c (Exit.then K Q) a w) : Code.wp T c (Exit.then K Q) a w := h2 h1

theorem joinD {T : Program} {c : Code} {a : Act} {w : World} {Q : Exit → Act → World → Prop} {K : Act → World → Prop} (P : World → Prop) (act : Act) (h1 : ∀ W, P W → K act W) (h2 : (∀ W, P W → K act W) → Code.wp T c (Exit.then K Q) a w) : Code.wp T c (Exit.then K Q) a w := h2 h1
theorem run_neQ {dst : Option Tmp} {ty : TypeId} {pos : String} {aft : Array Edge} {gd : Option (Nat × Bool)} {a : Act} {w : World} {T E : TypeId} {k : IntKind} {n : Nat} (hA : Arr T E k n) (t' : TypeId) {x y : Operand} {xs ys : List Int} {q : Bool} (hx : a.eval x = .agg (xs.map (Value.int k)).toArray) (hy : a.eval y = .agg (ys.map (Value.int k)).toArray) (hl : xs.length = n) (hl' : ys.length = n) (hq : (!decide (xs = ys)) = q) :
    (execOp a.eval ⟨dst, .binOp .neq T x y t', ty, pos, aft, gd⟩).run Tryd.prog w = .ok (.value (.bool q)) w := by
  rw [run_neA hA t' hx hy hl hl', hq]
section
variable {dst : Option Tmp} {ty : TypeId} {pos : String} {aft : Array Edge} {gd : Option (Nat × Bool)} {ops : Array Oper} {rest : List Oper} {a : Act} {w : World} {Q : Exit → Act → World → Prop}
theorem step_eqQ {T E : TypeId} {k : IntKind} {n : Nat} (hA : Arr T E k n) {t' : TypeId} {x y : Operand} {xs ys : List Int} (q : Bool) (hq : decide (xs = ys) = q) (hw : Region.wanted ⟨dst, .binOp .eql T x y t', ty, pos, aft, gd⟩ (yielded ops a.tmps) = true)
    (hx : a.eval x = .agg (xs.map (Value.int k)).toArray) (hy : a.eval y = .agg (ys.map (Value.int k)).toArray) (hl : xs.length = n) (hl' : ys.length = n) (h : wpList Tryd.prog ops Q rest (a.put dst (.bool q)) w) :
    wpList Tryd.prog ops Q (⟨dst, .binOp .eql T x y t', ty, pos, aft, gd⟩ :: rest) a w := by
  subst hq
  exact step_eqA hA hw hx hy hl hl' h
end
set_option maxRecDepth 100000 in
set_option maxHeartbeats 8000000 in
theorem collides_any (bl o l cap : Nat) (xs : List Int) (i : Nat) (leaf : List Int) (ap : Option Addr) (q cp : Nat) (X : List Int) (w : World) (hs : Ds w (some ⟨bl, o, none⟩) l cap xs) (hp : Ds w ap q cp X) (hi : i < l) (hl : l ≤ 4398046510976) (hq : q = (hvL i 0 l).length) (hlf : leaf.length = 32) (hlb : isB leaf) (hk : KT w)
    (hroot : fu (hvL i 0 l) X leaf q = root xs) (hpart : Part (hvL i 0 l) (path xs i) X (dat xs i) leaf q 0) :
    Calls Tryd.prog 24 #[.slice (some ⟨bl, o, none⟩) l cap, .int .i64 (i : Int), .agg (u8s leaf).toArray, .slice ap q cp] w fun e w' => e = .returned (.bool true) ∧ Below w.heap.size w w' := by
  have hxs : sub xs 0 l = xs := by unfold sub; rw [Nat.mul_zero, List.drop_zero, List.take_of_length_le (by have := hs.hlen; omega)]
  obtain ⟨p1, p2⟩ := path_root hs.hlen hs.hbyte (by omega) hi (Nat.le_refl l)
  rw [hxs, ← hq] at p1 p2
  have hPB : isB (path xs i) := (path_bd l l i xs (Nat.le_refl _) (by omega) hs.hlen (by omega) hs.hbyte hi).2
  have EP := hide (show inP xs l (i : Int) (l : Int) = path xs i by unfold inP; rw [if_neg (by omega)]; simp [hxs])
  have hq9 := hvL_few (Nat.zero_le i) (show i < 0 + l by omega) (show l ≤ 281474976710656 by omega)
  rw [← hq] at hq9
  have HEQ : Hid (fu (hvL i 0 l) (path xs i) (dat xs i) q = fu (hvL i 0 l) X leaf q) := hide (by rw [p2, hroot])
  have HS := hide hs
  have HP := hide hp
  have HK := hide hk
  have HP1 := hide p1
  have HPB := hide hPB
  have HPART := hide hpart
  have hdl := dat_length hs.hlen hi
  have hdb := dat_isB hs.hbyte i
  have HDU := hide (show (u8s (dat xs i)).length = 32 by rw [u8s_length, hdl])
  have HDL := hide hdl
  have HLL := hide hlf
  have HLU := hide (show (u8s leaf).length = 32 by rw [u8s_length, hlf])
  have HDR := hide (fun v (hv : Below w.heap.size w v) => (hs.below hv).range i hi)
  have HAL := hide (fun k => fu_length (hs := hvL i 0 l) (xs := path xs i) hdl k)
  have HAB := hide (fun k => fu_isB (hs := hvL i 0 l) (xs := path xs i) hdb k)
  have HBL := hide (fun k => fu_length (hs := hvL i 0 l) (xs := X) hlf k)
  have HBB := hide (fun k => fu_isB (hs := hvL i 0 l) (xs := X) hlb k)
  have HW0 : Hid (WI stopL i l 0 l []) := hide (WI.start hi (by omega))
  have HHV : Hid (hvL i 0 l = (dw stopL i 0 l).1.reverse) := hide rfl
  have HQ := hide hq
  clear hs hp hk p1 p2 hPB hroot hpart hdl hdb hlf hlb hq
  go_enter Tryd.func24, Tryd.ntmps24
  go_wp2_with (refine step_box rfl rfl ?_)
  intro w1 g6 hr1 hl1 hb1
  have G6 := hide hr1
  have B1 := hide hb1
  clear hr1 hb1
  go_wp2_with fail
  refine (incl_any _ _ _ xs (i : Int) (l : Int) _ (HS.out.below B1.out) (HK.out.below B1.out HK.out.lt)).mono ?_
  rintro r w2 ⟨v2, rfl, ⟨q2, ho2⟩, hb2⟩
  rw [EP.out] at ho2
  obtain rfl : q2 = q := by have := ho2.len; have := HP1.out; omega
  obtain ⟨aq, cq, rfl, hap, hbp⟩ := ho2.dsB7 HPB.out (by omega)
  have F2 : Hid (CL w w2 g6 aq q2 cq (path xs i) leaf) := hide ⟨hap, fun x hx => (hbp x hx).2, G6.out.on hb2, on_below B1.out hb2⟩
  clear ho2 hap hbp hb2 G6 B1 hl1
  go_wp2
  go_loopw [11, 12, 13] (fun lo hi lf wr => ∃ (b n : Nat) (ps : List Int), lo = .int .i64 (b : Int) ∧ hi = .int .i64 ((b + n : Nat) : Int) ∧ Hid (WI stopL i l b n ps) ∧ BOwn wr w.heap.size lf (ps.map lft) ∧ CL w wr g6 aq q2 cq (path xs i) leaf) (fun lo hi _ _ => (intOf hi - intOf lo).toNat)
  case atStart => exact ⟨0, l, [], rfl, by simp, HW0, BOwn.nil _ _, F2.out⟩
  case round =>
    obtain ⟨b, n, ps, rfl, rfl, HWI, ho, hf2⟩ := hrel
    have O := hide ho
    have F := hide hf2
    have htop := HWI.out.top
    have hlo := HWI.out.lo
    have hhi := HWI.out.hi
    have hfew := HWI.out.few
    have hps : ps.length ≤ 48 := by omega
    have HLN := hide (show (ps.map lft).length = ps.length by simp)
    obtain ⟨e, he⟩ : ∃ e, b + n = e := ⟨_, rfl⟩
    have HE := hide he
    have he9 : e ≤ 281474976710656 := by omega
    have hbe : b ≤ e := by omega
    rw [he]
    clear ho hf2 F2 HW0 hfew
    by_cases hgt : 1 < n
    · have hgt' : (1 : Int) < (e : Int) - (b : Int) := by omega
      have hs' : stopL b n = false := by simp [stopL]; omega
      have hbd := hf_bd n (by omega) (by omega)
      obtain ⟨k, HKE⟩ : ∃ k, Hid (hf n = k) := ⟨_, hide rfl⟩
      rw [HKE.out] at hbd
      have HSUB := hide (show (e : Int) - (b : Int) = (n : Int) by omega)
      have hk1 : ¬ ((k : Int) < 1) := by omega
      clear he
      go_wp2_with fail
      refine (split_int _ n _ HSUB.out (by omega) (by omega)).mono ?_
      rintro r w5 ⟨rfl, rfl⟩
      rw [HKE.out]
      by_cases hlt : i < b + k
      · have hlt' : (i : Int) < (b : Int) + (k : Int) := by omega
        have HW2 := hide (HWI.out.lower (endsL i) hs' HKE.out hlt)
        go_wp2_with (refine step_appendO (b := true) rfl rfl rfl (O.out.alloc _) (cell_newB _ _) (by rw [HLN.out]; omega) (by have := F.out.bel.size; simp; omega) ?_)
        intro v5 w5 ho5 hg5
        skip
        have F5 := hide ((F.out.below ((Below.refl _ _).alloc (Nat.le_refl _) _)).grown (O.out.alloc _) hg5)
        clear hg5
        go_wp2
        go_roundw
        case rel => exact ⟨b, k, _, by first | rfl | go_num, by simp, HW2, by rw [List.map_append]; exact ho5, F5.out⟩
        case measure => have := HE.out; simp [intOf]; omega
      · have hlt' : ¬ ((i : Int) < (b : Int) + (k : Int)) := by omega
        have HDEC : Hid (decide ((i : Int) < (b : Int) + (k : Int)) = false) := hide (decide_eq_false hlt')
        have HW2 := hide (HWI.out.upper (endsL i) hs' HKE.out hlt)
        go_wp2_with (refine step_appendO (b := (decide ((i : Int) < (b : Int) + (k : Int)))) rfl rfl rfl (O.out.alloc _) (cell_newB _ _) (by rw [HLN.out]; omega) (by have := F.out.bel.size; simp; omega) ?_)
        intro v5 w5 ho5 hg5
        rw [HDEC.out] at ho5
        have F5 := hide ((F.out.below ((Below.refl _ _).alloc (Nat.le_refl _) _)).grown (O.out.alloc _) hg5)
        clear hg5
        go_wp2
        go_roundw
        case rel => exact ⟨(b + k), (n - k), _, by first | rfl | go_num, by rw [show b + k + (n - k) = e by have := HE.out; omega], HW2, by rw [List.map_append]; exact ho5, F5.out⟩
        case measure => have := HE.out; simp [intOf]; omega
    · have hgt' : ¬ ((1 : Int) < (e : Int) - (b : Int)) := by omega
      obtain rfl : n = 1 := by omega
      have hall := HWI.out.all
      rw [dw_stop (show stopL b 1 = true by simp [stopL])] at hall
      simp only [List.append_nil] at hall
      have HHS : Hid (hvL i 0 l = ps.reverse) := hide (by rw [HHV.out, ← hall])
      have hpl : ps.length = q2 := by rw [HQ.out, HHS.out, List.length_reverse]
      have HPL := hide hpl
      obtain ⟨al, cal, rfl, hcl⟩ := O.out.at
      rw [HLN.out, hpl] at hcl O ⊢
      have HCL := hide hcl
      clear hcl hpl hall he hps
      go_wp2_with fail
      refine joinC (fun g h W => Blk W g 26 (u8s (dat xs i)) ∧ Blk W h 26 (u8s leaf) ∧ g ≠ h ∧ wr.heap.size ≤ g ∧ wr.heap.size ≤ h ∧ Below wr.heap.size wr W) ?act ?tail (fun hjoin => ?_)
      rotate_left
      rotate_left
      · refine wp_region_noPanic ?_
        have Y0 := hide ((Below.refl wr.heap.size wr).drew)
        have hu := aD.und
        have HI1 : Hid ((Tryd.prog.info? 26).map (·.size) = some (u8s (dat xs i)).length) := hide (by rw [wD.size, HDU.out])
        have HI2 : Hid ((Tryd.prog.info? 26).map (·.size) = some (u8s leaf).length) := hide (by rw [wD.size, HLU.out])
        have HD0 := hide (fun v (hv : Below wr.heap.size wr v) => HDR.out v (on_below F.out.bel hv))
        have HL0 : Hid (∀ v : World, Below wr.heap.size wr v → v.rangeAt g6 0 (u8s leaf)) := hide (fun v hv => (F.out.g.on hv).range 0 _ (by simp))
        refine wp_region_held_drew (S := fun v : World => Below wr.heap.size wr v) (by kernel_rfl) Y0.out (fun hHeld => ?_)
        refine takeH 0 62 (.slice (some ⟨bl, o, none⟩) l cap) hHeld rfl rfl (by kernel_rfl) (by kernel_rfl) (by kernel_rfl) (fun _ _ _ h => h) (Or.inl ⟨by rfl, fun w _ => by go_simp⟩) ?_
        simp only [Act.put, List.setIfInBounds_toArray, List.set_cons_zero, List.set_cons_succ]
        refine takeH 1 63 (.int .i64 (i : Int)) hHeld rfl rfl (by kernel_rfl) (by kernel_rfl) (by kernel_rfl) (fun _ _ _ h => h) (Or.inl ⟨by rfl, fun w _ => by go_simp⟩) ?_
        simp only [Act.put, List.setIfInBounds_toArray, List.set_cons_zero, List.set_cons_succ]
        refine takeH 2 64 (.pointer (some ⟨bl, o + 32 * i, none⟩)) hHeld rfl rfl (by kernel_rfl) (by kernel_rfl) (by kernel_rfl) (fun _ _ _ h => h) (Or.inl ⟨by rfl, fun w _ => run_op rfl ((d_at bl o l cap i (i : Int) rfl hi) w)⟩) ?_
        simp only [Act.put, List.setIfInBounds_toArray, List.set_cons_zero, List.set_cons_succ]
        refine takeH 3 65 (.agg (u8s (dat xs i)).toArray) hHeld rfl rfl (by kernel_rfl) (by kernel_rfl) (by kernel_rfl) (fun _ _ _ h => h) (yieldsIf_load_mid (by rfl) _ _ rfl bl (o + 32 * i) rfl _ _ (fun w h => HD0.out w h) hu rfl HI1.out) ?_
        simp only [Act.put, List.setIfInBounds_toArray, List.set_cons_zero, List.set_cons_succ]
        refine takeH 4 66 (.agg (u8s leaf).toArray) hHeld rfl rfl (by kernel_rfl) (by kernel_rfl) (by kernel_rfl) (fun _ _ _ h => h) (yieldsIf_load_mid (by rfl) _ _ rfl g6 0 rfl _ _ (fun w h => HL0.out w h) hu rfl HI2.out) ?_
        simp only [Act.put, List.setIfInBounds_toArray, List.set_cons_zero, List.set_cons_succ]
        refine wpAnyH_ready (rs := [5, 6]) (by kernel_rfl) (by simp) (AllReadyH.cons rfl (fun K hK => ?_) (AllReadyH.cons rfl (fun K hK => ?_) AllReadyH.nil))
        · rw [if_pos (by rfl)]
          refine wp_allocG zD ?_
          intro v1 ga ha hla hv1
          have GA := hide ha
          have hwa : wr.heap.size ≤ ga := Nat.le_trans Y0.out.size hla
          have Y1 := hide (on_below Y0.out hv1)
          refine hK.out _ _ Y1.out (fun hHeld => ?_)
          clear hK K
          simp only [Act.put, List.setIfInBounds_toArray, List.set_cons_zero, List.set_cons_succ]
          refine wpAnyH_ready (rs := [6]) (by kernel_rfl) (by simp) (AllReadyH.cons rfl (fun K hK => ?_) AllReadyH.nil)
          rw [if_pos (by rfl)]
          refine wp_allocG zD ?_
          intro v2 gb hb hlb2 hv2
          have GB := hide hb
          have hwb : wr.heap.size ≤ gb := Nat.le_trans Y1.out.size hlb2
          have hne : ga ≠ gb := by have := GA.out.lt; omega
          have GA2 := hide (GA.out.on hv2)
          have Y2 := hide (on_below Y1.out hv2)
          refine hK.out _ _ Y2.out (fun hHeld => ?_)
          clear hK K
          simp only [Act.put, List.setIfInBounds_toArray, List.set_cons_zero, List.set_cons_succ]
          refine wpAnyH_ready (rs := [7]) (by kernel_rfl) (by simp) (AllReadyH.cons rfl (fun K hK => ?_) AllReadyH.nil)
          rw [if_pos (by rfl)]
          refine wp_storeW wD rfl rfl rfl GA2.out HDU.out (One.u8 _) (by rw [u8s_length, zer_length]; omega) ?_
          intro z1 hz1 hbz1
          rw [spl_same _ _ (zer_length 32) HDL.out] at hz1
          refine hK.out _ _ (Y2.out.trans (hbz1.below hwa)) (fun hHeld => ?_)
          clear hK K
          simp only [Act.put]
          refine wpAnyH_ready (rs := [8]) (by kernel_rfl) (by simp) (AllReadyH.cons rfl (fun K hK => ?_) AllReadyH.nil)
          rw [if_pos (by rfl)]
          refine wp_storeW wD rfl rfl rfl (GB.out.but hbz1 hne.symm) HLU.out (One.u8 _) (by rw [u8s_length, zer_length]; omega) ?_
          intro z2 hz2 hbz2
          rw [spl_same _ _ (zer_length 32) HLL.out] at hz2
          refine hK.out _ _ ((Y2.out.trans (hbz1.below hwa)).trans (hbz2.below hwb)) (fun hHeld => ?_)
          clear hK K
          simp only [Act.put]
          refine wpAnyH_done (by kernel_rfl) ?_ _
          refine NoPanic.normal ?_
          exact hjoin ga gb _ ⟨hz1.but hbz2 hne, hz2, hne, hwa, hwb, (Y2.out.trans (hbz1.below hwa)).trans (hbz2.below hwb)⟩
        · rw [if_pos (by rfl)]
          refine wp_allocG zD ?_
          intro v1 gb hb hlb2 hv1
          have GB := hide hb
          have hwb : wr.heap.size ≤ gb := Nat.le_trans Y0.out.size hlb2
          have Y1 := hide (on_below Y0.out hv1)
          refine hK.out _ _ Y1.out (fun hHeld => ?_)
          clear hK K
          simp only [Act.put, List.setIfInBounds_toArray, List.set_cons_zero, List.set_cons_succ]
          refine wpAnyH_ready (rs := [5]) (by kernel_rfl) (by simp) (AllReadyH.cons rfl (fun K hK => ?_) AllReadyH.nil)
          rw [if_pos (by rfl)]
          refine wp_allocG zD ?_
          intro v2 ga ha hla hv2
          have GA := hide ha
          have hwa : wr.heap.size ≤ ga := Nat.le_trans Y1.out.size hla
          have hne : ga ≠ gb := by have := GB.out.lt; omega
          have GB2 := hide (GB.out.on hv2)
          have Y2 := hide (on_below Y1.out hv2)
          refine hK.out _ _ Y2.out (fun hHeld => ?_)
          clear hK K
          simp only [Act.put, List.setIfInBounds_toArray, List.set_cons_zero, List.set_cons_succ]
          refine wpAnyH_ready (rs := [7]) (by kernel_rfl) (by simp) (AllReadyH.cons rfl (fun K hK => ?_) AllReadyH.nil)
          rw [if_pos (by rfl)]
          refine wp_storeW wD rfl rfl rfl GA.out HDU.out (One.u8 _) (by rw [u8s_length, zer_length]; omega) ?_
          intro z1 hz1 hbz1
          rw [spl_same _ _ (zer_length 32) HDL.out] at hz1
          refine hK.out _ _ (Y2.out.trans (hbz1.below hwa)) (fun hHeld => ?_)
          clear hK K
          simp only [Act.put]
          refine wpAnyH_ready (rs := [8]) (by kernel_rfl) (by simp) (AllReadyH.cons rfl (fun K hK => ?_) AllReadyH.nil)
          rw [if_pos (by rfl)]
          refine wp_storeW wD rfl rfl rfl (GB2.out.but hbz1 hne.symm) HLU.out (One.u8 _) (by rw [u8s_length, zer_length]; omega) ?_
          intro z2 hz2 hbz2
          rw [spl_same _ _ (zer_length 32) HLL.out] at hz2
          refine hK.out _ _ ((Y2.out.trans (hbz1.below hwa)).trans (hbz2.below hwb)) (fun hHeld => ?_)
          clear hK K
          simp only [Act.put]
          refine wpAnyH_done (by kernel_rfl) ?_ _
          refine NoPanic.normal ?_
          exact hjoin ga gb _ ⟨hz1.but hbz2 hne, hz2, hne, hwa, hwb, (Y2.out.trans (hbz1.below hwa)).trans (hbz2.below hwb)⟩
      · rintro g16 g17 W0 ⟨ha, hb, hne, hla, hlb2, hbW⟩
        have hpb : ∀ x, aq = some x → x.block ≠ g16 ∧ x.block ≠ g17 := fun x hx => by
          obtain ⟨cs, hcs⟩ := F.out.pb x hx
          have := hcs.lt
          exact ⟨by omega, by omega⟩
        have hw16 : w.heap.size ≤ g16 := Nat.le_trans F.out.bel.size hla
        have hw17 : w.heap.size ≤ g17 := Nat.le_trans F.out.bel.size hlb2
        have C0 : Hid (CM w W0 g16 g17 aq q2 cq (path xs i) (dat xs i) leaf (.slice al q2 cal) (ps.map lft)) := hide ⟨F.out.ds.below hbW, hpb, ha, hb, O.out.below hbW, on_below F.out.bel hbW⟩
        clear ha hb hla hlb2 hbW hpb F O HDR HCL HWI
        rw [HHS.out] at HEQ HPART HAL HAB HBL HBB
        have HXL := hide HP.out.hlen
        have HXB := hide HP.out.hbyte
        go_wp2
        go_loopw [18] (fun s W => ∃ k : Nat, k ≤ q2 ∧ s = .int .i64 (k : Int) ∧ Hid (Part ps.reverse (path xs i) X (dat xs i) leaf q2 k) ∧ CM w W g16 g17 aq q2 cq (path xs i) (fu ps.reverse (path xs i) (dat xs i) k) (fu ps.reverse X leaf k) (.slice al q2 cal) (ps.map lft)) (fun s _ => q2 - (intOf s).toNat)
        case atStart => exact ⟨0, by omega, rfl, HPART, C0.out⟩
        case round =>
          obtain ⟨k, hkq, rfl, HPT, hC⟩ := hrel
          have C := hide hC
          clear hC C0
          by_cases hlt : k < q2
          · have hlt' : (k : Int) < (q2 : Int) := by omega
            obtain ⟨qb, qo, rfl⟩ := C.out.ds.place (by omega)
            obtain ⟨pb, po, rfl⟩ := HP.out.place (by omega)
            obtain ⟨a9, c9, e9, hc9⟩ := C.out.own.at
            obtain ⟨gL, hgL, hcL⟩ := hc9 (q2 - 1 - k) (by rw [HLN.out, HPL.out]; omega)
            have eal : al = some ⟨gL, 0, none⟩ := by cases e9; exact hgL
            subst eal
            clear e9 hc9 hgL hcL
            obtain ⟨h, hh0⟩ : ∃ h, ps.reverse.getD k 0 = h := ⟨_, rfl⟩
            have HLB : Hid ((ps.map lft).getD (q2 - 1 - k) false = lft h) := hide (by
              have hk9 : q2 - 1 - k < ps.length := by rw [HPL.out]; omega
              rw [← hh0]
              have e9 : ps[q2 - 1 - k]? = some ps[q2 - 1 - k] := List.getElem?_eq_getElem hk9
              simp only [List.getD, List.getElem?_map, List.getElem?_reverse (show k < ps.length by rw [HPL.out]; exact hlt), HPL.out]
              rw [e9]
              rfl)
            have HFA0 : Hid (fu ps.reverse (path xs i) (dat xs i) (k + 1) = jn h (fu ps.reverse (path xs i) (dat xs i) k) (dat (path xs i) k)) := hide (by show jn (ps.reverse.getD k 0) _ _ = _; rw [hh0])
            have HFB0 : Hid (fu ps.reverse X leaf (k + 1) = jn h (fu ps.reverse X leaf k) (dat X k)) := hide (by show jn (ps.reverse.getD k 0) _ _ = _; rw [hh0])
            have HAK := hide (HAL.out k)
            have HAKB := hide (HAB.out k)
            have HBK := hide (HBL.out k)
            have HBKB := hide (HBB.out k)
            have HPK := hide (dat_length C.out.ds.hlen hlt)
            have HPKB := hide (dat_isB C.out.ds.hbyte k)
            have HXK := hide (dat_length HXL.out hlt)
            have HXKB := hide (dat_isB HXB.out k)
            have HPR : Hid (∀ v : World, Ds v (some ⟨qb, qo, none⟩) q2 cq (path xs i) → v.rangeAt qb (qo + 32 * k) (u8s (dat (path xs i) k))) := hide fun v hv => hv.range k hlt
            have HXR : Hid (∀ v : World, Below w.heap.size w v → v.rangeAt pb (po + 32 * k) (u8s (dat X k))) := hide fun v hv => (HP.out.below hv).range k hlt
            generalize hAk : fu ps.reverse (path xs i) (dat xs i) k = Ak at *
            generalize hBk : fu ps.reverse X leaf k = Bk at *
            generalize hPk : dat (path xs i) k = Pk at *
            generalize hXk : dat X k = Xk at *
            have HAKE := hide hAk
            have HBKE := hide hBk
            have HPKE := hide hPk
            have HXKE := hide hXk
            obtain ⟨NA, hNA⟩ : ∃ NA, jn h Ak Pk = NA := ⟨_, rfl⟩
            obtain ⟨NB, hNB⟩ : ∃ NB, jn h Bk Xk = NB := ⟨_, rfl⟩
            have HNA := hide hNA.symm
            have HNB := hide hNB.symm
            have HFA := hide (HFA0.out.trans hNA)
            have HFB := hide (HFB0.out.trans hNB)
            have HI1 : Hid ((Tryd.prog.info? 26).map (·.size) = some (u8s Ak).length) := hide (by rw [wD.size, u8s_length, HAK.out])
            have HI2 : Hid ((Tryd.prog.info? 26).map (·.size) = some (u8s Bk).length) := hide (by rw [wD.size, u8s_length, HBK.out])
            have HI3 : Hid ((Tryd.prog.info? 26).map (·.size) = some (u8s Pk).length) := hide (by rw [wD.size, u8s_length, HPK.out])
            have HI4 : Hid ((Tryd.prog.info? 26).map (·.size) = some (u8s Xk).length) := hide (by rw [wD.size, u8s_length, HXK.out])
            have hu := aD.und
            have hix := o_at7 gL q2 cal (q2 - 1 - k) ((q2 : Int) - 1 - (k : Int)) (by omega) (by omega)
            have HPP : Hid (∃ P, path xs i = P) := hide ⟨_, rfl⟩
            clear hAk hBk hPk hXk hNA hNB HFA0 HFB0 hh0
            generalize hP : path xs i = P at *
            clear hP
            by_cases hab1 : Ak = Bk
            · have HU1 : Hid ((!decide (Ak = Bk)) = false) := hide (by simp [hab1])
              by_cases hab2 : Xk = Pk
              · have HU2 : Hid ((!decide (Xk = Pk)) = false) := hide (by simp [hab2])
                have HNU : Hid (¬ (Ak ≠ Bk ∨ Xk ≠ Pk)) := hide (by rintro (h | h); exact h hab1; exact h hab2)
                clear hab1 hab2
                go_wp2_with fail
                refine wp_region_noPanic ?_
                have C0 := hide (C.out.below ((Below.refl _ _).drew))
                refine wp_region_held_drew (S := fun v : World => CM w v g16 g17 (some ⟨qb, qo, none⟩) q2 cq P Ak Bk (.slice (some ⟨gL, 0, none⟩) q2 cal) (ps.map lft)) (by kernel_rfl) C0.out (fun hHeld => ?_)
                refine takeH 0 73 (.agg (u8s Ak).toArray) hHeld rfl rfl (by kernel_rfl) (by kernel_rfl) (by kernel_rfl) (fun _ _ _ h => h) (yieldsIf_load_mid (by rfl) _ _ rfl g16 0 rfl _ _ (fun w h => h.a.range 0 _ (by simp)) hu rfl HI1.out) ?_
                simp only [Act.put, List.setIfInBounds_toArray, List.set_cons_zero, List.set_cons_succ]
                refine takeH 1 74 (.agg (u8s Bk).toArray) hHeld rfl rfl (by kernel_rfl) (by kernel_rfl) (by kernel_rfl) (fun _ _ _ h => h) (yieldsIf_load_mid (by rfl) _ _ rfl g17 0 rfl _ _ (fun w h => h.b.range 0 _ (by simp)) hu rfl HI2.out) ?_
                simp only [Act.put, List.setIfInBounds_toArray, List.set_cons_zero, List.set_cons_succ]
                refine takeH 2 75 (.bool false) hHeld rfl rfl (by kernel_rfl) (by kernel_rfl) (by kernel_rfl) (fun _ _ _ h => h) (Or.inl ⟨by rfl, fun v _ => run_neQ aD _ rfl rfl HAK.out HBK.out HU1.out⟩) ?_
                simp only [Act.put, List.setIfInBounds_toArray, List.set_cons_zero, List.set_cons_succ]
                refine takeH 3 76 (.bool false) hHeld rfl rfl (by kernel_rfl) (by kernel_rfl) (by kernel_rfl) (fun _ _ _ h => h) (Or.inl ⟨by rfl, fun w _ => by go_simp⟩) ?_
                simp only [Act.put, List.setIfInBounds_toArray, List.set_cons_zero, List.set_cons_succ]
                refine takeH 4 77 (.slice (some ⟨pb, po, none⟩) q2 cp) hHeld rfl rfl (by kernel_rfl) (by kernel_rfl) (by kernel_rfl) (fun _ _ _ h => h) (Or.inl ⟨by rfl, fun w _ => by go_simp⟩) ?_
                simp only [Act.put, List.setIfInBounds_toArray, List.set_cons_zero, List.set_cons_succ]
                refine takeH 5 78 (.int .i64 (k : Int)) hHeld rfl rfl (by kernel_rfl) (by kernel_rfl) (by kernel_rfl) (fun _ _ _ h => h) (Or.inl ⟨by rfl, fun w _ => by go_simp⟩) ?_
                simp only [Act.put, List.setIfInBounds_toArray, List.set_cons_zero, List.set_cons_succ]
                refine takeH 6 79 (.pointer (some ⟨pb, po + 32 * k, none⟩)) hHeld rfl rfl (by kernel_rfl) (by kernel_rfl) (by kernel_rfl) (fun _ _ _ h => h) (Or.inl ⟨by rfl, fun w _ => run_op rfl ((d_at pb po q2 cp k (k : Int) rfl hlt) w)⟩) ?_
                simp only [Act.put, List.setIfInBounds_toArray, List.set_cons_zero, List.set_cons_succ]
                refine takeH 7 80 (.agg (u8s Xk).toArray) hHeld rfl rfl (by kernel_rfl) (by kernel_rfl) (by kernel_rfl) (fun _ _ _ h => h) (yieldsIf_load_mid (by rfl) _ _ rfl pb (po + 32 * k) rfl _ _ (fun w h => HXR.out w h.bel) hu rfl HI4.out) ?_
                simp only [Act.put, List.setIfInBounds_toArray, List.set_cons_zero, List.set_cons_succ]
                refine takeH 8 81 (.slice (some ⟨qb, qo, none⟩) q2 cq) hHeld rfl rfl (by kernel_rfl) (by kernel_rfl) (by kernel_rfl) (fun _ _ _ h => h) (Or.inl ⟨by rfl, fun w _ => by go_simp⟩) ?_
                simp only [Act.put, List.setIfInBounds_toArray, List.set_cons_zero, List.set_cons_succ]
                refine takeH 9 82 (.int .i64 (k : Int)) hHeld rfl rfl (by kernel_rfl) (by kernel_rfl) (by kernel_rfl) (fun _ _ _ h => h) (Or.inl ⟨by rfl, fun w _ => by go_simp⟩) ?_
                simp only [Act.put, List.setIfInBounds_toArray, List.set_cons_zero, List.set_cons_succ]
                refine takeH 10 83 (.pointer (some ⟨qb, qo + 32 * k, none⟩)) hHeld rfl rfl (by kernel_rfl) (by kernel_rfl) (by kernel_rfl) (fun _ _ _ h => h) (Or.inl ⟨by rfl, fun w _ => run_op rfl ((d_at qb qo q2 cq k (k : Int) rfl hlt) w)⟩) ?_
                simp only [Act.put, List.setIfInBounds_toArray, List.set_cons_zero, List.set_cons_succ]
                refine takeH 11 84 (.agg (u8s Pk).toArray) hHeld rfl rfl (by kernel_rfl) (by kernel_rfl) (by kernel_rfl) (fun _ _ _ h => h) (yieldsIf_load_mid (by rfl) _ _ rfl qb (qo + 32 * k) rfl _ _ (fun w h => HPR.out w h.ds) hu rfl HI3.out) ?_
                simp only [Act.put, List.setIfInBounds_toArray, List.set_cons_zero, List.set_cons_succ]
                refine takeH 12 85 (.bool false) hHeld rfl rfl (by kernel_rfl) (by kernel_rfl) (by kernel_rfl) (fun _ _ _ h => h) (Or.inl ⟨by rfl, fun v _ => run_neQ aD _ rfl rfl HXK.out HPK.out HU2.out⟩) ?_
                simp only [Act.put, List.setIfInBounds_toArray, List.set_cons_zero, List.set_cons_succ]
                refine takeH 13 86 (.bool false) hHeld rfl rfl (by kernel_rfl) (by kernel_rfl) (by kernel_rfl) (fun _ _ _ h => h) (Or.inl ⟨by rfl, fun w _ => by go_simp⟩) ?_
                simp only [Act.put, List.setIfInBounds_toArray, List.set_cons_zero, List.set_cons_succ]
                refine takeH 14 19 (.bool false) hHeld rfl rfl (by kernel_rfl) (by kernel_rfl) (by kernel_rfl) (fun _ _ _ h => h) (Or.inl ⟨by rfl, fun w _ => by go_simp⟩) ?_
                simp only [Act.put, List.setIfInBounds_toArray, List.set_cons_zero, List.set_cons_succ]
                refine wpAnyH_done (by kernel_rfl) ?_ _
                refine NoPanic.normal ?_
                clear hHeld
                have hcL := C0.out.own.cell7 (q2 - 1 - k) (by rw [HLN.out, HPL.out]; omega)
                rw [HLB.out] at hcL
                by_cases hh : h = 1
                · subst hh
                  have hl1 : lft 1 = false := by decide
                  rw [hl1] at hcL
                  go_wp2_with fail
                  clear hcL
                  have HJ1 : Hid (NA = nd Pk Ak) := hide (by rw [HNA.out]; first | rfl | (unfold jn; rw [if_neg hh]))
                  have HJ2 : Hid (NB = nd Xk Bk) := hide (by rw [HNB.out]; first | rfl | (unfold jn; rw [if_neg hh]))
                  refine joinD (fun W => CM w W g16 g17 (some ⟨qb, qo, none⟩) q2 cq P (nd Pk Ak) (nd Xk Bk) (.slice (some ⟨gL, 0, none⟩) q2 cal) (ps.map lft)) ?acta1 ?taila1 (fun hjoin => ?_)
                  rotate_left
                  rotate_left
                  · refine wp_region_noPanic ?_
                    have D0 := hide (C0.out.below ((Below.refl _ _).drew))
                    have hS : ∀ (v : World) (A B : List Int), CM w v g16 g17 (some ⟨qb, qo, none⟩) q2 cq P A B (.slice (some ⟨gL, 0, none⟩) q2 cal) (ps.map lft) → v.rangeAt qb (qo + 32 * k) (u8s Pk) ∧ v.rangeAt pb (po + 32 * k) (u8s Xk) := fun v A B h1 => ⟨HPR.out v h1.ds, HXR.out v h1.bel⟩
                    refine wp_region_held_drew (S := fun v : World => v.rangeAt qb (qo + 32 * k) (u8s Pk) ∧ v.rangeAt pb (po + 32 * k) (u8s Xk)) (by kernel_rfl) (hS _ _ _ D0.out) (fun hHeld => ?_)
                    refine takeH 0 107 (.slice (some ⟨qb, qo, none⟩) q2 cq) hHeld rfl rfl (by kernel_rfl) (by kernel_rfl) (by kernel_rfl) (fun _ _ _ h => h) (Or.inl ⟨by rfl, fun w _ => by go_simp⟩) ?_
                    simp only [Act.put, List.setIfInBounds_toArray, List.set_cons_zero, List.set_cons_succ]
                    refine takeH 1 108 (.int .i64 (k : Int)) hHeld rfl rfl (by kernel_rfl) (by kernel_rfl) (by kernel_rfl) (fun _ _ _ h => h) (Or.inl ⟨by rfl, fun w _ => by go_simp⟩) ?_
                    simp only [Act.put, List.setIfInBounds_toArray, List.set_cons_zero, List.set_cons_succ]
                    refine takeH 2 109 (.pointer (some ⟨qb, qo + 32 * k, none⟩)) hHeld rfl rfl (by kernel_rfl) (by kernel_rfl) (by kernel_rfl) (fun _ _ _ h => h) (Or.inl ⟨by rfl, fun w _ => run_op rfl ((d_at qb qo q2 cq k (k : Int) rfl hlt) w)⟩) ?_
                    simp only [Act.put, List.setIfInBounds_toArray, List.set_cons_zero, List.set_cons_succ]
                    refine takeH 3 110 (.agg (u8s Pk).toArray) hHeld rfl rfl (by kernel_rfl) (by kernel_rfl) (by kernel_rfl) (fun _ _ _ h => h) (yieldsIf_load_mid (by rfl) _ _ rfl qb (qo + 32 * k) rfl _ _ (fun w h => h.1) hu rfl HI3.out) ?_
                    simp only [Act.put, List.setIfInBounds_toArray, List.set_cons_zero, List.set_cons_succ]
                    refine takeH 6 113 (.slice (some ⟨pb, po, none⟩) q2 cp) hHeld rfl rfl (by kernel_rfl) (by kernel_rfl) (by kernel_rfl) (fun _ _ _ h => h) (Or.inl ⟨by rfl, fun w _ => by go_simp⟩) ?_
                    simp only [Act.put, List.setIfInBounds_toArray, List.set_cons_zero, List.set_cons_succ]
                    refine takeH 7 114 (.int .i64 (k : Int)) hHeld rfl rfl (by kernel_rfl) (by kernel_rfl) (by kernel_rfl) (fun _ _ _ h => h) (Or.inl ⟨by rfl, fun w _ => by go_simp⟩) ?_
                    simp only [Act.put, List.setIfInBounds_toArray, List.set_cons_zero, List.set_cons_succ]
                    refine takeH 8 115 (.pointer (some ⟨pb, po + 32 * k, none⟩)) hHeld rfl rfl (by kernel_rfl) (by kernel_rfl) (by kernel_rfl) (fun _ _ _ h => h) (Or.inl ⟨by rfl, fun w _ => run_op rfl ((d_at pb po q2 cp k (k : Int) rfl hlt) w)⟩) ?_
                    simp only [Act.put, List.setIfInBounds_toArray, List.set_cons_zero, List.set_cons_succ]
                    refine takeH 9 116 (.agg (u8s Xk).toArray) hHeld rfl rfl (by kernel_rfl) (by kernel_rfl) (by kernel_rfl) (fun _ _ _ h => h) (yieldsIf_load_mid (by rfl) _ _ rfl pb (po + 32 * k) rfl _ _ (fun w h => h.2) hu rfl HI4.out) ?_
                    simp only [Act.put, List.setIfInBounds_toArray, List.set_cons_zero, List.set_cons_succ]
                    refine wpAnyH_ready (rs := [4, 10]) (by kernel_rfl) (by simp) (AllReadyH.cons rfl (fun K hK => ?_) (AllReadyH.cons rfl (fun K hK => ?_) AllReadyH.nil))
                    · rw [if_pos (by rfl)]
                      refine wp_loadWG wD rfl D0.out.a (by rw [u8s_length]; exact HAK.out) ?_
                      refine hK.out _ _ (hS _ _ _ D0.out) (fun hHeld => ?_)
                      clear hK K
                      simp only [Act.put]
                      refine wpAnyH_ready (rs := [5, 10]) (by kernel_rfl) (by simp) (AllReadyH.cons rfl (fun K hK => ?_) (AllReadyH.cons rfl (fun K hK => ?_) AllReadyH.nil))
                      · rw [if_pos (by rfl)]
                        go_simp
                        refine (node_any Pk Ak _ HPK.out HPKB.out HAK.out HAKB.out (HK.out.below D0.out.bel HK.out.lt)).mono ?_
                        rintro r v1 ⟨rfl, hv1⟩
                        have D1 := hide (D0.out.below hv1)
                        refine hK.out _ _ (hS _ _ _ D1.out) (fun hHeld => ?_)
                        clear hK K
                        try simp only [Act.put]
                        refine wpAnyH_ready (rs := [10]) (by kernel_rfl) (by simp) (AllReadyH.cons rfl (fun K hK => ?_) AllReadyH.nil)
                        rw [if_pos (by rfl)]
                        refine wp_loadWG wD rfl D1.out.b (by rw [u8s_length]; exact HBK.out) ?_
                        refine hK.out _ _ (hS _ _ _ D1.out) (fun hHeld => ?_)
                        clear hK K
                        simp only [Act.put]
                        refine wpAnyH_ready (rs := [11]) (by kernel_rfl) (by simp) (AllReadyH.cons rfl (fun K hK => ?_) AllReadyH.nil)
                        rw [if_pos (by rfl)]
                        go_simp
                        refine (node_any Xk Bk _ HXK.out HXKB.out HBK.out HBKB.out (HK.out.below D1.out.bel HK.out.lt)).mono ?_
                        rintro r v2 ⟨rfl, hv2⟩
                        have D2 := hide (D1.out.below hv2)
                        refine hK.out _ _ (hS _ _ _ D2.out) (fun hHeld => ?_)
                        clear hK K
                        refine wpAnyH_ready (rs := [12]) (by kernel_rfl) (by simp) (AllReadyH.cons rfl (fun K hK => ?_) AllReadyH.nil)
                        rw [if_pos (by rfl)]
                        refine wp_storeW wD rfl rfl rfl D2.out.a (by rw [u8s_length]; exact nd_length _ _) (One.u8 _) (by rw [u8s_length, HAK.out]; omega) ?_
                        intro v3 hg3 hbut3
                        rw [spl_same _ _ HAK.out (nd_length _ _)] at hg3
                        have D3 := hide (D2.out.set16 hbut3 hg3 hw16 hne)
                        refine hK.out _ _ (hS _ _ _ D3.out) (fun hHeld => ?_)
                        clear hK K
                        simp only [Act.put]
                        refine wpAnyH_ready (rs := [13]) (by kernel_rfl) (by simp) (AllReadyH.cons rfl (fun K hK => ?_) AllReadyH.nil)
                        rw [if_pos (by rfl)]
                        refine wp_storeW wD rfl rfl rfl D3.out.b (by rw [u8s_length]; exact nd_length _ _) (One.u8 _) (by rw [u8s_length, HBK.out]; omega) ?_
                        intro v4 hg4 hbut4
                        rw [spl_same _ _ HBK.out (nd_length _ _)] at hg4
                        have D4 := hide (D3.out.set17 hbut4 hg4 hw17 hne)
                        refine hK.out _ _ (hS _ _ _ D4.out) (fun hHeld => ?_)
                        clear hK K
                        simp only [Act.put]
                        refine wpAnyH_done (by kernel_rfl) ?_ _
                        refine NoPanic.normal ?_
                        exact hjoin _ D4.out
                      · rw [if_pos (by rfl)]
                        refine wp_loadWG wD rfl D0.out.b (by rw [u8s_length]; exact HBK.out) ?_
                        refine hK.out _ _ (hS _ _ _ D0.out) (fun hHeld => ?_)
                        clear hK K
                        simp only [Act.put]
                        refine wpAnyH_ready (rs := [5]) (by kernel_rfl) (by simp) (AllReadyH.cons rfl (fun K hK => ?_) AllReadyH.nil)
                        rw [if_pos (by rfl)]
                        go_simp
                        refine (node_any Pk Ak _ HPK.out HPKB.out HAK.out HAKB.out (HK.out.below D0.out.bel HK.out.lt)).mono ?_
                        rintro r v1 ⟨rfl, hv1⟩
                        have D1 := hide (D0.out.below hv1)
                        refine hK.out _ _ (hS _ _ _ D1.out) (fun hHeld => ?_)
                        clear hK K
                        try simp only [Act.put]
                        refine wpAnyH_ready (rs := [11]) (by kernel_rfl) (by simp) (AllReadyH.cons rfl (fun K hK => ?_) AllReadyH.nil)
                        rw [if_pos (by rfl)]
                        go_simp
                        refine (node_any Xk Bk _ HXK.out HXKB.out HBK.out HBKB.out (HK.out.below D1.out.bel HK.out.lt)).mono ?_
                        rintro r v2 ⟨rfl, hv2⟩
                        have D2 := hide (D1.out.below hv2)
                        refine hK.out _ _ (hS _ _ _ D2.out) (fun hHeld => ?_)
                        clear hK K
                        refine wpAnyH_ready (rs := [12]) (by kernel_rfl) (by simp) (AllReadyH.cons rfl (fun K hK => ?_) AllReadyH.nil)
                        rw [if_pos (by rfl)]
                        refine wp_storeW wD rfl rfl rfl D2.out.a (by rw [u8s_length]; exact nd_length _ _) (One.u8 _) (by rw [u8s_length, HAK.out]; omega) ?_
                        intro v3 hg3 hbut3
                        rw [spl_same _ _ HAK.out (nd_length _ _)] at hg3
                        have D3 := hide (D2.out.set16 hbut3 hg3 hw16 hne)
                        refine hK.out _ _ (hS _ _ _ D3.out) (fun hHeld => ?_)
                        clear hK K
                        simp only [Act.put]
                        refine wpAnyH_ready (rs := [13]) (by kernel_rfl) (by simp) (AllReadyH.cons rfl (fun K hK => ?_) AllReadyH.nil)
                        rw [if_pos (by rfl)]
                        refine wp_storeW wD rfl rfl rfl D3.out.b (by rw [u8s_length]; exact nd_length _ _) (One.u8 _) (by rw [u8s_length, HBK.out]; omega) ?_
                        intro v4 hg4 hbut4
                        rw [spl_same _ _ HBK.out (nd_length _ _)] at hg4
                        have D4 := hide (D3.out.set17 hbut4 hg4 hw17 hne)
                        refine hK.out _ _ (hS _ _ _ D4.out) (fun hHeld => ?_)
                        clear hK K
                        simp only [Act.put]
                        refine wpAnyH_done (by kernel_rfl) ?_ _
                        refine NoPanic.normal ?_
                        exact hjoin _ D4.out
                    · rw [if_pos (by rfl)]
                      refine wp_loadWG wD rfl D0.out.b (by rw [u8s_length]; exact HBK.out) ?_
                      refine hK.out _ _ (hS _ _ _ D0.out) (fun hHeld => ?_)
                      clear hK K
                      simp only [Act.put]
                      refine wpAnyH_ready (rs := [4]) (by kernel_rfl) (by simp) (AllReadyH.cons rfl (fun K hK => ?_) AllReadyH.nil)
                      rw [if_pos (by rfl)]
                      refine wp_loadWG wD rfl D0.out.a (by rw [u8s_length]; exact HAK.out) ?_
                      refine hK.out _ _ (hS _ _ _ D0.out) (fun hHeld => ?_)
                      clear hK K
                      simp only [Act.put]
                      refine wpAnyH_ready (rs := [5]) (by kernel_rfl) (by simp) (AllReadyH.cons rfl (fun K hK => ?_) AllReadyH.nil)
                      rw [if_pos (by rfl)]
                      go_simp
                      refine (node_any Pk Ak _ HPK.out HPKB.out HAK.out HAKB.out (HK.out.below D0.out.bel HK.out.lt)).mono ?_
                      rintro r v1 ⟨rfl, hv1⟩
                      have D1 := hide (D0.out.below hv1)
                      refine hK.out _ _ (hS _ _ _ D1.out) (fun hHeld => ?_)
                      clear hK K
                      try simp only [Act.put]
                      refine wpAnyH_ready (rs := [11]) (by kernel_rfl) (by simp) (AllReadyH.cons rfl (fun K hK => ?_) AllReadyH.nil)
                      rw [if_pos (by rfl)]
                      go_simp
                      refine (node_any Xk Bk _ HXK.out HXKB.out HBK.out HBKB.out (HK.out.below D1.out.bel HK.out.lt)).mono ?_
                      rintro r v2 ⟨rfl, hv2⟩
                      have D2 := hide (D1.out.below hv2)
                      refine hK.out _ _ (hS _ _ _ D2.out) (fun hHeld => ?_)
                      clear hK K
                      refine wpAnyH_ready (rs := [12]) (by kernel_rfl) (by simp) (AllReadyH.cons rfl (fun K hK => ?_) AllReadyH.nil)
                      rw [if_pos (by rfl)]
                      refine wp_storeW wD rfl rfl rfl D2.out.a (by rw [u8s_length]; exact nd_length _ _) (One.u8 _) (by rw [u8s_length, HAK.out]; omega) ?_
                      intro v3 hg3 hbut3
                      rw [spl_same _ _ HAK.out (nd_length _ _)] at hg3
                      have D3 := hide (D2.out.set16 hbut3 hg3 hw16 hne)
                      refine hK.out _ _ (hS _ _ _ D3.out) (fun hHeld => ?_)
                      clear hK K
                      simp only [Act.put]
                      refine wpAnyH_ready (rs := [13]) (by kernel_rfl) (by simp) (AllReadyH.cons rfl (fun K hK => ?_) AllReadyH.nil)
                      rw [if_pos (by rfl)]
                      refine wp_storeW wD rfl rfl rfl D3.out.b (by rw [u8s_length]; exact nd_length _ _) (One.u8 _) (by rw [u8s_length, HBK.out]; omega) ?_
                      intro v4 hg4 hbut4
                      rw [spl_same _ _ HBK.out (nd_length _ _)] at hg4
                      have D4 := hide (D3.out.set17 hbut4 hg4 hw17 hne)
                      refine hK.out _ _ (hS _ _ _ D4.out) (fun hHeld => ?_)
                      clear hK K
                      simp only [Act.put]
                      refine wpAnyH_done (by kernel_rfl) ?_ _
                      refine NoPanic.normal ?_
                      exact hjoin _ D4.out
                  · rintro W4 hC4
                    have C4 := hide hC4
                    clear hC4 C0
                    rw [← HJ1.out, ← HJ2.out] at C4
                    have HNAL := hide (show NA.length = 32 by rw [HJ1.out, nd_length])
                    have HNBL := hide (show NB.length = 32 by rw [HJ2.out, nd_length])
                    have HNAU := hide (show (u8s NA).length = 32 by rw [u8s_length, HNAL.out])
                    have HNBU := hide (show (u8s NB).length = 32 by rw [u8s_length, HNBL.out])
                    go_wp2
                    go_roundw
                    case rel => exact ⟨k + 1, by omega, by simp, hide (HPT.out.next (fun hu => absurd hu (by rw [HAKE.out, HBKE.out, HXKE.out, HPKE.out]; exact HNU.out))), by rw [HFA.out, HFB.out]; exact C4.out⟩
                    case measure => simp only [intOf]; omega
                · have hl1 : lft h = true := by simp [lft, hh]
                  rw [hl1] at hcL
                  go_wp2_with fail
                  clear hcL
                  have HJ1 : Hid (NA = nd Ak Pk) := hide (by rw [HNA.out]; first | rfl | (unfold jn; rw [if_neg hh]))
                  have HJ2 : Hid (NB = nd Bk Xk) := hide (by rw [HNB.out]; first | rfl | (unfold jn; rw [if_neg hh]))
                  refine joinD (fun W => CM w W g16 g17 (some ⟨qb, qo, none⟩) q2 cq P (nd Ak Pk) (nd Bk Xk) (.slice (some ⟨gL, 0, none⟩) q2 cal) (ps.map lft)) ?acta2 ?taila2 (fun hjoin => ?_)
                  rotate_left
                  rotate_left
                  · refine wp_region_noPanic ?_
                    have D0 := hide (C0.out.below ((Below.refl _ _).drew))
                    have hS : ∀ (v : World) (A B : List Int), CM w v g16 g17 (some ⟨qb, qo, none⟩) q2 cq P A B (.slice (some ⟨gL, 0, none⟩) q2 cal) (ps.map lft) → v.rangeAt qb (qo + 32 * k) (u8s Pk) ∧ v.rangeAt pb (po + 32 * k) (u8s Xk) := fun v A B h1 => ⟨HPR.out v h1.ds, HXR.out v h1.bel⟩
                    refine wp_region_held_drew (S := fun v : World => v.rangeAt qb (qo + 32 * k) (u8s Pk) ∧ v.rangeAt pb (po + 32 * k) (u8s Xk)) (by kernel_rfl) (hS _ _ _ D0.out) (fun hHeld => ?_)
                    refine takeH 1 96 (.slice (some ⟨qb, qo, none⟩) q2 cq) hHeld rfl rfl (by kernel_rfl) (by kernel_rfl) (by kernel_rfl) (fun _ _ _ h => h) (Or.inl ⟨by rfl, fun w _ => by go_simp⟩) ?_
                    simp only [Act.put, List.setIfInBounds_toArray, List.set_cons_zero, List.set_cons_succ]
                    refine takeH 2 97 (.int .i64 (k : Int)) hHeld rfl rfl (by kernel_rfl) (by kernel_rfl) (by kernel_rfl) (fun _ _ _ h => h) (Or.inl ⟨by rfl, fun w _ => by go_simp⟩) ?_
                    simp only [Act.put, List.setIfInBounds_toArray, List.set_cons_zero, List.set_cons_succ]
                    refine takeH 3 98 (.pointer (some ⟨qb, qo + 32 * k, none⟩)) hHeld rfl rfl (by kernel_rfl) (by kernel_rfl) (by kernel_rfl) (fun _ _ _ h => h) (Or.inl ⟨by rfl, fun w _ => run_op rfl ((d_at qb qo q2 cq k (k : Int) rfl hlt) w)⟩) ?_
                    simp only [Act.put, List.setIfInBounds_toArray, List.set_cons_zero, List.set_cons_succ]
                    refine takeH 4 99 (.agg (u8s Pk).toArray) hHeld rfl rfl (by kernel_rfl) (by kernel_rfl) (by kernel_rfl) (fun _ _ _ h => h) (yieldsIf_load_mid (by rfl) _ _ rfl qb (qo + 32 * k) rfl _ _ (fun w h => h.1) hu rfl HI3.out) ?_
                    simp only [Act.put, List.setIfInBounds_toArray, List.set_cons_zero, List.set_cons_succ]
                    refine takeH 7 102 (.slice (some ⟨pb, po, none⟩) q2 cp) hHeld rfl rfl (by kernel_rfl) (by kernel_rfl) (by kernel_rfl) (fun _ _ _ h => h) (Or.inl ⟨by rfl, fun w _ => by go_simp⟩) ?_
                    simp only [Act.put, List.setIfInBounds_toArray, List.set_cons_zero, List.set_cons_succ]
                    refine takeH 8 103 (.int .i64 (k : Int)) hHeld rfl rfl (by kernel_rfl) (by kernel_rfl) (by kernel_rfl) (fun _ _ _ h => h) (Or.inl ⟨by rfl, fun w _ => by go_simp⟩) ?_
                    simp only [Act.put, List.setIfInBounds_toArray, List.set_cons_zero, List.set_cons_succ]
                    refine takeH 9 104 (.pointer (some ⟨pb, po + 32 * k, none⟩)) hHeld rfl rfl (by kernel_rfl) (by kernel_rfl) (by kernel_rfl) (fun _ _ _ h => h) (Or.inl ⟨by rfl, fun w _ => run_op rfl ((d_at pb po q2 cp k (k : Int) rfl hlt) w)⟩) ?_
                    simp only [Act.put, List.setIfInBounds_toArray, List.set_cons_zero, List.set_cons_succ]
                    refine takeH 10 105 (.agg (u8s Xk).toArray) hHeld rfl rfl (by kernel_rfl) (by kernel_rfl) (by kernel_rfl) (fun _ _ _ h => h) (yieldsIf_load_mid (by rfl) _ _ rfl pb (po + 32 * k) rfl _ _ (fun w h => h.2) hu rfl HI4.out) ?_
                    simp only [Act.put, List.setIfInBounds_toArray, List.set_cons_zero, List.set_cons_succ]
                    refine wpAnyH_ready (rs := [0, 6]) (by kernel_rfl) (by simp) (AllReadyH.cons rfl (fun K hK => ?_) (AllReadyH.cons rfl (fun K hK => ?_) AllReadyH.nil))
                    · rw [if_pos (by rfl)]
                      refine wp_loadWG wD rfl D0.out.a (by rw [u8s_length]; exact HAK.out) ?_
                      refine hK.out _ _ (hS _ _ _ D0.out) (fun hHeld => ?_)
                      clear hK K
                      simp only [Act.put]
                      refine wpAnyH_ready (rs := [5, 6]) (by kernel_rfl) (by simp) (AllReadyH.cons rfl (fun K hK => ?_) (AllReadyH.cons rfl (fun K hK => ?_) AllReadyH.nil))
                      · rw [if_pos (by rfl)]
                        go_simp
                        refine (node_any Ak Pk _ HAK.out HAKB.out HPK.out HPKB.out (HK.out.below D0.out.bel HK.out.lt)).mono ?_
                        rintro r v1 ⟨rfl, hv1⟩
                        have D1 := hide (D0.out.below hv1)
                        refine hK.out _ _ (hS _ _ _ D1.out) (fun hHeld => ?_)
                        clear hK K
                        try simp only [Act.put]
                        refine wpAnyH_ready (rs := [6]) (by kernel_rfl) (by simp) (AllReadyH.cons rfl (fun K hK => ?_) AllReadyH.nil)
                        rw [if_pos (by rfl)]
                        refine wp_loadWG wD rfl D1.out.b (by rw [u8s_length]; exact HBK.out) ?_
                        refine hK.out _ _ (hS _ _ _ D1.out) (fun hHeld => ?_)
                        clear hK K
                        simp only [Act.put]
                        refine wpAnyH_ready (rs := [11]) (by kernel_rfl) (by simp) (AllReadyH.cons rfl (fun K hK => ?_) AllReadyH.nil)
                        rw [if_pos (by rfl)]
                        go_simp
                        refine (node_any Bk Xk _ HBK.out HBKB.out HXK.out HXKB.out (HK.out.below D1.out.bel HK.out.lt)).mono ?_
                        rintro r v2 ⟨rfl, hv2⟩
                        have D2 := hide (D1.out.below hv2)
                        refine hK.out _ _ (hS _ _ _ D2.out) (fun hHeld => ?_)
                        clear hK K
                        refine wpAnyH_ready (rs := [12]) (by kernel_rfl) (by simp) (AllReadyH.cons rfl (fun K hK => ?_) AllReadyH.nil)
                        rw [if_pos (by rfl)]
                        refine wp_storeW wD rfl rfl rfl D2.out.a (by rw [u8s_length]; exact nd_length _ _) (One.u8 _) (by rw [u8s_length, HAK.out]; omega) ?_
                        intro v3 hg3 hbut3
                        rw [spl_same _ _ HAK.out (nd_length _ _)] at hg3
                        have D3 := hide (D2.out.set16 hbut3 hg3 hw16 hne)
                        refine hK.out _ _ (hS _ _ _ D3.out) (fun hHeld => ?_)
                        clear hK K
                        simp only [Act.put]
                        refine wpAnyH_ready (rs := [13]) (by kernel_rfl) (by simp) (AllReadyH.cons rfl (fun K hK => ?_) AllReadyH.nil)
                        rw [if_pos (by rfl)]
                        refine wp_storeW wD rfl rfl rfl D3.out.b (by rw [u8s_length]; exact nd_length _ _) (One.u8 _) (by rw [u8s_length, HBK.out]; omega) ?_
                        intro v4 hg4 hbut4
                        rw [spl_same _ _ HBK.out (nd_length _ _)] at hg4
                        have D4 := hide (D3.out.set17 hbut4 hg4 hw17 hne)
                        refine hK.out _ _ (hS _ _ _ D4.out) (fun hHeld => ?_)
                        clear hK K
                        simp only [Act.put]
                        refine wpAnyH_done (by kernel_rfl) ?_ _
                        refine NoPanic.normal ?_
                        exact hjoin _ D4.out
                      · rw [if_pos (by rfl)]
                        refine wp_loadWG wD rfl D0.out.b (by rw [u8s_length]; exact HBK.out) ?_
                        refine hK.out _ _ (hS _ _ _ D0.out) (fun hHeld => ?_)
                        clear hK K
                        simp only [Act.put]
                        refine wpAnyH_ready (rs := [5]) (by kernel_rfl) (by simp) (AllReadyH.cons rfl (fun K hK => ?_) AllReadyH.nil)
                        rw [if_pos (by rfl)]
                        go_simp
                        refine (node_any Ak Pk _ HAK.out HAKB.out HPK.out HPKB.out (HK.out.below D0.out.bel HK.out.lt)).mono ?_
                        rintro r v1 ⟨rfl, hv1⟩
                        have D1 := hide (D0.out.below hv1)
                        refine hK.out _ _ (hS _ _ _ D1.out) (fun hHeld => ?_)
                        clear hK K
                        try simp only [Act.put]
                        refine wpAnyH_ready (rs := [11]) (by kernel_rfl) (by simp) (AllReadyH.cons rfl (fun K hK => ?_) AllReadyH.nil)
                        rw [if_pos (by rfl)]
                        go_simp
                        refine (node_any Bk Xk _ HBK.out HBKB.out HXK.out HXKB.out (HK.out.below D1.out.bel HK.out.lt)).mono ?_
                        rintro r v2 ⟨rfl, hv2⟩
                        have D2 := hide (D1.out.below hv2)
                        refine hK.out _ _ (hS _ _ _ D2.out) (fun hHeld => ?_)
                        clear hK K
                        refine wpAnyH_ready (rs := [12]) (by kernel_rfl) (by simp) (AllReadyH.cons rfl (fun K hK => ?_) AllReadyH.nil)
                        rw [if_pos (by rfl)]
                        refine wp_storeW wD rfl rfl rfl D2.out.a (by rw [u8s_length]; exact nd_length _ _) (One.u8 _) (by rw [u8s_length, HAK.out]; omega) ?_
                        intro v3 hg3 hbut3
                        rw [spl_same _ _ HAK.out (nd_length _ _)] at hg3
                        have D3 := hide (D2.out.set16 hbut3 hg3 hw16 hne)
                        refine hK.out _ _ (hS _ _ _ D3.out) (fun hHeld => ?_)
                        clear hK K
                        simp only [Act.put]
                        refine wpAnyH_ready (rs := [13]) (by kernel_rfl) (by simp) (AllReadyH.cons rfl (fun K hK => ?_) AllReadyH.nil)
                        rw [if_pos (by rfl)]
                        refine wp_storeW wD rfl rfl rfl D3.out.b (by rw [u8s_length]; exact nd_length _ _) (One.u8 _) (by rw [u8s_length, HBK.out]; omega) ?_
                        intro v4 hg4 hbut4
                        rw [spl_same _ _ HBK.out (nd_length _ _)] at hg4
                        have D4 := hide (D3.out.set17 hbut4 hg4 hw17 hne)
                        refine hK.out _ _ (hS _ _ _ D4.out) (fun hHeld => ?_)
                        clear hK K
                        simp only [Act.put]
                        refine wpAnyH_done (by kernel_rfl) ?_ _
                        refine NoPanic.normal ?_
                        exact hjoin _ D4.out
                    · rw [if_pos (by rfl)]
                      refine wp_loadWG wD rfl D0.out.b (by rw [u8s_length]; exact HBK.out) ?_
                      refine hK.out _ _ (hS _ _ _ D0.out) (fun hHeld => ?_)
                      clear hK K
                      simp only [Act.put]
                      refine wpAnyH_ready (rs := [0]) (by kernel_rfl) (by simp) (AllReadyH.cons rfl (fun K hK => ?_) AllReadyH.nil)
                      rw [if_pos (by rfl)]
                      refine wp_loadWG wD rfl D0.out.a (by rw [u8s_length]; exact HAK.out) ?_
                      refine hK.out _ _ (hS _ _ _ D0.out) (fun hHeld => ?_)
                      clear hK K
                      simp only [Act.put]
                      refine wpAnyH_ready (rs := [5]) (by kernel_rfl) (by simp) (AllReadyH.cons rfl (fun K hK => ?_) AllReadyH.nil)
                      rw [if_pos (by rfl)]
                      go_simp
                      refine (node_any Ak Pk _ HAK.out HAKB.out HPK.out HPKB.out (HK.out.below D0.out.bel HK.out.lt)).mono ?_
                      rintro r v1 ⟨rfl, hv1⟩
                      have D1 := hide (D0.out.below hv1)
                      refine hK.out _ _ (hS _ _ _ D1.out) (fun hHeld => ?_)
                      clear hK K
                      try simp only [Act.put]
                      refine wpAnyH_ready (rs := [11]) (by kernel_rfl) (by simp) (AllReadyH.cons rfl (fun K hK => ?_) AllReadyH.nil)
                      rw [if_pos (by rfl)]
                      go_simp
                      refine (node_any Bk Xk _ HBK.out HBKB.out HXK.out HXKB.out (HK.out.below D1.out.bel HK.out.lt)).mono ?_
                      rintro r v2 ⟨rfl, hv2⟩
                      have D2 := hide (D1.out.below hv2)
                      refine hK.out _ _ (hS _ _ _ D2.out) (fun hHeld => ?_)
                      clear hK K
                      refine wpAnyH_ready (rs := [12]) (by kernel_rfl) (by simp) (AllReadyH.cons rfl (fun K hK => ?_) AllReadyH.nil)
                      rw [if_pos (by rfl)]
                      refine wp_storeW wD rfl rfl rfl D2.out.a (by rw [u8s_length]; exact nd_length _ _) (One.u8 _) (by rw [u8s_length, HAK.out]; omega) ?_
                      intro v3 hg3 hbut3
                      rw [spl_same _ _ HAK.out (nd_length _ _)] at hg3
                      have D3 := hide (D2.out.set16 hbut3 hg3 hw16 hne)
                      refine hK.out _ _ (hS _ _ _ D3.out) (fun hHeld => ?_)
                      clear hK K
                      simp only [Act.put]
                      refine wpAnyH_ready (rs := [13]) (by kernel_rfl) (by simp) (AllReadyH.cons rfl (fun K hK => ?_) AllReadyH.nil)
                      rw [if_pos (by rfl)]
                      refine wp_storeW wD rfl rfl rfl D3.out.b (by rw [u8s_length]; exact nd_length _ _) (One.u8 _) (by rw [u8s_length, HBK.out]; omega) ?_
                      intro v4 hg4 hbut4
                      rw [spl_same _ _ HBK.out (nd_length _ _)] at hg4
                      have D4 := hide (D3.out.set17 hbut4 hg4 hw17 hne)
                      refine hK.out _ _ (hS _ _ _ D4.out) (fun hHeld => ?_)
                      clear hK K
                      simp only [Act.put]
                      refine wpAnyH_done (by kernel_rfl) ?_ _
                      refine NoPanic.normal ?_
                      exact hjoin _ D4.out
                  · rintro W4 hC4
                    have C4 := hide hC4
                    clear hC4 C0
                    rw [← HJ1.out, ← HJ2.out] at C4
                    have HNAL := hide (show NA.length = 32 by rw [HJ1.out, nd_length])
                    have HNBL := hide (show NB.length = 32 by rw [HJ2.out, nd_length])
                    have HNAU := hide (show (u8s NA).length = 32 by rw [u8s_length, HNAL.out])
                    have HNBU := hide (show (u8s NB).length = 32 by rw [u8s_length, HNBL.out])
                    go_wp2
                    go_roundw
                    case rel => exact ⟨k + 1, by omega, by simp, hide (HPT.out.next (fun hu => absurd hu (by rw [HAKE.out, HBKE.out, HXKE.out, HPKE.out]; exact HNU.out))), by rw [HFA.out, HFB.out]; exact C4.out⟩
                    case measure => simp only [intOf]; omega
              · have HU2 : Hid ((!decide (Xk = Pk)) = true) := hide (by simp [hab2])
                clear hab1 hab2
                go_wp2_with fail
                refine wp_region_noPanic ?_
                have C0 := hide (C.out.below ((Below.refl _ _).drew))
                refine wp_region_held_drew (S := fun v : World => CM w v g16 g17 (some ⟨qb, qo, none⟩) q2 cq P Ak Bk (.slice (some ⟨gL, 0, none⟩) q2 cal) (ps.map lft)) (by kernel_rfl) C0.out (fun hHeld => ?_)
                refine takeH 0 73 (.agg (u8s Ak).toArray) hHeld rfl rfl (by kernel_rfl) (by kernel_rfl) (by kernel_rfl) (fun _ _ _ h => h) (yieldsIf_load_mid (by rfl) _ _ rfl g16 0 rfl _ _ (fun w h => h.a.range 0 _ (by simp)) hu rfl HI1.out) ?_
                simp only [Act.put, List.setIfInBounds_toArray, List.set_cons_zero, List.set_cons_succ]
                refine takeH 1 74 (.agg (u8s Bk).toArray) hHeld rfl rfl (by kernel_rfl) (by kernel_rfl) (by kernel_rfl) (fun _ _ _ h => h) (yieldsIf_load_mid (by rfl) _ _ rfl g17 0 rfl _ _ (fun w h => h.b.range 0 _ (by simp)) hu rfl HI2.out) ?_
                simp only [Act.put, List.setIfInBounds_toArray, List.set_cons_zero, List.set_cons_succ]
                refine takeH 2 75 (.bool false) hHeld rfl rfl (by kernel_rfl) (by kernel_rfl) (by kernel_rfl) (fun _ _ _ h => h) (Or.inl ⟨by rfl, fun v _ => run_neQ aD _ rfl rfl HAK.out HBK.out HU1.out⟩) ?_
                simp only [Act.put, List.setIfInBounds_toArray, List.set_cons_zero, List.set_cons_succ]
                refine takeH 3 76 (.bool false) hHeld rfl rfl (by kernel_rfl) (by kernel_rfl) (by kernel_rfl) (fun _ _ _ h => h) (Or.inl ⟨by rfl, fun w _ => by go_simp⟩) ?_
                simp only [Act.put, List.setIfInBounds_toArray, List.set_cons_zero, List.set_cons_succ]
                refine takeH 4 77 (.slice (some ⟨pb, po, none⟩) q2 cp) hHeld rfl rfl (by kernel_rfl) (by kernel_rfl) (by kernel_rfl) (fun _ _ _ h => h) (Or.inl ⟨by rfl, fun w _ => by go_simp⟩) ?_
                simp only [Act.put, List.setIfInBounds_toArray, List.set_cons_zero, List.set_cons_succ]
                refine takeH 5 78 (.int .i64 (k : Int)) hHeld rfl rfl (by kernel_rfl) (by kernel_rfl) (by kernel_rfl) (fun _ _ _ h => h) (Or.inl ⟨by rfl, fun w _ => by go_simp⟩) ?_
                simp only [Act.put, List.setIfInBounds_toArray, List.set_cons_zero, List.set_cons_succ]
                refine takeH 6 79 (.pointer (some ⟨pb, po + 32 * k, none⟩)) hHeld rfl rfl (by kernel_rfl) (by kernel_rfl) (by kernel_rfl) (fun _ _ _ h => h) (Or.inl ⟨by rfl, fun w _ => run_op rfl ((d_at pb po q2 cp k (k : Int) rfl hlt) w)⟩) ?_
                simp only [Act.put, List.setIfInBounds_toArray, List.set_cons_zero, List.set_cons_succ]
                refine takeH 7 80 (.agg (u8s Xk).toArray) hHeld rfl rfl (by kernel_rfl) (by kernel_rfl) (by kernel_rfl) (fun _ _ _ h => h) (yieldsIf_load_mid (by rfl) _ _ rfl pb (po + 32 * k) rfl _ _ (fun w h => HXR.out w h.bel) hu rfl HI4.out) ?_
                simp only [Act.put, List.setIfInBounds_toArray, List.set_cons_zero, List.set_cons_succ]
                refine takeH 8 81 (.slice (some ⟨qb, qo, none⟩) q2 cq) hHeld rfl rfl (by kernel_rfl) (by kernel_rfl) (by kernel_rfl) (fun _ _ _ h => h) (Or.inl ⟨by rfl, fun w _ => by go_simp⟩) ?_
                simp only [Act.put, List.setIfInBounds_toArray, List.set_cons_zero, List.set_cons_succ]
                refine takeH 9 82 (.int .i64 (k : Int)) hHeld rfl rfl (by kernel_rfl) (by kernel_rfl) (by kernel_rfl) (fun _ _ _ h => h) (Or.inl ⟨by rfl, fun w _ => by go_simp⟩) ?_
                simp only [Act.put, List.setIfInBounds_toArray, List.set_cons_zero, List.set_cons_succ]
                refine takeH 10 83 (.pointer (some ⟨qb, qo + 32 * k, none⟩)) hHeld rfl rfl (by kernel_rfl) (by kernel_rfl) (by kernel_rfl) (fun _ _ _ h => h) (Or.inl ⟨by rfl, fun w _ => run_op rfl ((d_at qb qo q2 cq k (k : Int) rfl hlt) w)⟩) ?_
                simp only [Act.put, List.setIfInBounds_toArray, List.set_cons_zero, List.set_cons_succ]
                refine takeH 11 84 (.agg (u8s Pk).toArray) hHeld rfl rfl (by kernel_rfl) (by kernel_rfl) (by kernel_rfl) (fun _ _ _ h => h) (yieldsIf_load_mid (by rfl) _ _ rfl qb (qo + 32 * k) rfl _ _ (fun w h => HPR.out w h.ds) hu rfl HI3.out) ?_
                simp only [Act.put, List.setIfInBounds_toArray, List.set_cons_zero, List.set_cons_succ]
                refine takeH 12 85 (.bool true) hHeld rfl rfl (by kernel_rfl) (by kernel_rfl) (by kernel_rfl) (fun _ _ _ h => h) (Or.inl ⟨by rfl, fun v _ => run_neQ aD _ rfl rfl HXK.out HPK.out HU2.out⟩) ?_
                simp only [Act.put, List.setIfInBounds_toArray, List.set_cons_zero, List.set_cons_succ]
                refine takeH 13 86 (.bool true) hHeld rfl rfl (by kernel_rfl) (by kernel_rfl) (by kernel_rfl) (fun _ _ _ h => h) (Or.inl ⟨by rfl, fun w _ => by go_simp⟩) ?_
                simp only [Act.put, List.setIfInBounds_toArray, List.set_cons_zero, List.set_cons_succ]
                refine takeH 14 19 (.bool true) hHeld rfl rfl (by kernel_rfl) (by kernel_rfl) (by kernel_rfl) (fun _ _ _ h => h) (Or.inl ⟨by rfl, fun w _ => by go_simp⟩) ?_
                simp only [Act.put, List.setIfInBounds_toArray, List.set_cons_zero, List.set_cons_succ]
                refine wpAnyH_done (by kernel_rfl) ?_ _
                refine NoPanic.normal ?_
                clear hHeld
                have hcL := C0.out.own.cell7 (q2 - 1 - k) (by rw [HLN.out, HPL.out]; omega)
                rw [HLB.out] at hcL
                by_cases hh : h = 1
                · subst hh
                  have hl1 : lft 1 = false := by decide
                  rw [hl1] at hcL
                  go_wp2_with fail
                  clear hcL
                  have HJ1 : Hid (NA = nd Pk Ak) := hide (by rw [HNA.out]; first | rfl | (unfold jn; rw [if_neg hh]))
                  have HJ2 : Hid (NB = nd Xk Bk) := hide (by rw [HNB.out]; first | rfl | (unfold jn; rw [if_neg hh]))
                  refine joinD (fun W => CM w W g16 g17 (some ⟨qb, qo, none⟩) q2 cq P (nd Pk Ak) (nd Xk Bk) (.slice (some ⟨gL, 0, none⟩) q2 cal) (ps.map lft)) ?actb1 ?tailb1 (fun hjoin => ?_)
                  rotate_left
                  rotate_left
                  · refine wp_region_noPanic ?_
                    have D0 := hide (C0.out.below ((Below.refl _ _).drew))
                    have hS : ∀ (v : World) (A B : List Int), CM w v g16 g17 (some ⟨qb, qo, none⟩) q2 cq P A B (.slice (some ⟨gL, 0, none⟩) q2 cal) (ps.map lft) → v.rangeAt qb (qo + 32 * k) (u8s Pk) ∧ v.rangeAt pb (po + 32 * k) (u8s Xk) := fun v A B h1 => ⟨HPR.out v h1.ds, HXR.out v h1.bel⟩
                    refine wp_region_held_drew (S := fun v : World => v.rangeAt qb (qo + 32 * k) (u8s Pk) ∧ v.rangeAt pb (po + 32 * k) (u8s Xk)) (by kernel_rfl) (hS _ _ _ D0.out) (fun hHeld => ?_)
                    refine takeH 0 107 (.slice (some ⟨qb, qo, none⟩) q2 cq) hHeld rfl rfl (by kernel_rfl) (by kernel_rfl) (by kernel_rfl) (fun _ _ _ h => h) (Or.inl ⟨by rfl, fun w _ => by go_simp⟩) ?_
                    simp only [Act.put, List.setIfInBounds_toArray, List.set_cons_zero, List.set_cons_succ]
                    refine takeH 1 108 (.int .i64 (k : Int)) hHeld rfl rfl (by kernel_rfl) (by kernel_rfl) (by kernel_rfl) (fun _ _ _ h => h) (Or.inl ⟨by rfl, fun w _ => by go_simp⟩) ?_
                    simp only [Act.put, List.setIfInBounds_toArray, List.set_cons_zero, List.set_cons_succ]
                    refine takeH 2 109 (.pointer (some ⟨qb, qo + 32 * k, none⟩)) hHeld rfl rfl (by kernel_rfl) (by kernel_rfl) (by kernel_rfl) (fun _ _ _ h => h) (Or.inl ⟨by rfl, fun w _ => run_op rfl ((d_at qb qo q2 cq k (k : Int) rfl hlt) w)⟩) ?_
                    simp only [Act.put, List.setIfInBounds_toArray, List.set_cons_zero, List.set_cons_succ]
                    refine takeH 3 110 (.agg (u8s Pk).toArray) hHeld rfl rfl (by kernel_rfl) (by kernel_rfl) (by kernel_rfl) (fun _ _ _ h => h) (yieldsIf_load_mid (by rfl) _ _ rfl qb (qo + 32 * k) rfl _ _ (fun w h => h.1) hu rfl HI3.out) ?_
                    simp only [Act.put, List.setIfInBounds_toArray, List.set_cons_zero, List.set_cons_succ]
                    refine takeH 6 113 (.slice (some ⟨pb, po, none⟩) q2 cp) hHeld rfl rfl (by kernel_rfl) (by kernel_rfl) (by kernel_rfl) (fun _ _ _ h => h) (Or.inl ⟨by rfl, fun w _ => by go_simp⟩) ?_
                    simp only [Act.put, List.setIfInBounds_toArray, List.set_cons_zero, List.set_cons_succ]
                    refine takeH 7 114 (.int .i64 (k : Int)) hHeld rfl rfl (by kernel_rfl) (by kernel_rfl) (by kernel_rfl) (fun _ _ _ h => h) (Or.inl ⟨by rfl, fun w _ => by go_simp⟩) ?_
                    simp only [Act.put, List.setIfInBounds_toArray, List.set_cons_zero, List.set_cons_succ]
                    refine takeH 8 115 (.pointer (some ⟨pb, po + 32 * k, none⟩)) hHeld rfl rfl (by kernel_rfl) (by kernel_rfl) (by kernel_rfl) (fun _ _ _ h => h) (Or.inl ⟨by rfl, fun w _ => run_op rfl ((d_at pb po q2 cp k (k : Int) rfl hlt) w)⟩) ?_
                    simp only [Act.put, List.setIfInBounds_toArray, List.set_cons_zero, List.set_cons_succ]
                    refine takeH 9 116 (.agg (u8s Xk).toArray) hHeld rfl rfl (by kernel_rfl) (by kernel_rfl) (by kernel_rfl) (fun _ _ _ h => h) (yieldsIf_load_mid (by rfl) _ _ rfl pb (po + 32 * k) rfl _ _ (fun w h => h.2) hu rfl HI4.out) ?_
                    simp only [Act.put, List.setIfInBounds_toArray, List.set_cons_zero, List.set_cons_succ]
                    refine wpAnyH_ready (rs := [4, 10]) (by kernel_rfl) (by simp) (AllReadyH.cons rfl (fun K hK => ?_) (AllReadyH.cons rfl (fun K hK => ?_) AllReadyH.nil))
                    · rw [if_pos (by rfl)]
                      refine wp_loadWG wD rfl D0.out.a (by rw [u8s_length]; exact HAK.out) ?_
                      refine hK.out _ _ (hS _ _ _ D0.out) (fun hHeld => ?_)
                      clear hK K
                      simp only [Act.put]
                      refine wpAnyH_ready (rs := [5, 10]) (by kernel_rfl) (by simp) (AllReadyH.cons rfl (fun K hK => ?_) (AllReadyH.cons rfl (fun K hK => ?_) AllReadyH.nil))
                      · rw [if_pos (by rfl)]
                        go_simp
                        refine (node_any Pk Ak _ HPK.out HPKB.out HAK.out HAKB.out (HK.out.below D0.out.bel HK.out.lt)).mono ?_
                        rintro r v1 ⟨rfl, hv1⟩
                        have D1 := hide (D0.out.below hv1)
                        refine hK.out _ _ (hS _ _ _ D1.out) (fun hHeld => ?_)
                        clear hK K
                        try simp only [Act.put]
                        refine wpAnyH_ready (rs := [10]) (by kernel_rfl) (by simp) (AllReadyH.cons rfl (fun K hK => ?_) AllReadyH.nil)
                        rw [if_pos (by rfl)]
                        refine wp_loadWG wD rfl D1.out.b (by rw [u8s_length]; exact HBK.out) ?_
                        refine hK.out _ _ (hS _ _ _ D1.out) (fun hHeld => ?_)
                        clear hK K
                        simp only [Act.put]
                        refine wpAnyH_ready (rs := [11]) (by kernel_rfl) (by simp) (AllReadyH.cons rfl (fun K hK => ?_) AllReadyH.nil)
                        rw [if_pos (by rfl)]
                        go_simp
                        refine (node_any Xk Bk _ HXK.out HXKB.out HBK.out HBKB.out (HK.out.below D1.out.bel HK.out.lt)).mono ?_
                        rintro r v2 ⟨rfl, hv2⟩
                        have D2 := hide (D1.out.below hv2)
                        refine hK.out _ _ (hS _ _ _ D2.out) (fun hHeld => ?_)
                        clear hK K
                        refine wpAnyH_ready (rs := [12]) (by kernel_rfl) (by simp) (AllReadyH.cons rfl (fun K hK => ?_) AllReadyH.nil)
                        rw [if_pos (by rfl)]
                        refine wp_storeW wD rfl rfl rfl D2.out.a (by rw [u8s_length]; exact nd_length _ _) (One.u8 _) (by rw [u8s_length, HAK.out]; omega) ?_
                        intro v3 hg3 hbut3
                        rw [spl_same _ _ HAK.out (nd_length _ _)] at hg3
                        have D3 := hide (D2.out.set16 hbut3 hg3 hw16 hne)
                        refine hK.out _ _ (hS _ _ _ D3.out) (fun hHeld => ?_)
                        clear hK K
                        simp only [Act.put]
                        refine wpAnyH_ready (rs := [13]) (by kernel_rfl) (by simp) (AllReadyH.cons rfl (fun K hK => ?_) AllReadyH.nil)
                        rw [if_pos (by rfl)]
                        refine wp_storeW wD rfl rfl rfl D3.out.b (by rw [u8s_length]; exact nd_length _ _) (One.u8 _) (by rw [u8s_length, HBK.out]; omega) ?_
                        intro v4 hg4 hbut4
                        rw [spl_same _ _ HBK.out (nd_length _ _)] at hg4
                        have D4 := hide (D3.out.set17 hbut4 hg4 hw17 hne)
                        refine hK.out _ _ (hS _ _ _ D4.out) (fun hHeld => ?_)
                        clear hK K
                        simp only [Act.put]
                        refine wpAnyH_done (by kernel_rfl) ?_ _
                        refine NoPanic.normal ?_
                        exact hjoin _ D4.out
                      · rw [if_pos (by rfl)]
                        refine wp_loadWG wD rfl D0.out.b (by rw [u8s_length]; exact HBK.out) ?_
                        refine hK.out _ _ (hS _ _ _ D0.out) (fun hHeld => ?_)
                        clear hK K
                        simp only [Act.put]
                        refine wpAnyH_ready (rs := [5]) (by kernel_rfl) (by simp) (AllReadyH.cons rfl (fun K hK => ?_) AllReadyH.nil)
                        rw [if_pos (by rfl)]
                        go_simp
                        refine (node_any Pk Ak _ HPK.out HPKB.out HAK.out HAKB.out (HK.out.below D0.out.bel HK.out.lt)).mono ?_
                        rintro r v1 ⟨rfl, hv1⟩
                        have D1 := hide (D0.out.below hv1)
                        refine hK.out _ _ (hS _ _ _ D1.out) (fun hHeld => ?_)
                        clear hK K
                        try simp only [Act.put]
                        refine wpAnyH_ready (rs := [11]) (by kernel_rfl) (by simp) (AllReadyH.cons rfl (fun K hK => ?_) AllReadyH.nil)
                        rw [if_pos (by rfl)]
                        go_simp
                        refine (node_any Xk Bk _ HXK.out HXKB.out HBK.out HBKB.out (HK.out.below D1.out.bel HK.out.lt)).mono ?_
                        rintro r v2 ⟨rfl, hv2⟩
                        have D2 := hide (D1.out.below hv2)
                        refine hK.out _ _ (hS _ _ _ D2.out) (fun hHeld => ?_)
                        clear hK K
                        refine wpAnyH_ready (rs := [12]) (by kernel_rfl) (by simp) (AllReadyH.cons rfl (fun K hK => ?_) AllReadyH.nil)
                        rw [if_pos (by rfl)]
                        refine wp_storeW wD rfl rfl rfl D2.out.a (by rw [u8s_length]; exact nd_length _ _) (One.u8 _) (by rw [u8s_length, HAK.out]; omega) ?_
                        intro v3 hg3 hbut3
                        rw [spl_same _ _ HAK.out (nd_length _ _)] at hg3
                        have D3 := hide (D2.out.set16 hbut3 hg3 hw16 hne)
                        refine hK.out _ _ (hS _ _ _ D3.out) (fun hHeld => ?_)
                        clear hK K
                        simp only [Act.put]
                        refine wpAnyH_ready (rs := [13]) (by kernel_rfl) (by simp) (AllReadyH.cons rfl (fun K hK => ?_) AllReadyH.nil)
                        rw [if_pos (by rfl)]
                        refine wp_storeW wD rfl rfl rfl D3.out.b (by rw [u8s_length]; exact nd_length _ _) (One.u8 _) (by rw [u8s_length, HBK.out]; omega) ?_
                        intro v4 hg4 hbut4
                        rw [spl_same _ _ HBK.out (nd_length _ _)] at hg4
                        have D4 := hide (D3.out.set17 hbut4 hg4 hw17 hne)
                        refine hK.out _ _ (hS _ _ _ D4.out) (fun hHeld => ?_)
                        clear hK K
                        simp only [Act.put]
                        refine wpAnyH_done (by kernel_rfl) ?_ _
                        refine NoPanic.normal ?_
                        exact hjoin _ D4.out
                    · rw [if_pos (by rfl)]
                      refine wp_loadWG wD rfl D0.out.b (by rw [u8s_length]; exact HBK.out) ?_
                      refine hK.out _ _ (hS _ _ _ D0.out) (fun hHeld => ?_)
                      clear hK K
                      simp only [Act.put]
                      refine wpAnyH_ready (rs := [4]) (by kernel_rfl) (by simp) (AllReadyH.cons rfl (fun K hK => ?_) AllReadyH.nil)
                      rw [if_pos (by rfl)]
                      refine wp_loadWG wD rfl D0.out.a (by rw [u8s_length]; exact HAK.out) ?_
                      refine hK.out _ _ (hS _ _ _ D0.out) (fun hHeld => ?_)
                      clear hK K
                      simp only [Act.put]
                      refine wpAnyH_ready (rs := [5]) (by kernel_rfl) (by simp) (AllReadyH.cons rfl (fun K hK => ?_) AllReadyH.nil)
                      rw [if_pos (by rfl)]
                      go_simp
                      refine (node_any Pk Ak _ HPK.out HPKB.out HAK.out HAKB.out (HK.out.below D0.out.bel HK.out.lt)).mono ?_
                      rintro r v1 ⟨rfl, hv1⟩
                      have D1 := hide (D0.out.below hv1)
                      refine hK.out _ _ (hS _ _ _ D1.out) (fun hHeld => ?_)
                      clear hK K
                      try simp only [Act.put]
                      refine wpAnyH_ready (rs := [11]) (by kernel_rfl) (by simp) (AllReadyH.cons rfl (fun K hK => ?_) AllReadyH.nil)
                      rw [if_pos (by rfl)]
                      go_simp
                      refine (node_any Xk Bk _ HXK.out HXKB.out HBK.out HBKB.out (HK.out.below D1.out.bel HK.out.lt)).mono ?_
                      rintro r v2 ⟨rfl, hv2⟩
                      have D2 := hide (D1.out.below hv2)
                      refine hK.out _ _ (hS _ _ _ D2.out) (fun hHeld => ?_)
                      clear hK K
                      refine wpAnyH_ready (rs := [12]) (by kernel_rfl) (by simp) (AllReadyH.cons rfl (fun K hK => ?_) AllReadyH.nil)
                      rw [if_pos (by rfl)]
                      refine wp_storeW wD rfl rfl rfl D2.out.a (by rw [u8s_length]; exact nd_length _ _) (One.u8 _) (by rw [u8s_length, HAK.out]; omega) ?_
                      intro v3 hg3 hbut3
                      rw [spl_same _ _ HAK.out (nd_length _ _)] at hg3
                      have D3 := hide (D2.out.set16 hbut3 hg3 hw16 hne)
                      refine hK.out _ _ (hS _ _ _ D3.out) (fun hHeld => ?_)
                      clear hK K
                      simp only [Act.put]
                      refine wpAnyH_ready (rs := [13]) (by kernel_rfl) (by simp) (AllReadyH.cons rfl (fun K hK => ?_) AllReadyH.nil)
                      rw [if_pos (by rfl)]
                      refine wp_storeW wD rfl rfl rfl D3.out.b (by rw [u8s_length]; exact nd_length _ _) (One.u8 _) (by rw [u8s_length, HBK.out]; omega) ?_
                      intro v4 hg4 hbut4
                      rw [spl_same _ _ HBK.out (nd_length _ _)] at hg4
                      have D4 := hide (D3.out.set17 hbut4 hg4 hw17 hne)
                      refine hK.out _ _ (hS _ _ _ D4.out) (fun hHeld => ?_)
                      clear hK K
                      simp only [Act.put]
                      refine wpAnyH_done (by kernel_rfl) ?_ _
                      refine NoPanic.normal ?_
                      exact hjoin _ D4.out
                  · rintro W4 hC4
                    have C4 := hide hC4
                    clear hC4 C0
                    rw [← HJ1.out, ← HJ2.out] at C4
                    have HNAL := hide (show NA.length = 32 by rw [HJ1.out, nd_length])
                    have HNBL := hide (show NB.length = 32 by rw [HJ2.out, nd_length])
                    have HNAU := hide (show (u8s NA).length = 32 by rw [u8s_length, HNAL.out])
                    have HNBU := hide (show (u8s NB).length = 32 by rw [u8s_length, HNBL.out])
                    by_cases hab : NA = NB
                    · have HEQ2 : Hid (decide (NA = NB) = true) := hide (decide_eq_true hab)
                      clear hab
                      go_wp2_with (first | (refine step_loadA wD rfl rfl C4.out.a HNAU.out ?_) | (refine step_loadA wD rfl rfl C4.out.b HNBU.out ?_) | (refine step_eqQ aD _ HEQ2.out rfl rfl rfl HNAL.out HNBL.out ?_))
                      go_ret
                      exact ⟨rfl, C4.out.bel⟩
                    · have HEQ2 : Hid (decide (NA = NB) = false) := hide (decide_eq_false hab)
                      have HAB2 := hide hab
                      clear hab
                      go_wp2_with (first | (refine step_loadA wD rfl rfl C4.out.a HNAU.out ?_) | (refine step_loadA wD rfl rfl C4.out.b HNBU.out ?_) | (refine step_eqQ aD _ HEQ2.out rfl rfl rfl HNAL.out HNBL.out ?_))
                      go_roundw
                      case rel => exact ⟨k + 1, by omega, by simp, hide (HPT.out.next (fun _ => by rw [HFA.out, HFB.out]; exact HAB2.out)), by rw [HFA.out, HFB.out]; exact C4.out⟩
                      case measure => simp only [intOf]; omega
                · have hl1 : lft h = true := by simp [lft, hh]
                  rw [hl1] at hcL
                  go_wp2_with fail
                  clear hcL
                  have HJ1 : Hid (NA = nd Ak Pk) := hide (by rw [HNA.out]; first | rfl | (unfold jn; rw [if_neg hh]))
                  have HJ2 : Hid (NB = nd Bk Xk) := hide (by rw [HNB.out]; first | rfl | (unfold jn; rw [if_neg hh]))
                  refine joinD (fun W => CM w W g16 g17 (some ⟨qb, qo, none⟩) q2 cq P (nd Ak Pk) (nd Bk Xk) (.slice (some ⟨gL, 0, none⟩) q2 cal) (ps.map lft)) ?actb2 ?tailb2 (fun hjoin => ?_)
                  rotate_left
                  rotate_left
                  · refine wp_region_noPanic ?_
                    have D0 := hide (C0.out.below ((Below.refl _ _).drew))
                    have hS : ∀ (v : World) (A B : List Int), CM w v g16 g17 (some ⟨qb, qo, none⟩) q2 cq P A B (.slice (some ⟨gL, 0, none⟩) q2 cal) (ps.map lft) → v.rangeAt qb (qo + 32 * k) (u8s Pk) ∧ v.rangeAt pb (po + 32 * k) (u8s Xk) := fun v A B h1 => ⟨HPR.out v h1.ds, HXR.out v h1.bel⟩
                    refine wp_region_held_drew (S := fun v : World => v.rangeAt qb (qo + 32 * k) (u8s Pk) ∧ v.rangeAt pb (po + 32 * k) (u8s Xk)) (by kernel_rfl) (hS _ _ _ D0.out) (fun hHeld => ?_)
                    refine takeH 1 96 (.slice (some ⟨qb, qo, none⟩) q2 cq) hHeld rfl rfl (by kernel_rfl) (by kernel_rfl) (by kernel_rfl) (fun _ _ _ h => h) (Or.inl ⟨by rfl, fun w _ => by go_simp⟩) ?_
                    simp only [Act.put, List.setIfInBounds_toArray, List.set_cons_zero, List.set_cons_succ]
                    refine takeH 2 97 (.int .i64 (k : Int)) hHeld rfl rfl (by kernel_rfl) (by kernel_rfl) (by kernel_rfl) (fun _ _ _ h => h) (Or.inl ⟨by rfl, fun w _ => by go_simp⟩) ?_
                    simp only [Act.put, List.setIfInBounds_toArray, List.set_cons_zero, List.set_cons_succ]
                    refine takeH 3 98 (.pointer (some ⟨qb, qo + 32 * k, none⟩)) hHeld rfl rfl (by kernel_rfl) (by kernel_rfl) (by kernel_rfl) (fun _ _ _ h => h) (Or.inl ⟨by rfl, fun w _ => run_op rfl ((d_at qb qo q2 cq k (k : Int) rfl hlt) w)⟩) ?_
                    simp only [Act.put, List.setIfInBounds_toArray, List.set_cons_zero, List.set_cons_succ]
                    refine takeH 4 99 (.agg (u8s Pk).toArray) hHeld rfl rfl (by kernel_rfl) (by kernel_rfl) (by kernel_rfl) (fun _ _ _ h => h) (yieldsIf_load_mid (by rfl) _ _ rfl qb (qo + 32 * k) rfl _ _ (fun w h => h.1) hu rfl HI3.out) ?_
                    simp only [Act.put, List.setIfInBounds_toArray, List.set_cons_zero, List.set_cons_succ]
                    refine takeH 7 102 (.slice (some ⟨pb, po, none⟩) q2 cp) hHeld rfl rfl (by kernel_rfl) (by kernel_rfl) (by kernel_rfl) (fun _ _ _ h => h) (Or.inl ⟨by rfl, fun w _ => by go_simp⟩) ?_
                    simp only [Act.put, List.setIfInBounds_toArray, List.set_cons_zero, List.set_cons_succ]
                    refine takeH 8 103 (.int .i64 (k : Int)) hHeld rfl rfl (by kernel_rfl) (by kernel_rfl) (by kernel_rfl) (fun _ _ _ h => h) (Or.inl ⟨by rfl, fun w _ => by go_simp⟩) ?_
                    simp only [Act.put, List.setIfInBounds_toArray, List.set_cons_zero, List.set_cons_succ]
                    refine takeH 9 104 (.pointer (some ⟨pb, po + 32 * k, none⟩)) hHeld rfl rfl (by kernel_rfl) (by kernel_rfl) (by kernel_rfl) (fun _ _ _ h => h) (Or.inl ⟨by rfl, fun w _ => run_op rfl ((d_at pb po q2 cp k (k : Int) rfl hlt) w)⟩) ?_
                    simp only [Act.put, List.setIfInBounds_toArray, List.set_cons_zero, List.set_cons_succ]
                    refine takeH 10 105 (.agg (u8s Xk).toArray) hHeld rfl rfl (by kernel_rfl) (by kernel_rfl) (by kernel_rfl) (fun _ _ _ h => h) (yieldsIf_load_mid (by rfl) _ _ rfl pb (po + 32 * k) rfl _ _ (fun w h => h.2) hu rfl HI4.out) ?_
                    simp only [Act.put, List.setIfInBounds_toArray, List.set_cons_zero, List.set_cons_succ]
                    refine wpAnyH_ready (rs := [0, 6]) (by kernel_rfl) (by simp) (AllReadyH.cons rfl (fun K hK => ?_) (AllReadyH.cons rfl (fun K hK => ?_) AllReadyH.nil))
                    · rw [if_pos (by rfl)]
                      refine wp_loadWG wD rfl D0.out.a (by rw [u8s_length]; exact HAK.out) ?_
                      refine hK.out _ _ (hS _ _ _ D0.out) (fun hHeld => ?_)
                      clear hK K
                      simp only [Act.put]
                      refine wpAnyH_ready (rs := [5, 6]) (by kernel_rfl) (by simp) (AllReadyH.cons rfl (fun K hK => ?_) (AllReadyH.cons rfl (fun K hK => ?_) AllReadyH.nil))
                      · rw [if_pos (by rfl)]
                        go_simp
                        refine (node_any Ak Pk _ HAK.out HAKB.out HPK.out HPKB.out (HK.out.below D0.out.bel HK.out.lt)).mono ?_
                        rintro r v1 ⟨rfl, hv1⟩
                        have D1 := hide (D0.out.below hv1)
                        refine hK.out _ _ (hS _ _ _ D1.out) (fun hHeld => ?_)
                        clear hK K
                        try simp only [Act.put]
                        refine wpAnyH_ready (rs := [6]) (by kernel_rfl) (by simp) (AllReadyH.cons rfl (fun K hK => ?_) AllReadyH.nil)
                        rw [if_pos (by rfl)]
                        refine wp_loadWG wD rfl D1.out.b (by rw [u8s_length]; exact HBK.out) ?_
                        refine hK.out _ _ (hS _ _ _ D1.out) (fun hHeld => ?_)
                        clear hK K
                        simp only [Act.put]
                        refine wpAnyH_ready (rs := [11]) (by kernel_rfl) (by simp) (AllReadyH.cons rfl (fun K hK => ?_) AllReadyH.nil)
                        rw [if_pos (by rfl)]
                        go_simp
                        refine (node_any Bk Xk _ HBK.out HBKB.out HXK.out HXKB.out (HK.out.below D1.out.bel HK.out.lt)).mono ?_
                        rintro r v2 ⟨rfl, hv2⟩
                        have D2 := hide (D1.out.below hv2)
                        refine hK.out _ _ (hS _ _ _ D2.out) (fun hHeld => ?_)
                        clear hK K
                        refine wpAnyH_ready (rs := [12]) (by kernel_rfl) (by simp) (AllReadyH.cons rfl (fun K hK => ?_) AllReadyH.nil)
                        rw [if_pos (by rfl)]
                        refine wp_storeW wD rfl rfl rfl D2.out.a (by rw [u8s_length]; exact nd_length _ _) (One.u8 _) (by rw [u8s_length, HAK.out]; omega) ?_
                        intro v3 hg3 hbut3
                        rw [spl_same _ _ HAK.out (nd_length _ _)] at hg3
                        have D3 := hide (D2.out.set16 hbut3 hg3 hw16 hne)
                        refine hK.out _ _ (hS _ _ _ D3.out) (fun hHeld => ?_)
                        clear hK K
                        simp only [Act.put]
                        refine wpAnyH_ready (rs := [13]) (by kernel_rfl) (by simp) (AllReadyH.cons rfl (fun K hK => ?_) AllReadyH.nil)
                        rw [if_pos (by rfl)]
                        refine wp_storeW wD rfl rfl rfl D3.out.b (by rw [u8s_length]; exact nd_length _ _) (One.u8 _) (by rw [u8s_length, HBK.out]; omega) ?_
                        intro v4 hg4 hbut4
                        rw [spl_same _ _ HBK.out (nd_length _ _)] at hg4
                        have D4 := hide (D3.out.set17 hbut4 hg4 hw17 hne)
                        refine hK.out _ _ (hS _ _ _ D4.out) (fun hHeld => ?_)
                        clear hK K
                        simp only [Act.put]
                        refine wpAnyH_done (by kernel_rfl) ?_ _
                        refine NoPanic.normal ?_
                        exact hjoin _ D4.out
                      · rw [if_pos (by rfl)]
                        refine wp_loadWG wD rfl D0.out.b (by rw [u8s_length]; exact HBK.out) ?_
                        refine hK.out _ _ (hS _ _ _ D0.out) (fun hHeld => ?_)
                        clear hK K
                        simp only [Act.put]
                        refine wpAnyH_ready (rs := [5]) (by kernel_rfl) (by simp) (AllReadyH.cons rfl (fun K hK => ?_) AllReadyH.nil)
                        rw [if_pos (by rfl)]
                        go_simp
                        refine (node_any Ak Pk _ HAK.out HAKB.out HPK.out HPKB.out (HK.out.below D0.out.bel HK.out.lt)).mono ?_
                        rintro r v1 ⟨rfl, hv1⟩
                        have D1 := hide (D0.out.below hv1)
                        refine hK.out _ _ (hS _ _ _ D1.out) (fun hHeld => ?_)
                        clear hK K
                        try simp only [Act.put]
                        refine wpAnyH_ready (rs := [11]) (by kernel_rfl) (by simp) (AllReadyH.cons rfl (fun K hK => ?_) AllReadyH.nil)
                        rw [if_pos (by rfl)]
                        go_simp
                        refine (node_any Bk Xk _ HBK.out HBKB.out HXK.out HXKB.out (HK.out.below D1.out.bel HK.out.lt)).mono ?_
                        rintro r v2 ⟨rfl, hv2⟩
                        have D2 := hide (D1.out.below hv2)
                        refine hK.out _ _ (hS _ _ _ D2.out) (fun hHeld => ?_)
                        clear hK K
                        refine wpAnyH_ready (rs := [12]) (by kernel_rfl) (by simp) (AllReadyH.cons rfl (fun K hK => ?_) AllReadyH.nil)
                        rw [if_pos (by rfl)]
                        refine wp_storeW wD rfl rfl rfl D2.out.a (by rw [u8s_length]; exact nd_length _ _) (One.u8 _) (by rw [u8s_length, HAK.out]; omega) ?_
                        intro v3 hg3 hbut3
                        rw [spl_same _ _ HAK.out (nd_length _ _)] at hg3
                        have D3 := hide (D2.out.set16 hbut3 hg3 hw16 hne)
                        refine hK.out _ _ (hS _ _ _ D3.out) (fun hHeld => ?_)
                        clear hK K
                        simp only [Act.put]
                        refine wpAnyH_ready (rs := [13]) (by kernel_rfl) (by simp) (AllReadyH.cons rfl (fun K hK => ?_) AllReadyH.nil)
                        rw [if_pos (by rfl)]
                        refine wp_storeW wD rfl rfl rfl D3.out.b (by rw [u8s_length]; exact nd_length _ _) (One.u8 _) (by rw [u8s_length, HBK.out]; omega) ?_
                        intro v4 hg4 hbut4
                        rw [spl_same _ _ HBK.out (nd_length _ _)] at hg4
                        have D4 := hide (D3.out.set17 hbut4 hg4 hw17 hne)
                        refine hK.out _ _ (hS _ _ _ D4.out) (fun hHeld => ?_)
                        clear hK K
                        simp only [Act.put]
                        refine wpAnyH_done (by kernel_rfl) ?_ _
                        refine NoPanic.normal ?_
                        exact hjoin _ D4.out
                    · rw [if_pos (by rfl)]
                      refine wp_loadWG wD rfl D0.out.b (by rw [u8s_length]; exact HBK.out) ?_
                      refine hK.out _ _ (hS _ _ _ D0.out) (fun hHeld => ?_)
                      clear hK K
                      simp only [Act.put]
                      refine wpAnyH_ready (rs := [0]) (by kernel_rfl) (by simp) (AllReadyH.cons rfl (fun K hK => ?_) AllReadyH.nil)
                      rw [if_pos (by rfl)]
                      refine wp_loadWG wD rfl D0.out.a (by rw [u8s_length]; exact HAK.out) ?_
                      refine hK.out _ _ (hS _ _ _ D0.out) (fun hHeld => ?_)
                      clear hK K
                      simp only [Act.put]
                      refine wpAnyH_ready (rs := [5]) (by kernel_rfl) (by simp) (AllReadyH.cons rfl (fun K hK => ?_) AllReadyH.nil)
                      rw [if_pos (by rfl)]
                      go_simp
                      refine (node_any Ak Pk _ HAK.out HAKB.out HPK.out HPKB.out (HK.out.below D0.out.bel HK.out.lt)).mono ?_
                      rintro r v1 ⟨rfl, hv1⟩
                      have D1 := hide (D0.out.below hv1)
                      refine hK.out _ _ (hS _ _ _ D1.out) (fun hHeld => ?_)
                      clear hK K
                      try simp only [Act.put]
                      refine wpAnyH_ready (rs := [11]) (by kernel_rfl) (by simp) (AllReadyH.cons rfl (fun K hK => ?_) AllReadyH.nil)
                      rw [if_pos (by rfl)]
                      go_simp
                      refine (node_any Bk Xk _ HBK.out HBKB.out HXK.out HXKB.out (HK.out.below D1.out.bel HK.out.lt)).mono ?_
                      rintro r v2 ⟨rfl, hv2⟩
                      have D2 := hide (D1.out.below hv2)
                      refine hK.out _ _ (hS _ _ _ D2.out) (fun hHeld => ?_)
                      clear hK K
                      refine wpAnyH_ready (rs := [12]) (by kernel_rfl) (by simp) (AllReadyH.cons rfl (fun K hK => ?_) AllReadyH.nil)
                      rw [if_pos (by rfl)]
                      refine wp_storeW wD rfl rfl rfl D2.out.a (by rw [u8s_length]; exact nd_length _ _) (One.u8 _) (by rw [u8s_length, HAK.out]; omega) ?_
                      intro v3 hg3 hbut3
                      rw [spl_same _ _ HAK.out (nd_length _ _)] at hg3
                      have D3 := hide (D2.out.set16 hbut3 hg3 hw16 hne)
                      refine hK.out _ _ (hS _ _ _ D3.out) (fun hHeld => ?_)
                      clear hK K
                      simp only [Act.put]
                      refine wpAnyH_ready (rs := [13]) (by kernel_rfl) (by simp) (AllReadyH.cons rfl (fun K hK => ?_) AllReadyH.nil)
                      rw [if_pos (by rfl)]
                      refine wp_storeW wD rfl rfl rfl D3.out.b (by rw [u8s_length]; exact nd_length _ _) (One.u8 _) (by rw [u8s_length, HBK.out]; omega) ?_
                      intro v4 hg4 hbut4
                      rw [spl_same _ _ HBK.out (nd_length _ _)] at hg4
                      have D4 := hide (D3.out.set17 hbut4 hg4 hw17 hne)
                      refine hK.out _ _ (hS _ _ _ D4.out) (fun hHeld => ?_)
                      clear hK K
                      simp only [Act.put]
                      refine wpAnyH_done (by kernel_rfl) ?_ _
                      refine NoPanic.normal ?_
                      exact hjoin _ D4.out
                  · rintro W4 hC4
                    have C4 := hide hC4
                    clear hC4 C0
                    rw [← HJ1.out, ← HJ2.out] at C4
                    have HNAL := hide (show NA.length = 32 by rw [HJ1.out, nd_length])
                    have HNBL := hide (show NB.length = 32 by rw [HJ2.out, nd_length])
                    have HNAU := hide (show (u8s NA).length = 32 by rw [u8s_length, HNAL.out])
                    have HNBU := hide (show (u8s NB).length = 32 by rw [u8s_length, HNBL.out])
                    by_cases hab : NA = NB
                    · have HEQ2 : Hid (decide (NA = NB) = true) := hide (decide_eq_true hab)
                      clear hab
                      go_wp2_with (first | (refine step_loadA wD rfl rfl C4.out.a HNAU.out ?_) | (refine step_loadA wD rfl rfl C4.out.b HNBU.out ?_) | (refine step_eqQ aD _ HEQ2.out rfl rfl rfl HNAL.out HNBL.out ?_))
                      go_ret
                      exact ⟨rfl, C4.out.bel⟩
                    · have HEQ2 : Hid (decide (NA = NB) = false) := hide (decide_eq_false hab)
                      have HAB2 := hide hab
                      clear hab
                      go_wp2_with (first | (refine step_loadA wD rfl rfl C4.out.a HNAU.out ?_) | (refine step_loadA wD rfl rfl C4.out.b HNBU.out ?_) | (refine step_eqQ aD _ HEQ2.out rfl rfl rfl HNAL.out HNBL.out ?_))
                      go_roundw
                      case rel => exact ⟨k + 1, by omega, by simp, hide (HPT.out.next (fun _ => by rw [HFA.out, HFB.out]; exact HAB2.out)), by rw [HFA.out, HFB.out]; exact C4.out⟩
                      case measure => simp only [intOf]; omega
            · have HU1 : Hid ((!decide (Ak = Bk)) = true) := hide (by simp [hab1])
              clear hab1
              go_wp2_with fail
              refine wp_region_noPanic ?_
              have C0 := hide (C.out.below ((Below.refl _ _).drew))
              refine wp_region_held_drew (S := fun v : World => CM w v g16 g17 (some ⟨qb, qo, none⟩) q2 cq P Ak Bk (.slice (some ⟨gL, 0, none⟩) q2 cal) (ps.map lft)) (by kernel_rfl) C0.out (fun hHeld => ?_)
              refine takeH 0 73 (.agg (u8s Ak).toArray) hHeld rfl rfl (by kernel_rfl) (by kernel_rfl) (by kernel_rfl) (fun _ _ _ h => h) (yieldsIf_load_mid (by rfl) _ _ rfl g16 0 rfl _ _ (fun w h => h.a.range 0 _ (by simp)) hu rfl HI1.out) ?_
              simp only [Act.put, List.setIfInBounds_toArray, List.set_cons_zero, List.set_cons_succ]
              refine takeH 1 74 (.agg (u8s Bk).toArray) hHeld rfl rfl (by kernel_rfl) (by kernel_rfl) (by kernel_rfl) (fun _ _ _ h => h) (yieldsIf_load_mid (by rfl) _ _ rfl g17 0 rfl _ _ (fun w h => h.b.range 0 _ (by simp)) hu rfl HI2.out) ?_
              simp only [Act.put, List.setIfInBounds_toArray, List.set_cons_zero, List.set_cons_succ]
              refine takeH 2 75 (.bool true) hHeld rfl rfl (by kernel_rfl) (by kernel_rfl) (by kernel_rfl) (fun _ _ _ h => h) (Or.inl ⟨by rfl, fun v _ => run_neQ aD _ rfl rfl HAK.out HBK.out HU1.out⟩) ?_
              simp only [Act.put, List.setIfInBounds_toArray, List.set_cons_zero, List.set_cons_succ]
              refine takeH 3 76 (.bool true) hHeld rfl rfl (by kernel_rfl) (by kernel_rfl) (by kernel_rfl) (fun _ _ _ h => h) (Or.inl ⟨by rfl, fun w _ => by go_simp⟩) ?_
              simp only [Act.put, List.setIfInBounds_toArray, List.set_cons_zero, List.set_cons_succ]
              refine takeH 4 77 undef hHeld rfl rfl (by kernel_rfl) (by kernel_rfl) (by kernel_rfl) (fun _ _ _ h => h) (Or.inr ⟨by rfl, rfl⟩) ?_
              simp only [Act.put, List.setIfInBounds_toArray, List.set_cons_zero, List.set_cons_succ]
              refine takeH 5 78 undef hHeld rfl rfl (by kernel_rfl) (by kernel_rfl) (by kernel_rfl) (fun _ _ _ h => h) (Or.inr ⟨by rfl, rfl⟩) ?_
              simp only [Act.put, List.setIfInBounds_toArray, List.set_cons_zero, List.set_cons_succ]
              refine takeH 6 79 undef hHeld rfl rfl (by kernel_rfl) (by kernel_rfl) (by kernel_rfl) (fun _ _ _ h => h) (Or.inr ⟨by rfl, rfl⟩) ?_
              simp only [Act.put, List.setIfInBounds_toArray, List.set_cons_zero, List.set_cons_succ]
              refine takeH 7 80 undef hHeld rfl rfl (by kernel_rfl) (by kernel_rfl) (by kernel_rfl) (fun _ _ _ h => h) (Or.inr ⟨by rfl, rfl⟩) ?_
              simp only [Act.put, List.setIfInBounds_toArray, List.set_cons_zero, List.set_cons_succ]
              refine takeH 8 81 undef hHeld rfl rfl (by kernel_rfl) (by kernel_rfl) (by kernel_rfl) (fun _ _ _ h => h) (Or.inr ⟨by rfl, rfl⟩) ?_
              simp only [Act.put, List.setIfInBounds_toArray, List.set_cons_zero, List.set_cons_succ]
              refine takeH 9 82 undef hHeld rfl rfl (by kernel_rfl) (by kernel_rfl) (by kernel_rfl) (fun _ _ _ h => h) (Or.inr ⟨by rfl, rfl⟩) ?_
              simp only [Act.put, List.setIfInBounds_toArray, List.set_cons_zero, List.set_cons_succ]
              refine takeH 10 83 undef hHeld rfl rfl (by kernel_rfl) (by kernel_rfl) (by kernel_rfl) (fun _ _ _ h => h) (Or.inr ⟨by rfl, rfl⟩) ?_
              simp only [Act.put, List.setIfInBounds_toArray, List.set_cons_zero, List.set_cons_succ]
              refine takeH 11 84 undef hHeld rfl rfl (by kernel_rfl) (by kernel_rfl) (by kernel_rfl) (fun _ _ _ h => h) (Or.inr ⟨by rfl, rfl⟩) ?_
              simp only [Act.put, List.setIfInBounds_toArray, List.set_cons_zero, List.set_cons_succ]
              refine takeH 12 85 undef hHeld rfl rfl (by kernel_rfl) (by kernel_rfl) (by kernel_rfl) (fun _ _ _ h => h) (Or.inr ⟨by rfl, rfl⟩) ?_
              simp only [Act.put, List.setIfInBounds_toArray, List.set_cons_zero, List.set_cons_succ]
              refine takeH 13 86 (.bool true) hHeld rfl rfl (by kernel_rfl) (by kernel_rfl) (by kernel_rfl) (fun _ _ _ h => h) (Or.inl ⟨by rfl, fun w _ => by go_simp⟩) ?_
              simp only [Act.put, List.setIfInBounds_toArray, List.set_cons_zero, List.set_cons_succ]
              refine takeH 14 19 (.bool true) hHeld rfl rfl (by kernel_rfl) (by kernel_rfl) (by kernel_rfl) (fun _ _ _ h => h) (Or.inl ⟨by rfl, fun w _ => by go_simp⟩) ?_
              simp only [Act.put, List.setIfInBounds_toArray, List.set_cons_zero, List.set_cons_succ]
              refine wpAnyH_done (by kernel_rfl) ?_ _
              refine NoPanic.normal ?_
              clear hHeld
              have hcL := C0.out.own.cell7 (q2 - 1 - k) (by rw [HLN.out, HPL.out]; omega)
              rw [HLB.out] at hcL
              by_cases hh : h = 1
              · subst hh
                have hl1 : lft 1 = false := by decide
                rw [hl1] at hcL
                go_wp2_with fail
                clear hcL
                have HJ1 : Hid (NA = nd Pk Ak) := hide (by rw [HNA.out]; first | rfl | (unfold jn; rw [if_neg hh]))
                have HJ2 : Hid (NB = nd Xk Bk) := hide (by rw [HNB.out]; first | rfl | (unfold jn; rw [if_neg hh]))
                refine joinD (fun W => CM w W g16 g17 (some ⟨qb, qo, none⟩) q2 cq P (nd Pk Ak) (nd Xk Bk) (.slice (some ⟨gL, 0, none⟩) q2 cal) (ps.map lft)) ?actc1 ?tailc1 (fun hjoin => ?_)
                rotate_left
                rotate_left
                · refine wp_region_noPanic ?_
                  have D0 := hide (C0.out.below ((Below.refl _ _).drew))
                  have hS : ∀ (v : World) (A B : List Int), CM w v g16 g17 (some ⟨qb, qo, none⟩) q2 cq P A B (.slice (some ⟨gL, 0, none⟩) q2 cal) (ps.map lft) → v.rangeAt qb (qo + 32 * k) (u8s Pk) ∧ v.rangeAt pb (po + 32 * k) (u8s Xk) := fun v A B h1 => ⟨HPR.out v h1.ds, HXR.out v h1.bel⟩
                  refine wp_region_held_drew (S := fun v : World => v.rangeAt qb (qo + 32 * k) (u8s Pk) ∧ v.rangeAt pb (po + 32 * k) (u8s Xk)) (by kernel_rfl) (hS _ _ _ D0.out) (fun hHeld => ?_)
                  refine takeH 0 107 (.slice (some ⟨qb, qo, none⟩) q2 cq) hHeld rfl rfl (by kernel_rfl) (by kernel_rfl) (by kernel_rfl) (fun _ _ _ h => h) (Or.inl ⟨by rfl, fun w _ => by go_simp⟩) ?_
                  simp only [Act.put, List.setIfInBounds_toArray, List.set_cons_zero, List.set_cons_succ]
                  refine takeH 1 108 (.int .i64 (k : Int)) hHeld rfl rfl (by kernel_rfl) (by kernel_rfl) (by kernel_rfl) (fun _ _ _ h => h) (Or.inl ⟨by rfl, fun w _ => by go_simp⟩) ?_
                  simp only [Act.put, List.setIfInBounds_toArray, List.set_cons_zero, List.set_cons_succ]
                  refine takeH 2 109 (.pointer (some ⟨qb, qo + 32 * k, none⟩)) hHeld rfl rfl (by kernel_rfl) (by kernel_rfl) (by kernel_rfl) (fun _ _ _ h => h) (Or.inl ⟨by rfl, fun w _ => run_op rfl ((d_at qb qo q2 cq k (k : Int) rfl hlt) w)⟩) ?_
                  simp only [Act.put, List.setIfInBounds_toArray, List.set_cons_zero, List.set_cons_succ]
                  refine takeH 3 110 (.agg (u8s Pk).toArray) hHeld rfl rfl (by kernel_rfl) (by kernel_rfl) (by kernel_rfl) (fun _ _ _ h => h) (yieldsIf_load_mid (by rfl) _ _ rfl qb (qo + 32 * k) rfl _ _ (fun w h => h.1) hu rfl HI3.out) ?_
                  simp only [Act.put, List.setIfInBounds_toArray, List.set_cons_zero, List.set_cons_succ]
                  refine takeH 6 113 (.slice (some ⟨pb, po, none⟩) q2 cp) hHeld rfl rfl (by kernel_rfl) (by kernel_rfl) (by kernel_rfl) (fun _ _ _ h => h) (Or.inl ⟨by rfl, fun w _ => by go_simp⟩) ?_
                  simp only [Act.put, List.setIfInBounds_toArray, List.set_cons_zero, List.set_cons_succ]
                  refine takeH 7 114 (.int .i64 (k : Int)) hHeld rfl rfl (by kernel_rfl) (by kernel_rfl) (by kernel_rfl) (fun _ _ _ h => h) (Or.inl ⟨by rfl, fun w _ => by go_simp⟩) ?_
                  simp only [Act.put, List.setIfInBounds_toArray, List.set_cons_zero, List.set_cons_succ]
                  refine takeH 8 115 (.pointer (some ⟨pb, po + 32 * k, none⟩)) hHeld rfl rfl (by kernel_rfl) (by kernel_rfl) (by kernel_rfl) (fun _ _ _ h => h) (Or.inl ⟨by rfl, fun w _ => run_op rfl ((d_at pb po q2 cp k (k : Int) rfl hlt) w)⟩) ?_
                  simp only [Act.put, List.setIfInBounds_toArray, List.set_cons_zero, List.set_cons_succ]
                  refine takeH 9 116 (.agg (u8s Xk).toArray) hHeld rfl rfl (by kernel_rfl) (by kernel_rfl) (by kernel_rfl) (fun _ _ _ h => h) (yieldsIf_load_mid (by rfl) _ _ rfl pb (po + 32 * k) rfl _ _ (fun w h => h.2) hu rfl HI4.out) ?_
                  simp only [Act.put, List.setIfInBounds_toArray, List.set_cons_zero, List.set_cons_succ]
                  refine wpAnyH_ready (rs := [4, 10]) (by kernel_rfl) (by simp) (AllReadyH.cons rfl (fun K hK => ?_) (AllReadyH.cons rfl (fun K hK => ?_) AllReadyH.nil))
                  · rw [if_pos (by rfl)]
                    refine wp_loadWG wD rfl D0.out.a (by rw [u8s_length]; exact HAK.out) ?_
                    refine hK.out _ _ (hS _ _ _ D0.out) (fun hHeld => ?_)
                    clear hK K
                    simp only [Act.put]
                    refine wpAnyH_ready (rs := [5, 10]) (by kernel_rfl) (by simp) (AllReadyH.cons rfl (fun K hK => ?_) (AllReadyH.cons rfl (fun K hK => ?_) AllReadyH.nil))
                    · rw [if_pos (by rfl)]
                      go_simp
                      refine (node_any Pk Ak _ HPK.out HPKB.out HAK.out HAKB.out (HK.out.below D0.out.bel HK.out.lt)).mono ?_
                      rintro r v1 ⟨rfl, hv1⟩
                      have D1 := hide (D0.out.below hv1)
                      refine hK.out _ _ (hS _ _ _ D1.out) (fun hHeld => ?_)
                      clear hK K
                      try simp only [Act.put]
                      refine wpAnyH_ready (rs := [10]) (by kernel_rfl) (by simp) (AllReadyH.cons rfl (fun K hK => ?_) AllReadyH.nil)
                      rw [if_pos (by rfl)]
                      refine wp_loadWG wD rfl D1.out.b (by rw [u8s_length]; exact HBK.out) ?_
                      refine hK.out _ _ (hS _ _ _ D1.out) (fun hHeld => ?_)
                      clear hK K
                      simp only [Act.put]
                      refine wpAnyH_ready (rs := [11]) (by kernel_rfl) (by simp) (AllReadyH.cons rfl (fun K hK => ?_) AllReadyH.nil)
                      rw [if_pos (by rfl)]
                      go_simp
                      refine (node_any Xk Bk _ HXK.out HXKB.out HBK.out HBKB.out (HK.out.below D1.out.bel HK.out.lt)).mono ?_
                      rintro r v2 ⟨rfl, hv2⟩
                      have D2 := hide (D1.out.below hv2)
                      refine hK.out _ _ (hS _ _ _ D2.out) (fun hHeld => ?_)
                      clear hK K
                      refine wpAnyH_ready (rs := [12]) (by kernel_rfl) (by simp) (AllReadyH.cons rfl (fun K hK => ?_) AllReadyH.nil)
                      rw [if_pos (by rfl)]
                      refine wp_storeW wD rfl rfl rfl D2.out.a (by rw [u8s_length]; exact nd_length _ _) (One.u8 _) (by rw [u8s_length, HAK.out]; omega) ?_
                      intro v3 hg3 hbut3
                      rw [spl_same _ _ HAK.out (nd_length _ _)] at hg3
                      have D3 := hide (D2.out.set16 hbut3 hg3 hw16 hne)
                      refine hK.out _ _ (hS _ _ _ D3.out) (fun hHeld => ?_)
                      clear hK K
                      simp only [Act.put]
                      refine wpAnyH_ready (rs := [13]) (by kernel_rfl) (by simp) (AllReadyH.cons rfl (fun K hK => ?_) AllReadyH.nil)
                      rw [if_pos (by rfl)]
                      refine wp_storeW wD rfl rfl rfl D3.out.b (by rw [u8s_length]; exact nd_length _ _) (One.u8 _) (by rw [u8s_length, HBK.out]; omega) ?_
                      intro v4 hg4 hbut4
                      rw [spl_same _ _ HBK.out (nd_length _ _)] at hg4
                      have D4 := hide (D3.out.set17 hbut4 hg4 hw17 hne)
                      refine hK.out _ _ (hS _ _ _ D4.out) (fun hHeld => ?_)
                      clear hK K
                      simp only [Act.put]
                      refine wpAnyH_done (by kernel_rfl) ?_ _
                      refine NoPanic.normal ?_
                      exact hjoin _ D4.out
                    · rw [if_pos (by rfl)]
                      refine wp_loadWG wD rfl D0.out.b (by rw [u8s_length]; exact HBK.out) ?_
                      refine hK.out _ _ (hS _ _ _ D0.out) (fun hHeld => ?_)
                      clear hK K
                      simp only [Act.put]
                      refine wpAnyH_ready (rs := [5]) (by kernel_rfl) (by simp) (AllReadyH.cons rfl (fun K hK => ?_) AllReadyH.nil)
                      rw [if_pos (by rfl)]
                      go_simp
                      refine (node_any Pk Ak _ HPK.out HPKB.out HAK.out HAKB.out (HK.out.below D0.out.bel HK.out.lt)).mono ?_
                      rintro r v1 ⟨rfl, hv1⟩
                      have D1 := hide (D0.out.below hv1)
                      refine hK.out _ _ (hS _ _ _ D1.out) (fun hHeld => ?_)
                      clear hK K
                      try simp only [Act.put]
                      refine wpAnyH_ready (rs := [11]) (by kernel_rfl) (by simp) (AllReadyH.cons rfl (fun K hK => ?_) AllReadyH.nil)
                      rw [if_pos (by rfl)]
                      go_simp
                      refine (node_any Xk Bk _ HXK.out HXKB.out HBK.out HBKB.out (HK.out.below D1.out.bel HK.out.lt)).mono ?_
                      rintro r v2 ⟨rfl, hv2⟩
                      have D2 := hide (D1.out.below hv2)
                      refine hK.out _ _ (hS _ _ _ D2.out) (fun hHeld => ?_)
                      clear hK K
                      refine wpAnyH_ready (rs := [12]) (by kernel_rfl) (by simp) (AllReadyH.cons rfl (fun K hK => ?_) AllReadyH.nil)
                      rw [if_pos (by rfl)]
                      refine wp_storeW wD rfl rfl rfl D2.out.a (by rw [u8s_length]; exact nd_length _ _) (One.u8 _) (by rw [u8s_length, HAK.out]; omega) ?_
                      intro v3 hg3 hbut3
                      rw [spl_same _ _ HAK.out (nd_length _ _)] at hg3
                      have D3 := hide (D2.out.set16 hbut3 hg3 hw16 hne)
                      refine hK.out _ _ (hS _ _ _ D3.out) (fun hHeld => ?_)
                      clear hK K
                      simp only [Act.put]
                      refine wpAnyH_ready (rs := [13]) (by kernel_rfl) (by simp) (AllReadyH.cons rfl (fun K hK => ?_) AllReadyH.nil)
                      rw [if_pos (by rfl)]
                      refine wp_storeW wD rfl rfl rfl D3.out.b (by rw [u8s_length]; exact nd_length _ _) (One.u8 _) (by rw [u8s_length, HBK.out]; omega) ?_
                      intro v4 hg4 hbut4
                      rw [spl_same _ _ HBK.out (nd_length _ _)] at hg4
                      have D4 := hide (D3.out.set17 hbut4 hg4 hw17 hne)
                      refine hK.out _ _ (hS _ _ _ D4.out) (fun hHeld => ?_)
                      clear hK K
                      simp only [Act.put]
                      refine wpAnyH_done (by kernel_rfl) ?_ _
                      refine NoPanic.normal ?_
                      exact hjoin _ D4.out
                  · rw [if_pos (by rfl)]
                    refine wp_loadWG wD rfl D0.out.b (by rw [u8s_length]; exact HBK.out) ?_
                    refine hK.out _ _ (hS _ _ _ D0.out) (fun hHeld => ?_)
                    clear hK K
                    simp only [Act.put]
                    refine wpAnyH_ready (rs := [4]) (by kernel_rfl) (by simp) (AllReadyH.cons rfl (fun K hK => ?_) AllReadyH.nil)
                    rw [if_pos (by rfl)]
                    refine wp_loadWG wD rfl D0.out.a (by rw [u8s_length]; exact HAK.out) ?_
                    refine hK.out _ _ (hS _ _ _ D0.out) (fun hHeld => ?_)
                    clear hK K
                    simp only [Act.put]
                    refine wpAnyH_ready (rs := [5]) (by kernel_rfl) (by simp) (AllReadyH.cons rfl (fun K hK => ?_) AllReadyH.nil)
                    rw [if_pos (by rfl)]
                    go_simp
                    refine (node_any Pk Ak _ HPK.out HPKB.out HAK.out HAKB.out (HK.out.below D0.out.bel HK.out.lt)).mono ?_
                    rintro r v1 ⟨rfl, hv1⟩
                    have D1 := hide (D0.out.below hv1)
                    refine hK.out _ _ (hS _ _ _ D1.out) (fun hHeld => ?_)
                    clear hK K
                    try simp only [Act.put]
                    refine wpAnyH_ready (rs := [11]) (by kernel_rfl) (by simp) (AllReadyH.cons rfl (fun K hK => ?_) AllReadyH.nil)
                    rw [if_pos (by rfl)]
                    go_simp
                    refine (node_any Xk Bk _ HXK.out HXKB.out HBK.out HBKB.out (HK.out.below D1.out.bel HK.out.lt)).mono ?_
                    rintro r v2 ⟨rfl, hv2⟩
                    have D2 := hide (D1.out.below hv2)
                    refine hK.out _ _ (hS _ _ _ D2.out) (fun hHeld => ?_)
                    clear hK K
                    refine wpAnyH_ready (rs := [12]) (by kernel_rfl) (by simp) (AllReadyH.cons rfl (fun K hK => ?_) AllReadyH.nil)
                    rw [if_pos (by rfl)]
                    refine wp_storeW wD rfl rfl rfl D2.out.a (by rw [u8s_length]; exact nd_length _ _) (One.u8 _) (by rw [u8s_length, HAK.out]; omega) ?_
                    intro v3 hg3 hbut3
                    rw [spl_same _ _ HAK.out (nd_length _ _)] at hg3
                    have D3 := hide (D2.out.set16 hbut3 hg3 hw16 hne)
                    refine hK.out _ _ (hS _ _ _ D3.out) (fun hHeld => ?_)
                    clear hK K
                    simp only [Act.put]
                    refine wpAnyH_ready (rs := [13]) (by kernel_rfl) (by simp) (AllReadyH.cons rfl (fun K hK => ?_) AllReadyH.nil)
                    rw [if_pos (by rfl)]
                    refine wp_storeW wD rfl rfl rfl D3.out.b (by rw [u8s_length]; exact nd_length _ _) (One.u8 _) (by rw [u8s_length, HBK.out]; omega) ?_
                    intro v4 hg4 hbut4
                    rw [spl_same _ _ HBK.out (nd_length _ _)] at hg4
                    have D4 := hide (D3.out.set17 hbut4 hg4 hw17 hne)
                    refine hK.out _ _ (hS _ _ _ D4.out) (fun hHeld => ?_)
                    clear hK K
                    simp only [Act.put]
                    refine wpAnyH_done (by kernel_rfl) ?_ _
                    refine NoPanic.normal ?_
                    exact hjoin _ D4.out
                · rintro W4 hC4
                  have C4 := hide hC4
                  clear hC4 C0
                  rw [← HJ1.out, ← HJ2.out] at C4
                  have HNAL := hide (show NA.length = 32 by rw [HJ1.out, nd_length])
                  have HNBL := hide (show NB.length = 32 by rw [HJ2.out, nd_length])
                  have HNAU := hide (show (u8s NA).length = 32 by rw [u8s_length, HNAL.out])
                  have HNBU := hide (show (u8s NB).length = 32 by rw [u8s_length, HNBL.out])
                  by_cases hab : NA = NB
                  · have HEQ2 : Hid (decide (NA = NB) = true) := hide (decide_eq_true hab)
                    clear hab
                    go_wp2_with (first | (refine step_loadA wD rfl rfl C4.out.a HNAU.out ?_) | (refine step_loadA wD rfl rfl C4.out.b HNBU.out ?_) | (refine step_eqQ aD _ HEQ2.out rfl rfl rfl HNAL.out HNBL.out ?_))
                    go_ret
                    exact ⟨rfl, C4.out.bel⟩
                  · have HEQ2 : Hid (decide (NA = NB) = false) := hide (decide_eq_false hab)
                    have HAB2 := hide hab
                    clear hab
                    go_wp2_with (first | (refine step_loadA wD rfl rfl C4.out.a HNAU.out ?_) | (refine step_loadA wD rfl rfl C4.out.b HNBU.out ?_) | (refine step_eqQ aD _ HEQ2.out rfl rfl rfl HNAL.out HNBL.out ?_))
                    go_roundw
                    case rel => exact ⟨k + 1, by omega, by simp, hide (HPT.out.next (fun _ => by rw [HFA.out, HFB.out]; exact HAB2.out)), by rw [HFA.out, HFB.out]; exact C4.out⟩
                    case measure => simp only [intOf]; omega
              · have hl1 : lft h = true := by simp [lft, hh]
                rw [hl1] at hcL
                go_wp2_with fail
                clear hcL
                have HJ1 : Hid (NA = nd Ak Pk) := hide (by rw [HNA.out]; first | rfl | (unfold jn; rw [if_neg hh]))
                have HJ2 : Hid (NB = nd Bk Xk) := hide (by rw [HNB.out]; first | rfl | (unfold jn; rw [if_neg hh]))
                refine joinD (fun W => CM w W g16 g17 (some ⟨qb, qo, none⟩) q2 cq P (nd Ak Pk) (nd Bk Xk) (.slice (some ⟨gL, 0, none⟩) q2 cal) (ps.map lft)) ?actc2 ?tailc2 (fun hjoin => ?_)
                rotate_left
                rotate_left
                · refine wp_region_noPanic ?_
                  have D0 := hide (C0.out.below ((Below.refl _ _).drew))
                  have hS : ∀ (v : World) (A B : List Int), CM w v g16 g17 (some ⟨qb, qo, none⟩) q2 cq P A B (.slice (some ⟨gL, 0, none⟩) q2 cal) (ps.map lft) → v.rangeAt qb (qo + 32 * k) (u8s Pk) ∧ v.rangeAt pb (po + 32 * k) (u8s Xk) := fun v A B h1 => ⟨HPR.out v h1.ds, HXR.out v h1.bel⟩
                  refine wp_region_held_drew (S := fun v : World => v.rangeAt qb (qo + 32 * k) (u8s Pk) ∧ v.rangeAt pb (po + 32 * k) (u8s Xk)) (by kernel_rfl) (hS _ _ _ D0.out) (fun hHeld => ?_)
                  refine takeH 1 96 (.slice (some ⟨qb, qo, none⟩) q2 cq) hHeld rfl rfl (by kernel_rfl) (by kernel_rfl) (by kernel_rfl) (fun _ _ _ h => h) (Or.inl ⟨by rfl, fun w _ => by go_simp⟩) ?_
                  simp only [Act.put, List.setIfInBounds_toArray, List.set_cons_zero, List.set_cons_succ]
                  refine takeH 2 97 (.int .i64 (k : Int)) hHeld rfl rfl (by kernel_rfl) (by kernel_rfl) (by kernel_rfl) (fun _ _ _ h => h) (Or.inl ⟨by rfl, fun w _ => by go_simp⟩) ?_
                  simp only [Act.put, List.setIfInBounds_toArray, List.set_cons_zero, List.set_cons_succ]
                  refine takeH 3 98 (.pointer (some ⟨qb, qo + 32 * k, none⟩)) hHeld rfl rfl (by kernel_rfl) (by kernel_rfl) (by kernel_rfl) (fun _ _ _ h => h) (Or.inl ⟨by rfl, fun w _ => run_op rfl ((d_at qb qo q2 cq k (k : Int) rfl hlt) w)⟩) ?_
                  simp only [Act.put, List.setIfInBounds_toArray, List.set_cons_zero, List.set_cons_succ]
                  refine takeH 4 99 (.agg (u8s Pk).toArray) hHeld rfl rfl (by kernel_rfl) (by kernel_rfl) (by kernel_rfl) (fun _ _ _ h => h) (yieldsIf_load_mid (by rfl) _ _ rfl qb (qo + 32 * k) rfl _ _ (fun w h => h.1) hu rfl HI3.out) ?_
                  simp only [Act.put, List.setIfInBounds_toArray, List.set_cons_zero, List.set_cons_succ]
                  refine takeH 7 102 (.slice (some ⟨pb, po, none⟩) q2 cp) hHeld rfl rfl (by kernel_rfl) (by kernel_rfl) (by kernel_rfl) (fun _ _ _ h => h) (Or.inl ⟨by rfl, fun w _ => by go_simp⟩) ?_
                  simp only [Act.put, List.setIfInBounds_toArray, List.set_cons_zero, List.set_cons_succ]
                  refine takeH 8 103 (.int .i64 (k : Int)) hHeld rfl rfl (by kernel_rfl) (by kernel_rfl) (by kernel_rfl) (fun _ _ _ h => h) (Or.inl ⟨by rfl, fun w _ => by go_simp⟩) ?_
                  simp only [Act.put, List.setIfInBounds_toArray, List.set_cons_zero, List.set_cons_succ]
                  refine takeH 9 104 (.pointer (some ⟨pb, po + 32 * k, none⟩)) hHeld rfl rfl (by kernel_rfl) (by kernel_rfl) (by kernel_rfl) (fun _ _ _ h => h) (Or.inl ⟨by rfl, fun w _ => run_op rfl ((d_at pb po q2 cp k (k : Int) rfl hlt) w)⟩) ?_
                  simp only [Act.put, List.setIfInBounds_toArray, List.set_cons_zero, List.set_cons_succ]
                  refine takeH 10 105 (.agg (u8s Xk).toArray) hHeld rfl rfl (by kernel_rfl) (by kernel_rfl) (by kernel_rfl) (fun _ _ _ h => h) (yieldsIf_load_mid (by rfl) _ _ rfl pb (po + 32 * k) rfl _ _ (fun w h => h.2) hu rfl HI4.out) ?_
                  simp only [Act.put, List.setIfInBounds_toArray, List.set_cons_zero, List.set_cons_succ]
                  refine wpAnyH_ready (rs := [0, 6]) (by kernel_rfl) (by simp) (AllReadyH.cons rfl (fun K hK => ?_) (AllReadyH.cons rfl (fun K hK => ?_) AllReadyH.nil))
                  · rw [if_pos (by rfl)]
                    refine wp_loadWG wD rfl D0.out.a (by rw [u8s_length]; exact HAK.out) ?_
                    refine hK.out _ _ (hS _ _ _ D0.out) (fun hHeld => ?_)
                    clear hK K
                    simp only [Act.put]
                    refine wpAnyH_ready (rs := [5, 6]) (by kernel_rfl) (by simp) (AllReadyH.cons rfl (fun K hK => ?_) (AllReadyH.cons rfl (fun K hK => ?_) AllReadyH.nil))
                    · rw [if_pos (by rfl)]
                      go_simp
                      refine (node_any Ak Pk _ HAK.out HAKB.out HPK.out HPKB.out (HK.out.below D0.out.bel HK.out.lt)).mono ?_
                      rintro r v1 ⟨rfl, hv1⟩
                      have D1 := hide (D0.out.below hv1)
                      refine hK.out _ _ (hS _ _ _ D1.out) (fun hHeld => ?_)
                      clear hK K
                      try simp only [Act.put]
                      refine wpAnyH_ready (rs := [6]) (by kernel_rfl) (by simp) (AllReadyH.cons rfl (fun K hK => ?_) AllReadyH.nil)
                      rw [if_pos (by rfl)]
                      refine wp_loadWG wD rfl D1.out.b (by rw [u8s_length]; exact HBK.out) ?_
                      refine hK.out _ _ (hS _ _ _ D1.out) (fun hHeld => ?_)
                      clear hK K
                      simp only [Act.put]
                      refine wpAnyH_ready (rs := [11]) (by kernel_rfl) (by simp) (AllReadyH.cons rfl (fun K hK => ?_) AllReadyH.nil)
                      rw [if_pos (by rfl)]
                      go_simp
                      refine (node_any Bk Xk _ HBK.out HBKB.out HXK.out HXKB.out (HK.out.below D1.out.bel HK.out.lt)).mono ?_
                      rintro r v2 ⟨rfl, hv2⟩
                      have D2 := hide (D1.out.below hv2)
                      refine hK.out _ _ (hS _ _ _ D2.out) (fun hHeld => ?_)
                      clear hK K
                      refine wpAnyH_ready (rs := [12]) (by kernel_rfl) (by simp) (AllReadyH.cons rfl (fun K hK => ?_) AllReadyH.nil)
                      rw [if_pos (by rfl)]
                      refine wp_storeW wD rfl rfl rfl D2.out.a (by rw [u8s_length]; exact nd_length _ _) (One.u8 _) (by rw [u8s_length, HAK.out]; omega) ?_
                      intro v3 hg3 hbut3
                      rw [spl_same _ _ HAK.out (nd_length _ _)] at hg3
                      have D3 := hide (D2.out.set16 hbut3 hg3 hw16 hne)
                      refine hK.out _ _ (hS _ _ _ D3.out) (fun hHeld => ?_)
                      clear hK K
                      simp only [Act.put]
                      refine wpAnyH_ready (rs := [13]) (by kernel_rfl) (by simp) (AllReadyH.cons rfl (fun K hK => ?_) AllReadyH.nil)
                      rw [if_pos (by rfl)]
                      refine wp_storeW wD rfl rfl rfl D3.out.b (by rw [u8s_length]; exact nd_length _ _) (One.u8 _) (by rw [u8s_length, HBK.out]; omega) ?_
                      intro v4 hg4 hbut4
                      rw [spl_same _ _ HBK.out (nd_length _ _)] at hg4
                      have D4 := hide (D3.out.set17 hbut4 hg4 hw17 hne)
                      refine hK.out _ _ (hS _ _ _ D4.out) (fun hHeld => ?_)
                      clear hK K
                      simp only [Act.put]
                      refine wpAnyH_done (by kernel_rfl) ?_ _
                      refine NoPanic.normal ?_
                      exact hjoin _ D4.out
                    · rw [if_pos (by rfl)]
                      refine wp_loadWG wD rfl D0.out.b (by rw [u8s_length]; exact HBK.out) ?_
                      refine hK.out _ _ (hS _ _ _ D0.out) (fun hHeld => ?_)
                      clear hK K
                      simp only [Act.put]
                      refine wpAnyH_ready (rs := [5]) (by kernel_rfl) (by simp) (AllReadyH.cons rfl (fun K hK => ?_) AllReadyH.nil)
                      rw [if_pos (by rfl)]
                      go_simp
                      refine (node_any Ak Pk _ HAK.out HAKB.out HPK.out HPKB.out (HK.out.below D0.out.bel HK.out.lt)).mono ?_
                      rintro r v1 ⟨rfl, hv1⟩
                      have D1 := hide (D0.out.below hv1)
                      refine hK.out _ _ (hS _ _ _ D1.out) (fun hHeld => ?_)
                      clear hK K
                      try simp only [Act.put]
                      refine wpAnyH_ready (rs := [11]) (by kernel_rfl) (by simp) (AllReadyH.cons rfl (fun K hK => ?_) AllReadyH.nil)
                      rw [if_pos (by rfl)]
                      go_simp
                      refine (node_any Bk Xk _ HBK.out HBKB.out HXK.out HXKB.out (HK.out.below D1.out.bel HK.out.lt)).mono ?_
                      rintro r v2 ⟨rfl, hv2⟩
                      have D2 := hide (D1.out.below hv2)
                      refine hK.out _ _ (hS _ _ _ D2.out) (fun hHeld => ?_)
                      clear hK K
                      refine wpAnyH_ready (rs := [12]) (by kernel_rfl) (by simp) (AllReadyH.cons rfl (fun K hK => ?_) AllReadyH.nil)
                      rw [if_pos (by rfl)]
                      refine wp_storeW wD rfl rfl rfl D2.out.a (by rw [u8s_length]; exact nd_length _ _) (One.u8 _) (by rw [u8s_length, HAK.out]; omega) ?_
                      intro v3 hg3 hbut3
                      rw [spl_same _ _ HAK.out (nd_length _ _)] at hg3
                      have D3 := hide (D2.out.set16 hbut3 hg3 hw16 hne)
                      refine hK.out _ _ (hS _ _ _ D3.out) (fun hHeld => ?_)
                      clear hK K
                      simp only [Act.put]
                      refine wpAnyH_ready (rs := [13]) (by kernel_rfl) (by simp) (AllReadyH.cons rfl (fun K hK => ?_) AllReadyH.nil)
                      rw [if_pos (by rfl)]
                      refine wp_storeW wD rfl rfl rfl D3.out.b (by rw [u8s_length]; exact nd_length _ _) (One.u8 _) (by rw [u8s_length, HBK.out]; omega) ?_
                      intro v4 hg4 hbut4
                      rw [spl_same _ _ HBK.out (nd_length _ _)] at hg4
                      have D4 := hide (D3.out.set17 hbut4 hg4 hw17 hne)
                      refine hK.out _ _ (hS _ _ _ D4.out) (fun hHeld => ?_)
                      clear hK K
                      simp only [Act.put]
                      refine wpAnyH_done (by kernel_rfl) ?_ _
                      refine NoPanic.normal ?_
                      exact hjoin _ D4.out
                  · rw [if_pos (by rfl)]
                    refine wp_loadWG wD rfl D0.out.b (by rw [u8s_length]; exact HBK.out) ?_
                    refine hK.out _ _ (hS _ _ _ D0.out) (fun hHeld => ?_)
                    clear hK K
                    simp only [Act.put]
                    refine wpAnyH_ready (rs := [0]) (by kernel_rfl) (by simp) (AllReadyH.cons rfl (fun K hK => ?_) AllReadyH.nil)
                    rw [if_pos (by rfl)]
                    refine wp_loadWG wD rfl D0.out.a (by rw [u8s_length]; exact HAK.out) ?_
                    refine hK.out _ _ (hS _ _ _ D0.out) (fun hHeld => ?_)
                    clear hK K
                    simp only [Act.put]
                    refine wpAnyH_ready (rs := [5]) (by kernel_rfl) (by simp) (AllReadyH.cons rfl (fun K hK => ?_) AllReadyH.nil)
                    rw [if_pos (by rfl)]
                    go_simp
                    refine (node_any Ak Pk _ HAK.out HAKB.out HPK.out HPKB.out (HK.out.below D0.out.bel HK.out.lt)).mono ?_
                    rintro r v1 ⟨rfl, hv1⟩
                    have D1 := hide (D0.out.below hv1)
                    refine hK.out _ _ (hS _ _ _ D1.out) (fun hHeld => ?_)
                    clear hK K
                    try simp only [Act.put]
                    refine wpAnyH_ready (rs := [11]) (by kernel_rfl) (by simp) (AllReadyH.cons rfl (fun K hK => ?_) AllReadyH.nil)
                    rw [if_pos (by rfl)]
                    go_simp
                    refine (node_any Bk Xk _ HBK.out HBKB.out HXK.out HXKB.out (HK.out.below D1.out.bel HK.out.lt)).mono ?_
                    rintro r v2 ⟨rfl, hv2⟩
                    have D2 := hide (D1.out.below hv2)
                    refine hK.out _ _ (hS _ _ _ D2.out) (fun hHeld => ?_)
                    clear hK K
                    refine wpAnyH_ready (rs := [12]) (by kernel_rfl) (by simp) (AllReadyH.cons rfl (fun K hK => ?_) AllReadyH.nil)
                    rw [if_pos (by rfl)]
                    refine wp_storeW wD rfl rfl rfl D2.out.a (by rw [u8s_length]; exact nd_length _ _) (One.u8 _) (by rw [u8s_length, HAK.out]; omega) ?_
                    intro v3 hg3 hbut3
                    rw [spl_same _ _ HAK.out (nd_length _ _)] at hg3
                    have D3 := hide (D2.out.set16 hbut3 hg3 hw16 hne)
                    refine hK.out _ _ (hS _ _ _ D3.out) (fun hHeld => ?_)
                    clear hK K
                    simp only [Act.put]
                    refine wpAnyH_ready (rs := [13]) (by kernel_rfl) (by simp) (AllReadyH.cons rfl (fun K hK => ?_) AllReadyH.nil)
                    rw [if_pos (by rfl)]
                    refine wp_storeW wD rfl rfl rfl D3.out.b (by rw [u8s_length]; exact nd_length _ _) (One.u8 _) (by rw [u8s_length, HBK.out]; omega) ?_
                    intro v4 hg4 hbut4
                    rw [spl_same _ _ HBK.out (nd_length _ _)] at hg4
                    have D4 := hide (D3.out.set17 hbut4 hg4 hw17 hne)
                    refine hK.out _ _ (hS _ _ _ D4.out) (fun hHeld => ?_)
                    clear hK K
                    simp only [Act.put]
                    refine wpAnyH_done (by kernel_rfl) ?_ _
                    refine NoPanic.normal ?_
                    exact hjoin _ D4.out
                · rintro W4 hC4
                  have C4 := hide hC4
                  clear hC4 C0
                  rw [← HJ1.out, ← HJ2.out] at C4
                  have HNAL := hide (show NA.length = 32 by rw [HJ1.out, nd_length])
                  have HNBL := hide (show NB.length = 32 by rw [HJ2.out, nd_length])
                  have HNAU := hide (show (u8s NA).length = 32 by rw [u8s_length, HNAL.out])
                  have HNBU := hide (show (u8s NB).length = 32 by rw [u8s_length, HNBL.out])
                  by_cases hab : NA = NB
                  · have HEQ2 : Hid (decide (NA = NB) = true) := hide (decide_eq_true hab)
                    clear hab
                    go_wp2_with (first | (refine step_loadA wD rfl rfl C4.out.a HNAU.out ?_) | (refine step_loadA wD rfl rfl C4.out.b HNBU.out ?_) | (refine step_eqQ aD _ HEQ2.out rfl rfl rfl HNAL.out HNBL.out ?_))
                    go_ret
                    exact ⟨rfl, C4.out.bel⟩
                  · have HEQ2 : Hid (decide (NA = NB) = false) := hide (decide_eq_false hab)
                    have HAB2 := hide hab
                    clear hab
                    go_wp2_with (first | (refine step_loadA wD rfl rfl C4.out.a HNAU.out ?_) | (refine step_loadA wD rfl rfl C4.out.b HNBU.out ?_) | (refine step_eqQ aD _ HEQ2.out rfl rfl rfl HNAL.out HNBL.out ?_))
                    go_roundw
                    case rel => exact ⟨k + 1, by omega, by simp, hide (HPT.out.next (fun _ => by rw [HFA.out, HFB.out]; exact HAB2.out)), by rw [HFA.out, HFB.out]; exact C4.out⟩
                    case measure => simp only [intOf]; omega
          · obtain rfl : k = q2 := by omega
            exact absurd (HPT.out.not HEQ.out) id

end Go.Proofs.YtdggooanpamoeaaDoor

/-
  One byte of a digest turned: of an array, of a slice.
-/
namespace Go.Proofs.YtdggooanpamoeaaDoor
open Go.RowKit
set_option linter.unusedVariables false

theorem and31 (x : Int) : ∃ j : Nat, j < 32 ∧ bits .and .i64 x 31 = (j : Int) := by
  refine ⟨(BitVec.ofInt 64 x &&& BitVec.ofInt 64 31).toNat, ?_, ?_⟩
  · rw [BitVec.toNat_and]
    have : (BitVec.ofInt 64 31).toNat = 31 := by decide
    rw [this]
    have := @Nat.and_le_right (BitVec.ofInt 64 x).toNat 31
    omega
  · have h : (BitVec.ofInt 64 x &&& BitVec.ofInt 64 31).toNat ≤ 31 := by
      rw [BitVec.toNat_and]
      have e : (BitVec.ofInt 64 31).toNat = 31 := by decide
      rw [e]
      exact Nat.and_le_right
    show IntKind.i64.wrap (((BitVec.ofInt 64 x &&& BitVec.ofInt 64 31).toNat : Nat) : Int) = _
    rw [IntKind.wrap_i64]
    omega
theorem xor_by (x m : Int) (hx : 0 ≤ x ∧ x ≤ 255) (hm : 0 < m ∧ m ≤ 255) : 0 ≤ bits .xor .u8 x m ∧ bits .xor .u8 x m ≤ 255 ∧ bits .xor .u8 x m ≠ x := by
  rw [u8_xor x m (by omega) (by omega) (by omega) (by omega)]
  have h1 : x.toNat ^^^ m.toNat < 2 ^ 8 := Nat.xor_lt_two_pow (by omega) (by omega)
  refine ⟨by omega, by omega, fun h => ?_⟩
  have h2 : x.toNat ^^^ m.toNat = x.toNat := by omega
  have h3 : x.toNat ^^^ (x.toNat ^^^ m.toNat) = x.toNat ^^^ x.toNat := by rw [h2]
  rw [← Nat.xor_assoc, Nat.xor_self, Nat.zero_xor] at h3
  omega
theorem isB_set {xs : List Int} (h : isB xs) (i : Nat) (v : Int) (hv : 0 ≤ v ∧ v ≤ 255) : isB (xs.set i v) := by
  intro x hx
  rcases List.mem_or_eq_of_mem_set hx with h1 | rfl
  · exact h x h1
  · exact hv
theorem set_ne {xs : List Int} (i : Nat) (v : Int) (hi : i < xs.length) (hv : v ≠ xs.getD i 0) : xs.set i v ≠ xs := by
  intro h
  have h1 : (xs.set i v)[i]? = xs[i]? := by rw [h]
  rw [List.getElem?_set_self hi, List.getElem?_eq_getElem hi] at h1
  apply hv
  rw [List.getD, List.getElem?_eq_getElem hi]
  exact Option.some.inj h1
theorem dat_set (xs : List Int) (k j : Nat) (v : Int) (hj : j < 32) : dat (xs.set (32 * k + j) v) k = (dat xs k).set j v := by
  unfold dat
  rw [List.drop_set, if_neg (by omega), List.take_set]
  congr 1
  omega
theorem dat_get (xs : List Int) (k j : Nat) (hj : j < 32) : (dat xs k).getD j 0 = xs.getD (32 * k + j) 0 := by
  simp [dat, List.getD, hj]
theorem index_D7 (g off j : Nat) (J : Int) (hJ : J = (j : Int)) (hj : j < 32) (w : World) : (Instr.indexAt 26 (.pointer (some ⟨g, off, none⟩)) (.int .i64 J)).run Tryd.prog w = .ok (.pointer (some ⟨g, off + j, none⟩)) w := by
  subst hJ
  have hT : Tryd.prog.underlying 26 = some (.array (Tryd.prog.arrayLen 26) (Tryd.prog.elem 26)) := by kernel_rfl
  have hn : Tryd.prog.arrayLen 26 = 32 := by kernel_rfl
  have hz : ∀ w, (sizeOf (Tryd.prog.elem 26)).run Tryd.prog w = .ok 1 w := fun _ => by kernel_rfl
  rw [run_indexAt_array w 26 _ .i64 j hT, if_pos ⟨by omega, by rw [hn]; omega⟩, hz]
  simp only [Result.andThen_ok, Int.toNat_natCast, Nat.mul_one]
  rw [Addr.add_lit]
section
variable {dst : Option Tmp} {ty : TypeId} {pos : String} {aft : Array Edge} {gd : Option (Nat × Bool)} {a : Act} {w : World} {K : Act → World → Prop} {Q : Exit → Act → World → Prop}
theorem wp_loadU {x : Operand} {g i : Nat} {n : Int} (hx : a.eval x = .pointer (some ⟨g, i, none⟩)) (hc : w.cell? ⟨g, i, none⟩ = some (.int .u8 n)) (h : K (a.put dst (.int .u8 n)) w) :
    Oper.wp Tryd.prog ⟨dst, .load 5 x, ty, pos, aft, gd⟩ a w K Q := by
  refine wp_runV (.int .u8 n) w ?_ h
  unfold execOp
  simp only [hx]
  go_simp
theorem wp_storeU {x y : Operand} {g i : Nat} {n m : Int} (hx : a.eval x = .pointer (some ⟨g, i, none⟩)) (hy : a.eval y = .int .u8 n) (hc : w.cell? ⟨g, i, none⟩ = some (.int .u8 m)) (hf : w.frozen? ⟨g, i, none⟩ = false)
    (h : K (a.put dst undef) (w.setCell ⟨g, i, none⟩ (.int .u8 n))) : Oper.wp Tryd.prog ⟨dst, .store 5 x y, ty, pos, aft, gd⟩ a w K Q := by
  unfold Oper.wp execOp
  simp only [hx, hy]
  go_simp
  exact h
end
theorem Ds.set {w : World} {b o n cap : Nat} {xs : List Int} {t : TypeId} {cs : List Value} (h : Ds w (some ⟨b, o, none⟩) n cap xs) (hb : Blk w b t cs) (i : Nat) (hi : i < 32 * n) (v : Int) (hv : 0 ≤ v ∧ v ≤ 255) : Ds (w.setCell ⟨b, o + i, none⟩ (.int .u8 v)) (some ⟨b, o, none⟩) n cap (xs.set i v) := by
  refine ⟨h.hcap, h.hmax, h.hnil, by rw [List.length_set]; exact h.sl.hlen, h.sl.hcap, h.sl.hmax, h.sl.hreach, isB_set h.sl.hbyte i v hv, h.sl.hnil, fun h0 => ?_⟩
  obtain ⟨b', o', e, hc⟩ := h.sl.hcell h0
  cases e
  refine ⟨b, o, rfl, fun j hj => ?_⟩
  have hjl : j < xs.length := by rw [h.hlen]; exact hj
  have hoi : o + i < cs.length := by
    have := hc i hi
    rw [hb.cell] at this
    exact (List.getElem?_eq_some_iff.1 this).1
  rw [(hb.set (o + i) (.int .u8 v)).cell]
  by_cases hij : i = j
  · subst hij
    rw [List.getElem?_set_self hoi]
    simp [List.getD, hjl]
  · rw [List.getElem?_set_ne (by omega), ← hb.cell, hc j hj]
    simp [List.getD, List.getElem?_set_ne hij]

end Go.Proofs.YtdggooanpamoeaaDoor

/-
  The law's within.
-/
namespace Go.Proofs.YtdggooanpamoeaaDoor
open Go.RowKit
set_option linter.unusedVariables false

theorem into7 (i : Int) (n : Nat) (h0 : 0 < n) (hn : n ≤ 4398046511104) : ∃ j : Nat, j < n ∧ (wrap64 (i.tmod n + n)).tmod n = (j : Int) := by
  have hp : (0 : Int) < (n : Int) := by omega
  have h1 := Int.tmod_lt_of_pos i hp
  have h2 := Int.lt_tmod_of_pos i hp
  generalize i.tmod n = r at *
  have e : wrap64 (r + n) = r + n := by unfold wrap64; omega
  rw [e, Int.tmod_eq_emod_of_nonneg (by omega)]
  have h3 := Int.emod_nonneg (r + n) (show (n : Int) ≠ 0 by omega)
  have h4 := Int.emod_lt_of_pos (r + n) hp
  exact ⟨((r + n) % n).toNat, by omega, by omega⟩
set_option maxRecDepth 100000 in
set_option maxHeartbeats 1000000 in
theorem within_any (x : Int) (lo hi : Nat) (h : lo ≤ hi) (hh : hi ≤ 4398046511000) (hx : (Lit.int .i64 x).wf = true) : ∃ r : Nat, lo ≤ r ∧ r ≤ hi ∧ ∀ w : World, Calls Tryd.prog 19 #[.int .i64 x, .int .i64 (lo : Int), .int .i64 (hi : Int)] w fun e w' => e = .returned (.int .i64 (r : Int)) ∧ w' = w := by
  have hb := bounds_i64 hx
  obtain ⟨n, hn⟩ : ∃ n : Nat, hi + 1 = lo + n := ⟨hi + 1 - lo, by omega⟩
  obtain ⟨j, hj, hj2⟩ := into7 x n (by omega) (by omega)
  refine ⟨lo + j, by omega, by omega, fun w => ?_⟩
  have hs1 : (hi : Int) - (lo : Int) + 1 = (n : Int) := by omega
  have hs2 : IntKind.i64.wrap ((hi : Int) - (lo : Int)) = (hi : Int) - (lo : Int) := by rw [IntKind.wrap_i64]; omega
  have hs3 : IntKind.i64.wrap ((hi : Int) - (lo : Int) + 1) = (n : Int) := by rw [IntKind.wrap_i64]; omega
  have hn0 : ¬ ((n : Int) = 0) := by omega
  have HJ := hide hj2
  have HN := hide hn
  clear hj2 hn
  go_enter Tryd.func19, Tryd.ntmps19
  go_wp2
  go_ret
  refine ⟨congrArg (fun z : Int => Ending.returned (Value.int .i64 z)) ?_, rfl⟩
  rw [HJ.out]
  unfold wrap64
  omega

end Go.Proofs.YtdggooanpamoeaaDoor
