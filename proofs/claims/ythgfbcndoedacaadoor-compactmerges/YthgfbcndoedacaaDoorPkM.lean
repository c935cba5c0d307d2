/-
  Texts one behind the other: Lo Ry Rz.
-/
import Derived.Test.YthgfbcndoedacaaDoorPkJ
import Derived.Test.YthgfbcndoedacaaDoorPkK
import Derived.Test.YthgfbcndoedacaaDoorPkL

/-
  compact.Load.
-/
namespace Go.Proofs.YthgfbcndoedacaaDoor
open Go.RowKit Go.Shelf
set_option linter.unusedVariables false

/-- The i-th digest of bytes. -/
def dAt (xs : List Int) (i : Nat) : List Int := (xs.drop (16 + 32 * i)).take 32
/-- The parts that are read. -/
def ldP (b e : Nat) (xs : List Int) (pre : List Nat) : List Pt := (List.range pre.length).map fun i => (nG b e (pre.getD i 0), dAt xs i)
theorem ldP_snoc (b e : Nat) (xs : List Int) (pre : List Nat) (x : Nat) : ldP b e xs (pre ++ [x]) = ldP b e xs pre ++ [(nG b e x, dAt xs pre.length)] := by
  unfold ldP
  rw [List.length_append, List.length_singleton, List.range_succ, List.map_append]
  congr 1
  · apply List.map_congr_left
    intro i hi
    have : i < pre.length := List.mem_range.1 hi
    simp [List.getD, List.getElem?_append_left this]
  · simp [List.getD]
theorem ldP_length (b e : Nat) (xs : List Int) (pre : List Nat) : (ldP b e xs pre).length = pre.length := by simp [ldP]
theorem nG_good {b e : Nat} (hbe : b ≤ e) (he : e ≤ 281474976710656) (i : Nat) : (nG b e i).1 ≤ 49 ∧ (nG b e i).2 ≤ 281474976710656 := by
  unfold nG
  cases hq : (parts b e)[i]? with
  | none => simp [List.getD, hq]
  | some q =>
    obtain ⟨h1, h2, h3⟩ := pbeg_at hbe he hq
    have e1 : (parts b e).getD i (0, 0) = q := by simp [List.getD, hq]
    rw [e1]
    rw [h2] at h3
    have hp := Nat.two_pow_pos q.1
    refine ⟨?_, ?_⟩
    · apply Nat.le_of_not_lt
      intro hl
      have h4 : 2 ^ 50 ≤ 2 ^ q.1 := Nat.pow_le_pow_right (by decide) hl
      have h5 : (2 : Nat) ^ 50 = 1125899906842624 := by decide
      revert h3 h4
      generalize 2 ^ q.1 = P
      generalize pbeg b e i = s
      intro h3 h4
      omega
    · have h4 : q.2 ≤ q.2 * 2 ^ q.1 := Nat.le_mul_of_pos_right _ hp
      rw [h1] at h4
      revert h3 h4
      generalize 2 ^ q.1 = P
      generalize pbeg b e i = s
      intro h3 h4
      omega
theorem ldP_good {b e : Nat} {xs : List Int} {pre : List Nat} (hbe : b ≤ e) (he : e ≤ 281474976710656) (hb : isB xs) (hl : 16 + 32 * pre.length ≤ xs.length) : GoodL (ldP b e xs pre) := by
  intro p hp
  simp only [ldP, List.mem_map, List.mem_range] at hp
  obtain ⟨i, hi, rfl⟩ := hp
  have hn := nG_good hbe he (pre.getD i 0)
  refine ⟨?_, (hb.drop _).take _, hn.1, hn.2⟩
  simp [dAt]
  omega
theorem nG_all (b e : Nat) : (List.range (parts b e).length).map (nG b e) = parts b e := by
  apply List.ext_getElem?
  intro i
  by_cases hi : i < (parts b e).length
  · simp [nG, hi, List.getD]
  · rw [List.getElem?_eq_none (by simp; omega), List.getElem?_eq_none (by omega)]
theorem ldP_nodes (b e : Nat) (xs : List Int) : (ldP b e xs (List.range (parts b e).length)).map Prod.fst = parts b e := by
  unfold ldP
  rw [List.map_map, List.length_range]
  conv => rhs; rw [← nG_all b e]
  apply List.map_congr_left
  intro i hi
  have : i < (parts b e).length := List.mem_range.1 hi
  simp [List.getD, this]

/-- Are these the bytes of a range? -/
def ldOK (xs : List Int) : Prop := rsOK xs ∧ xs.length = 16 + 32 * (parts (rdV xs 0 8).toNat (rdV xs 8 8).toNat).length

theorem zRg : Zeroed 54 [.bool false, .int .i64 0, .int .i64 0, .slice none 0 0] := fun _ _ _ _ _ _ _ => by kernel_rfl
theorem zInt : Zeroed 3 [.int .i64 0] := fun _ _ _ _ _ _ _ => by kernel_rfl
theorem ne_castN {a b : Nat} (h : a ≠ b) : ¬ ((a : Int) = (b : Int)) := fun e => h (by omega)
section
variable {F : Fence} {n : Nat} {dst : Option Tmp} {ty : TypeId} {pos : String} {aft : Array Edge} {gd : Option (Nat × Bool)} {ops : Array Oper} {rest : List Oper} {a : Act} {w : World} {Q : Exit → Act → World → Prop}
set_option maxRecDepth 100000 in
theorem istep_oneP (hF : WideF F) {x : Operand} {p : Pt} (hw : Region.wanted ⟨dst, .buildSlice 52 1 #[(0, x)], ty, pos, aft, gd⟩ (yielded ops a.tmps) = true) (hx : a.eval x = .agg (pc p).toArray) (hp : Good p)
    (h : ∀ w1 g, Blk w1 g 75 (pc p) → w.heap.size ≤ g → Below w.heap.size w w1 → wpListIn F n Tryd.prog ops Q rest (a.put dst (.slice (some ⟨g, 0, none⟩) 1 1)) w1) :
    wpListIn F n Tryd.prog ops Q (⟨dst, .buildSlice 52 1 #[(0, x)], ty, pos, aft, gd⟩ :: rest) a w :=
  istep hF (fun c => by simp) hw fun K hK => wp_oneP hx hp fun w1 g h1 h2 h3 => hK _ _ (h w1 g h1 h2 h3)
set_option maxRecDepth 100000 in
theorem istep_appendP (hF : WideF F) {s x : Operand} {B : Nat} {v : Value} {ps : List Pt} {p : Pt} {g c : Nat} (hw : Region.wanted ⟨dst, .call { callee := .builtin .append, args := #[s, x], argTypes := #[52, 52] }, ty, pos, aft, gd⟩ (yielded ops a.tmps) = true)
    (hs : a.eval s = v) (hx : a.eval x = .slice (some ⟨g, 0, none⟩) 1 c) (hown : POwn w B v ps) (hy : Blk w g 75 (pc p)) (hp : Good p) (hlen : ps.length ≤ 1048576) (hB : B ≤ w.heap.size)
    (h : ∀ v' w', POwn w' B v' (ps ++ [p]) → w.grownBy w' v.ownBlock → (∀ k, v'.ownBlock = some k → v.ownBlock = some k ∨ w.heap.size ≤ k) → wpListIn F n Tryd.prog ops Q rest (a.put dst v') w') :
    wpListIn F n Tryd.prog ops Q (⟨dst, .call { callee := .builtin .append, args := #[s, x], argTypes := #[52, 52] }, ty, pos, aft, gd⟩ :: rest) a w :=
  istep hF (fun c => by simp) hw fun K hK => wp_appendP hs hx hown hy hp hlen hB fun v' w' h1 h2 h3 => hK _ _ (h v' w' h1 h2 h3)
end
/-- The blocks that Load's loop may turn. -/
def ML (ga gr : Nat) (A : World) (k : Nat) : Prop := k = ga ∨ MR gr A k
theorem Mine.load {n₀ ga gr : Nat} (h : gr < n₀) : Mine n₀ (ML ga gr) :=
  ⟨fun A B hn hb k hk hm => hm.imp id ((Mine.range h).below A B hn hb k hk), fun A l o hl hlt k hk hm => hm.imp id ((Mine.range h).put A l o hl hlt k hk)⟩
theorem tt_obj {w : World} (h : TT w) : ∃ o : Obj, w.heap[1]? = some o ∧ o.isCells = true := by
  have h0 := h 0 (by decide)
  have hl := h.lt
  refine ⟨w.heap[1], by simp, ?_⟩
  cases ho : w.heap[1] with
  | cells cs t f => rfl
  | _ =>
    exfalso
    have e1 : w.heap[1]? = some _ := (Array.getElem?_eq_some_iff.2 ⟨hl, ho⟩)
    simp [World.cell?, e1] at h0
/-- What stands through Load. -/
structure LS (w W : World) (a : Option Addr) (len cap ga gr b e at' : Nat) (v : Value) (ps : List Pt) : Prop where
  cb : Blk W w.heap.size 45 [.slice a len cap]
  c1 : Blk W (w.heap.size + 1) 23 [.pointer none]
  c2 : Blk W (w.heap.size + 1 + 1) 24 [.int .i64 0]
  ca : Blk W ga 3 [.int .i64 (at' : Int)]
  cr : Blk W gr 54 (rgC b e v)
  own : POwn W w.heap.size v ps
  bel : Below w.heap.size w W
section
variable {w W W' : World} {a : Option Addr} {len cap ga gr b e at' : Nat} {v : Value} {ps : List Pt}
theorem LS.below (h : LS w W a len cap ga gr b e at' v ps) (hb : Below W.heap.size W W') : LS w W' a len cap ga gr b e at' v ps :=
  ⟨h.cb.below hb h.cb.lt, h.c1.below hb h.c1.lt, h.c2.below hb h.c2.lt, h.ca.below hb h.ca.lt, h.cr.below hb h.cr.lt, h.own.below hb, h.bel.trans (hb.mono h.bel.size)⟩
theorem LS.kept {row : Option Nat} (h : LS w W a len cap ga gr b e at' v ps) (hg : W.grownBy W' row) (hr : ∀ r, row = some r → w.heap.size ≤ r ∧ ∃ o : Obj, W.heap[r]? = some o ∧ o.isCells = false) : LS w W' a len cap ga gr b e at' v ps :=
  have hr2 : ∀ r, row = some r → ∃ o : Obj, W.heap[r]? = some o ∧ o.isCells = false := fun r e => (hr r e).2
  ⟨h.cb.kept hg hr2, h.c1.kept hg hr2, h.c2.kept hg hr2, h.ca.kept hg hr2, h.cr.kept hg hr2, h.own.kept hg hr2, h.bel.grown hg h.bel.size (fun r e => (hr r e).1)⟩
theorem LS.setAt (h : LS w W a len cap ga gr b e at' v ps) (t : Nat) (hga : w.heap.size ≤ ga) : LS w (W.setCell ⟨ga, 0, none⟩ (.int .i64 (t : Int))) a len cap ga gr b e t v ps := by
  have hb := But.setCell W ga 0 (.int .i64 (t : Int))
  exact ⟨h.cb.but hb (h.cb.apart h.ca (by decide)), h.c1.but hb (h.c1.apart h.ca (by decide)), h.c2.but hb (h.c2.apart h.ca (by decide)), h.ca.set 0 _, h.cr.but hb (h.cr.apart h.ca (by decide)), h.own.but hb (h.own.apart h.ca (by decide)), h.bel.trans (hb.below hga)⟩
/-- The parts have grown, and the range's cell holds them. -/
theorem LS.grow {v' : Value} {p : Pt} {W2 : World} (h : LS w W a len cap ga gr b e at' v ps) (ho : POwn W2 w.heap.size v' (ps ++ [p])) (hg : W.grownBy W2 v.ownBlock) (hgr : w.heap.size ≤ gr) : LS w (W2.setCell ⟨gr, 3, none⟩ v') a len cap ga gr b e at' v' (ps ++ [p]) := by
  have hne : ∀ {k : Nat} {t : TypeId} {cs : List Value}, Blk W k t cs → t ≠ 75 → Blk W2 k t cs := fun hk ht => by
    unfold Blk
    rw [hg.block _ hk.lt (fun e1 => (h.own.apart hk ht) e1.symm)]
    exact hk
  have cr2 := hne h.cr (by decide)
  have hb := But.setCell W2 gr 3 v'
  refine ⟨(hne h.cb (by decide)).but hb ((h.cb.apart h.cr (by decide))), (hne h.c1 (by decide)).but hb (h.c1.apart h.cr (by decide)), (hne h.c2 (by decide)).but hb (h.c2.apart h.cr (by decide)), (hne h.ca (by decide)).but hb (h.ca.apart h.cr (by decide)), cr2.set 3 _, ho.but hb (ho.apart cr2 (by decide)), ?_⟩
  exact (h.bel.trans (Below.of_grown hg h.bel.size (fun k hk => (h.own.lt k hk).1))).trans (hb.below hgr)
theorem LS.km (h : LS w W a len cap ga gr b e at' v ps) {at2 : Nat} {v' : Value} {ps' : List Pt} (h' : LS w W' a len cap ga gr b e at2 v' ps') (hc : Chs (fun k => k = ga ∨ Foot gr v k) W W') (hm : Moved W v v') : KM (ML ga gr) W W' := by
  have e3 : W.cell? ⟨gr, 3, none⟩ = some v := by rw [h.cr.cell]; rfl
  have e3' : W'.cell? ⟨gr, 3, none⟩ = some v' := by rw [h'.cr.cell]; rfl
  have hv : ∀ k, v.ownBlock = some k → MR gr W k := fun k hk => by
    rcases h.own.lies with ⟨rfl, _⟩ | ⟨g', c, cs, rfl, _⟩
    · cases hk
    · injection hk with hk
      subst hk
      exact .inr ⟨_, _, e3⟩
  refine ⟨hc.size, fun k o hk _ hn => (hc.block k (Array.getElem?_eq_some_iff.1 hk).1 (fun hf => hn ?_)).trans hk, fun k hk hmr => ?_⟩
  · rcases hf with rfl | rfl | e1
    · exact .inl rfl
    · exact .inr (.inl rfl)
    · exact .inr (hv k e1)
  · rcases hmr with rfl | rfl | ⟨n, c, e1⟩
    · exact .inl rfl
    · exact .inr (.inl rfl)
    · rw [e3'] at e1
      injection e1 with e1
      subst e1
      rcases hm k rfl with h1 | h1
      · exact .inr (hv k h1)
      · omega
theorem LS.keepsO (h : LS w W a len cap ga gr b e at' v ps) (hc : Chs (fun k => k = ga ∨ Foot gr v k) W W') : KeepsOthers W W' := ⟨hc.size, fun k o hk ho => (hc.block k (Array.getElem?_eq_some_iff.1 hk).1 (fun hf => by
  have key : ∀ {t : TypeId} {cs : List Value}, Blk W k t cs → False := fun hb => by
    rw [hb] at hk
    injection hk with hk
    subst hk
    cases ho
  rcases hf with rfl | rfl | e1
  · exact key h.ca
  · exact key h.cr
  · rcases h.own.lies with ⟨rfl, _⟩ | ⟨g', c, cs, rfl, _, hb, _⟩
    · cases e1
    · injection e1 with e1
      subst e1
      exact key hb)).trans hk⟩
/-- Load has answered that these are none. -/
structure LX (w W : World) : Prop where
  c1 : Blk W (w.heap.size + 1) 23 [.pointer none]
  c2 : Blk W (w.heap.size + 1 + 1) 24 [.int .i64 51]
  bel : Below w.heap.size w W
theorem LX.kept {row : Option Nat} (h : LX w W) (hg : W.grownBy W' row) (hr : ∀ r, row = some r → w.heap.size ≤ r ∧ ∃ o : Obj, W.heap[r]? = some o ∧ o.isCells = false) : LX w W' :=
  have hr2 : ∀ r, row = some r → ∃ o : Obj, W.heap[r]? = some o ∧ o.isCells = false := fun r e => (hr r e).2
  ⟨h.c1.kept hg hr2, h.c2.kept hg hr2, h.bel.grown hg h.bel.size (fun r e => (hr r e).1)⟩
/-- The two answers are laid. -/
theorem set2 (q : Option Addr) (E : Int) (h1 : Blk W (w.heap.size + 1) 23 [.pointer none]) (h2 : Blk W (w.heap.size + 1 + 1) 24 [.int .i64 0]) (hb : Below w.heap.size w W) :
    Blk ((W.setCell ⟨w.heap.size + 1, 0, none⟩ (.pointer q)).setCell ⟨w.heap.size + 1 + 1, 0, none⟩ (.int .i64 E)) (w.heap.size + 1) 23 [.pointer q] ∧
    Blk ((W.setCell ⟨w.heap.size + 1, 0, none⟩ (.pointer q)).setCell ⟨w.heap.size + 1 + 1, 0, none⟩ (.int .i64 E)) (w.heap.size + 1 + 1) 24 [.int .i64 E] ∧
    Below w.heap.size w ((W.setCell ⟨w.heap.size + 1, 0, none⟩ (.pointer q)).setCell ⟨w.heap.size + 1 + 1, 0, none⟩ (.int .i64 E)) ∧
    (W.setCell ⟨w.heap.size + 1, 0, none⟩ (.pointer q)).cell? ⟨w.heap.size + 1 + 1, 0, none⟩ = some (.int .i64 0) ∧ (W.setCell ⟨w.heap.size + 1, 0, none⟩ (.pointer q)).frozen? ⟨w.heap.size + 1 + 1, 0, none⟩ = false := by
  have b1 := But.setCell W (w.heap.size + 1) 0 (.pointer q)
  have b2 := But.setCell (W.setCell ⟨w.heap.size + 1, 0, none⟩ (.pointer q)) (w.heap.size + 1 + 1) 0 (.int .i64 E)
  have k2 := h2.but b1 (h2.apart h1 (by decide))
  refine ⟨(h1.set 0 _).but b2 (h1.apart h2 (by decide)), k2.set 0 _, (hb.trans (b1.below (by omega))).trans (b2.below (by omega)), by rw [k2.cell]; rfl, k2.free 0⟩
end

set_option maxRecDepth 100000 in
set_option maxHeartbeats 1000000 in
theorem load_any (a : Option Addr) (len cap : Nat) (xs : List Int) (w : World) (hs : Sl w a len cap xs) (ht : TT w) (b e : Nat) (hb : b = (rdV xs 0 8).toNat) (he : e = (rdV xs 8 8).toNat) :
    Calls Tryd.prog 18 #[.slice a len cap] w fun r w' => Below w.heap.size w w' ∧
      ((ldOK xs ∧ ∃ g v, r = .returned (.tuple #[.pointer (some ⟨g, 0, none⟩), .int .i64 0]) ∧ Rg w' w.heap.size g b e v (ldP b e xs (List.range (parts b e).length)) ∧ w.heap.size ≤ g) ∨ (¬ ldOK xs ∧ r = .returned (.tuple #[.pointer none, .int .i64 51]))) := by
  have HS := hide hs
  have HT := hide ht
  clear hs ht
  refine (callsIn_wide (n := 3)).1 ?_
  refine callsIn_of_wp_marks Tryd.func18 rfl trivial ?_ rfl
  refine wpIn_wide.2 ?_
  simp only [Tryd.ntmps18, List.size_toArray, List.length_cons, List.length_nil, Nat.reduceAdd, Nat.reduceSub, Array.replicate_succ, Array.replicate_zero, List.push_toArray, List.append_toArray, List.nil_append, List.cons_append]
  go_wp2_with fail
  have k0 := (Blk.made w 45 [.slice a len cap])
  have k1 := (Blk.made (w.alloc (.cells #[.slice a len cap] 45)) 23 [.pointer none])
  have k2 := (Blk.made ((w.alloc (.cells #[.slice a len cap] 45)).alloc (.cells #[.pointer none] 23)) 24 [.int .i64 0])
  have q1 : Below (w.alloc (.cells #[.slice a len cap] 45)).heap.size (w.alloc (.cells #[.slice a len cap] 45)) (((w.alloc (.cells #[.slice a len cap] 45)).alloc (.cells #[.pointer none] 23)).alloc (.cells #[.int .i64 0] 24)) := ((Below.refl _ _).alloc (Nat.le_refl _) _).alloc (by simp) _
  have q2 : Below ((w.alloc (.cells #[.slice a len cap] 45)).alloc (.cells #[.pointer none] 23)).heap.size ((w.alloc (.cells #[.slice a len cap] 45)).alloc (.cells #[.pointer none] 23)) (((w.alloc (.cells #[.slice a len cap] 45)).alloc (.cells #[.pointer none] 23)).alloc (.cells #[.int .i64 0] 24)) := (Below.refl _ _).alloc (Nat.le_refl _) _
  have B0 : Below w.heap.size w (((w.alloc (.cells #[.slice a len cap] 45)).alloc (.cells #[.pointer none] 23)).alloc (.cells #[.int .i64 0] 24)) := (((Below.refl _ w).alloc (Nat.le_refl _) _).alloc (by simp) _).alloc (by simp; omega) _
  have j0 := k0.below q1 k0.lt
  have j1 := k1.below q2 k1.lt
  have j2 := k2
  rw [World.size_alloc] at j1
  rw [World.size_alloc, World.size_alloc] at j2
  clear k0 k1 k2 q1 q2
  revert j0 j1 j2 B0
  generalize ((w.alloc (.cells #[.slice a len cap] 45)).alloc (.cells #[.pointer none] 23)).alloc (.cells #[.int .i64 0] 24) = W0
  intro B0 j0 j1 j2
  by_cases hrs : rsOK xs
  · refine (rs_ok a len cap xs _ (HS.out.below B0) hrs).mono ?_
    rintro r W1 ⟨rfl, hb1⟩
    have J0 := hide (j0.below hb1 j0.lt)
    have J1 := hide (j1.below hb1 j1.lt)
    have J2 := hide (j2.below hb1 j2.lt)
    have BB := hide (B0.trans (hb1.mono B0.size))
    have HRS := hide hrs
    have hbd0 := (rdV_bd xs HS.out.hbyte 0 8).1
    have hbb : rdV xs 0 8 = (b : Int) := by omega
    have hee : rdV xs 8 8 = (e : Int) := by have := hrs.2.1; omega
    have hbe : b ≤ e := by have := hrs.2.1; omega
    have hem : e ≤ 281474976710656 := by have := hrs.2.2; omega
    have h16 : 16 ≤ len := by have := hrs.1; have := HS.out.hlen; omega
    rw [hbb, hee]
    have HBE := hide hb
    have HEE := hide he
    clear j0 j1 j2 B0 hb1 hrs hbd0 hbb hee hb he
    go_wp2_with (refine step_alloc zSp rfl ?_)
    intro W2 gs hgs hles hb2
    go_wp2_with (refine step_alloc zInt rfl ?_)
    intro W3 ga hga hlea hb3
    have hgs3 := hgs.below hb3 hgs.lt
    go_wp2_with (refine step_storeA wSpn rfl rfl rfl hgs3 rfl (One.two _ _) rfl ?_)
    intro W4 hgs4 hbut4
    have hga4 := hga.but hbut4 (hga.apart hgs3 (by decide))
    have hb4 : Below W1.heap.size W1 W4 := (hb2.trans (hb3.mono hb2.size)).trans (hbut4.below hles)
    have hba := But.setCell W4 ga 0 (.int .i64 16)
    have hga1 : W1.heap.size ≤ ga := Nat.le_trans hb2.size hlea
    have hb5 : Below W1.heap.size W1 (W4.setCell ⟨ga, 0, none⟩ (.int .i64 16)) := hb4.trans (hba.below hga1)
    have J13 := hide (J1.out.below hb5 J1.out.lt)
    have J23 := hide (J2.out.below hb5 J2.out.lt)
    have BB3 := hide (BB.out.trans (hb5.mono BB.out.size))
    have HGS := hide (hgs4.but hba (hgs4.apart hga4 (by decide)))
    have HGA := hide (hga4.set 0 (.int .i64 16))
    have ca4 : W4.cell? ⟨ga, 0, none⟩ = some (.int .i64 0) := by rw [hga4.cell]; rfl
    have fa4 : W4.frozen? ⟨ga, 0, none⟩ = false := hga4.free 0
    have hsz4 : W1.heap.size ≤ gs := hles
    clear hgs hgs3 hgs4 hga hga4 hbut4 hb2 hb3 hb4 hba hlea hles
    have J03 := hide (J0.out.below hb5 J0.out.lt)
    have hw1 : w.heap.size ≤ W1.heap.size := BB.out.size
    clear hb5 J0 J1 J2 BB
    go_wp2_with (first | (refine step_loadA wSpn rfl rfl HGS.out rfl ?_) | (refine step_buildRg rfl rfl ?_) | (refine step_alloc zRg rfl ?_))
    intro W5 gr hgr hler hb6
    go_wp2_with (refine step_storeA wRg rfl rfl rfl hgr rfl (One.rgC _ _ _ _ _) rfl ?_)
    intro W6 hgr6 hbut6
    have hb56 := hb6.trans (hbut6.below hler)
    have HGS6 := hide (HGS.out.below hb56 HGS.out.lt)
    have hgaw : w.heap.size ≤ ga := Nat.le_trans hw1 hga1
    have hgrw : w.heap.size ≤ gr := Nat.le_trans BB3.out.size hler
    have L6 : Hid (LS w W6 a len cap ga gr b e 16 (.slice none 0 0) []) := hide ⟨J03.out.below hb56 J03.out.lt, J13.out.below hb56 J13.out.lt, J23.out.below hb56 J23.out.lt, HGA.out.below hb56 HGA.out.lt, hgr6, POwn.nil _ _, BB3.out.trans (hb56.mono BB3.out.size)⟩
    clear J03 J13 J23 HGA hgr hgr6 hbut6 hb6 hb56 BB3 HGS ca4 fa4
    go_wp2_with (refine step_loadA wSpn rfl rfl HGS6.out rfl ?_)
    refine (nodes_any (b : Int) (e : Int) _).mono ?_
    rintro r W7 ⟨gn, rfl, hgn, hlen, hb7⟩
    have L7 := hide (L6.out.below hb7)
    have HT7 := hide (HT.out.below L7.out.bel HT.out.lt)
    have htl := HT.out.lt
    have hws := L7.out.bel.size
    have hgr7 : gr < W7.heap.size := L7.out.cr.lt
    have c37 : W7.cell? ⟨gr, 3, none⟩ = some (.slice none 0 0) := by rw [L7.out.cr.cell]; rfl
    have hnm : ∀ k, k ≠ ga → k ≠ gr → ¬ ML ga gr W7 k := by
      rintro k h1 h2 (h3 | h3 | ⟨n, c, h3⟩)
      · exact h1 h3
      · exact h2 h3
      · rw [c37] at h3; cases h3
    have HNK : Hid (NK (ML ga gr) gn b e W7) := hide ⟨hgn, HT7.out, hnm gn (hgn.apart L7.out.ca (by decide)) (hgn.apart L7.out.cr (by decide)), hnm _ (by omega) (by omega), tt_obj HT7.out⟩
    clear L6 HGS6 hgn hlen hb7 hnm c37
    go_wp2_with fail
    refine (wpIn_wide (n := 3)).1 ?_
    refine range1 rfl (by decide) (gf := 55) (lb := #[.pointer (some ⟨gn, 0, none⟩)]) rfl trivial (enters_of Tryd.func55 (by kernel_rfl) rfl)
      (nodes_stops gn W7.heap.size b e W7 (Nat.le_refl _) hbe hem _ (Mine.load hgr7) HNK.out) KM.trans (KM.book (Mine.load hgr7) (Nat.le_refl _)) (fun A B h hb => km_below (Mine.load hgr7) h hb) (fun _ => rfl)
      (fun pre W => (16 + 32 * pre.length ≤ len ∧ ∃ v, LS w W a len cap ga gr b e (16 + 32 * pre.length) v (ldP b e xs pre)) ∧ W7.heap.size ≤ W.heap.size) (fun c pre W => c = .ret ∧ len < 16 + 32 * pre.length ∧ LX w W)
      (fun _ A B row h hg hr => by
        obtain ⟨⟨h1, v, h2⟩, h3⟩ := h
        exact ⟨⟨h1, v, h2.kept hg (fun r e => ⟨by have := (hr r e).1; omega, (hr r e).2⟩)⟩, Nat.le_trans h3 hg.size⟩)
      (fun _ _ h => h.2) (fun c _ A B row h hg hr => ⟨h.1, h.2.1, h.2.2.kept hg (fun r e => ⟨by have := (hr r e).1; omega, (hr r e).2⟩)⟩)
      ⟨⟨by simpa using h16, _, L7.out⟩, Nat.le_refl _⟩ 67 (fun x => nC (nG b e x)) ?act ?assign ?body ?done ?stop
    case assign =>
      rintro l x W K hK
      have hsem := Oper.semAt_some
      gi_wp2_with (refine istep_alloc (.round l) zNd rfl ?_)
      intro V1 g9 hg9 hle9 hb9
      gi_wp2_with (refine istep_storeA (.round l) wNd rfl rfl rfl hg9 rfl (One.nC _) rfl ?_)
      intro V2 hg92 hbut9
      have hK2 := hK g9 V2 (hb9.trans (hbut9.below hle9)) hg92
      clear hK
      gi_wp2
      exact hK2
    case stop =>
      rintro D c pre W hD hSp ⟨rfl, hl, hX⟩ hK
      have hpl : pre.length ≤ (parts b e).length := by have := hSp.length_le; rwa [List.length_range] at this
      have hno : ¬ ldOK xs := by
        rintro ⟨_, h2⟩
        rw [← HBE.out, ← HEE.out] at h2
        have := HS.out.hlen
        omega
      have HX := hide hX
      have HKd := hide hK
      clear hX hK hSp
      gi_wp2
      have hX7 := HX.out.kept (grownBy_putObj' _ D (.deferred none)) (fun r e => by cases e; exact ⟨by omega, _, HKd.out, rfl⟩)
      have d1 : (W.putObj D (.deferred none)).cell? ⟨w.heap.size + 1, 0, none⟩ = some (.pointer none) := by rw [hX7.c1.cell]; rfl
      have d2 : (W.putObj D (.deferred none)).cell? ⟨w.heap.size + 1 + 1, 0, none⟩ = some (.int .i64 51) := by rw [hX7.c2.cell]; rfl
      refine ⟨by simp, .inl ⟨_, _, rfl, run_takeDeferred HKd.out, ?_⟩⟩
      refine ⟨.tuple #[.pointer none, .int .i64 51], ?_, hX7.bel, .inr ⟨hno, rfl⟩⟩
      simp [results, Tryd.f18, go_sem, d1, d2]
    case done =>
      rintro D ys W hD rfl ⟨⟨hl, v, hL⟩, hsz⟩ hKd
      rw [List.length_range] at hl hL
      have HL := hide hL
      have HKd := hide hKd
      obtain ⟨m, HM⟩ : ∃ m, Hid (16 + 32 * (parts b e).length = m) := ⟨_, hide rfl⟩
      rw [HM.out] at hl HL
      have cA : W.cell? ⟨ga, 0, none⟩ = some (.int .i64 (m : Int)) := by rw [HL.out.ca.cell]; rfl
      have cB : W.cell? ⟨w.heap.size, 0, none⟩ = some (.slice a len cap) := by rw [HL.out.cb.cell]; rfl
      have c13 : W.cell? ⟨w.heap.size + 1, 0, none⟩ = some (.pointer none) := by rw [HL.out.c1.cell]; rfl
      have f13 : W.frozen? ⟨w.heap.size + 1, 0, none⟩ = false := HL.out.c1.free 0
      clear hL hKd
      by_cases hml : m = len
      · subst hml
        have HOK : Hid (ldOK xs) := hide ⟨HRS.out, by rw [← HBE.out, ← HEE.out, HM.out]; exact HS.out.hlen⟩
        obtain ⟨s1, s2, s3, s4, s5⟩ := set2 (some ⟨gr, 0, none⟩) 0 HL.out.c1 HL.out.c2 HL.out.bel
        have HGL : Hid (GoodL (ldP b e xs (List.range (parts b e).length))) := hide (ldP_good hbe hem HS.out.hbyte (by rw [List.length_range, HM.out, HS.out.hlen]; exact Nat.le_refl _))
        have S1 := hide s1
        have S2 := hide s2
        have S3 := hide s3
        have hb1 := But.setCell W (w.heap.size + 1) 0 (.pointer (some ⟨gr, 0, none⟩))
        have hb2 := But.setCell (W.setCell ⟨w.heap.size + 1, 0, none⟩ (.pointer (some ⟨gr, 0, none⟩))) (w.heap.size + 1 + 1) 0 (.int .i64 0)
        have CR := hide ((HL.out.cr.but hb1 (HL.out.cr.apart HL.out.c1 (by decide))).but hb2 (HL.out.cr.apart HL.out.c2 (by decide)))
        have OW := hide ((HL.out.own.but hb1 (HL.out.own.apart HL.out.c1 (by decide))).but hb2 (HL.out.own.apart HL.out.c2 (by decide)))
        have KD := hide ((KeepsOthers.setCell (W.setCell ⟨w.heap.size + 1, 0, none⟩ (.pointer (some ⟨gr, 0, none⟩))) ⟨w.heap.size + 1 + 1, 0, none⟩ (.int .i64 0)).same D _ ((KeepsOthers.setCell W ⟨w.heap.size + 1, 0, none⟩ (.pointer (some ⟨gr, 0, none⟩))).same D _ HKd.out rfl) rfl)
        clear s1 s2 s3 hb1 hb2
        go_wp2
        revert S1 S2 S3 CR OW KD
        generalize (W.setCell ⟨w.heap.size + 1, 0, none⟩ (.pointer (some ⟨gr, 0, none⟩))).setCell ⟨w.heap.size + 1 + 1, 0, none⟩ (.int .i64 0) = V
        intro S1 S2 S3 CR OW KD
        have hrow : ∀ r, some D = some r → ∃ o : Obj, V.heap[r]? = some o ∧ o.isCells = false := fun r e => by cases e; exact ⟨_, KD.out, rfl⟩
        have t1 := S1.out.kept (grownBy_putObj' _ D (.deferred none)) hrow
        have t2 := S2.out.kept (grownBy_putObj' _ D (.deferred none)) hrow
        have d1 : (V.putObj D (.deferred none)).cell? ⟨w.heap.size + 1, 0, none⟩ = some (.pointer (some ⟨gr, 0, none⟩)) := by rw [t1.cell]; rfl
        have d2 : (V.putObj D (.deferred none)).cell? ⟨w.heap.size + 1 + 1, 0, none⟩ = some (.int .i64 0) := by rw [t2.cell]; rfl
        have BA := S3.out.trans (belowK_b (w := w) (Nat.le_refl _) _ D _ (.deferred none) (by omega) KD.out rfl rfl)
        refine ⟨by simp, .inl ⟨_, _, rfl, run_takeDeferred KD.out, ?_⟩⟩
        refine ⟨.tuple #[.pointer (some ⟨gr, 0, none⟩), .int .i64 0], ?_, BA, .inl ⟨HOK.out, gr, v, rfl, ⟨CR.out.kept (grownBy_putObj' _ D (.deferred none)) hrow, OW.out.kept (grownBy_putObj' _ D (.deferred none)) hrow, HGL.out, ldP_nodes b e xs, hbe, hem⟩, hgrw⟩⟩
        simp [results, Tryd.f18, go_sem, d1, d2]
      · have hne := ne_castN hml
        have HNO : Hid (¬ ldOK xs) := hide (by
          rintro ⟨_, h2⟩
          rw [← HBE.out, ← HEE.out, HM.out, HS.out.hlen] at h2
          exact hml h2.symm)
        obtain ⟨s1, s2, s3, s4, s5⟩ := set2 none 51 HL.out.c1 HL.out.c2 HL.out.bel
        have S1 := hide s1
        have S2 := hide s2
        have S3 := hide s3
        have KD := hide ((KeepsOthers.setCell (W.setCell ⟨w.heap.size + 1, 0, none⟩ (.pointer none)) ⟨w.heap.size + 1 + 1, 0, none⟩ (.int .i64 51)).same D _ ((KeepsOthers.setCell W ⟨w.heap.size + 1, 0, none⟩ (.pointer none)).same D _ HKd.out rfl) rfl)
        clear s1 s2 s3 hml
        go_wp2
        revert S1 S2 S3 KD
        generalize (W.setCell ⟨w.heap.size + 1, 0, none⟩ (.pointer none)).setCell ⟨w.heap.size + 1 + 1, 0, none⟩ (.int .i64 51) = V
        intro S1 S2 S3 KD
        have hrow : ∀ r, some D = some r → ∃ o : Obj, V.heap[r]? = some o ∧ o.isCells = false := fun r e => by cases e; exact ⟨_, KD.out, rfl⟩
        have t1 := S1.out.kept (grownBy_putObj' _ D (.deferred none)) hrow
        have t2 := S2.out.kept (grownBy_putObj' _ D (.deferred none)) hrow
        have d1 : (V.putObj D (.deferred none)).cell? ⟨w.heap.size + 1, 0, none⟩ = some (.pointer none) := by rw [t1.cell]; rfl
        have d2 : (V.putObj D (.deferred none)).cell? ⟨w.heap.size + 1 + 1, 0, none⟩ = some (.int .i64 51) := by rw [t2.cell]; rfl
        have BA := S3.out.trans (belowK_b (w := w) (Nat.le_refl _) _ D _ (.deferred none) (by omega) KD.out rfl rfl)
        refine ⟨by simp, .inl ⟨_, _, rfl, run_takeDeferred KD.out, ?_⟩⟩
        refine ⟨.tuple #[.pointer none, .int .i64 51], ?_, BA, .inr ⟨HNO.out, rfl⟩⟩
        simp [results, Tryd.f18, go_sem, d1, d2]
    case body =>
      rintro l pre x g8 W ⟨⟨hl, v, hL⟩, hsz⟩ hg8 hlt
      have hsem := Oper.semAt_some
      have HL := hide hL
      have HG8 := hide hg8
      obtain ⟨k, HKL⟩ : ∃ k, Hid (pre.length = k) := ⟨_, hide rfl⟩
      obtain ⟨m, HM⟩ : ∃ m, Hid (16 + 32 * k = m) := ⟨_, hide rfl⟩
      rw [HKL.out, HM.out] at hl HL
      rw [HKL.out] at hlt
      have cA : W.cell? ⟨ga, 0, none⟩ = some (.int .i64 (m : Int)) := by rw [HL.out.ca.cell]; rfl
      have cB : W.cell? ⟨w.heap.size, 0, none⟩ = some (.slice a len cap) := by rw [HL.out.cb.cell]; rfl
      clear hL hg8
      by_cases hfit : m + 32 ≤ len
      · obtain ⟨bb, oo, ea, _⟩ := HS.out.hcell (by omega)
        subst ea
        obtain ⟨ds, HDS⟩ : ∃ ds, Hid ((xs.drop m).take 32 = ds) := ⟨_, hide rfl⟩
        have HDL0 : Hid (ds.length = 32) := hide (by rw [← HDS.out]; simp; have := HS.out.hlen; omega)
        have HDL := hide (show (u8s ds).length = 32 by rw [u8s_length, HDL0.out])
        have HDB : Hid (isB ds) := hide (by rw [← HDS.out]; exact (HS.out.hbyte.drop _).take _)
        have HDA : Hid (dAt xs k = ds) := hide (by unfold dAt; rw [HM.out, HDS.out])
        have hng := nG_good hbe hem x
        have HGP : Hid (Good (nG b e x, ds)) := hide ⟨HDL0.out, HDB.out, hng.1, hng.2⟩
        have hcnt : k ≤ 98 := by have := parts_98 b e hem; omega
        have hreach := HS.out.hreach
        obtain ⟨a1, n1, c1, ev⟩ : ∃ a1 n1 c1, v = Value.slice a1 n1 c1 := by rcases HL.out.own.lies with ⟨e1, _⟩ | ⟨_, _, _, e1, _⟩ <;> exact ⟨_, _, _, e1⟩
        subst ev
        gi_wp2_with fail
        refine ⟨trivial, (calls_round (.round l) (octD_ok bb oo len cap xs m _ (HS.out.below HL.out.bel) hfit)).mono ?_⟩
        rintro r V1 ⟨rfl, hv1⟩
        rw [HDS.out]
        have HV1 := hide hv1
        clear hv1 hng
        gi_wp2_with (refine istep_alloc (.round l) zD rfl ?_)
        intro V2 g9 hg9 hle9 hb9
        gi_wp2_with (refine istep_storeA (.round l) wD rfl rfl rfl hg9 HDL.out (One.u8 _) rfl ?_)
        intro V3 hg93 hbut9
        have hb93 : Below V1.heap.size V1 V3 := hb9.trans (hbut9.below hle9)
        have HB3 := hide (HV1.out.trans (hb93.mono HV1.out.size))
        have HL3 := hide (HL.out.below HB3.out)
        have HG83 := hide (HG8.out.below HB3.out HG8.out.lt)
        have HG93 := hide hg93
        have c33 : V3.cell? ⟨gr, 3, none⟩ = some (.slice a1 n1 c1) := by rw [HL3.out.cr.cell]; rfl
        clear hg9 hg93 hbut9 hb9 hb93 cA cB
        gi_wp2_with (first | (refine istep_loadA (.round l) wNd rfl rfl HG83.out rfl ?_) | (refine istep_loadA (.round l) wD rfl rfl HG93.out HDL.out ?_) | (refine istep_run (.round l) (fun c => by simp) rfl _ _ (run_buildP rfl rfl HDL0.out) ?_) | (refine istep_oneP (.round l) rfl rfl HGP.out ?_))
        intro V4 g10 hg10 hle10 hb10
        have HL4 := hide (HL3.out.below hb10)
        have HB4 := hide (HB3.out.trans (hb10.mono HB3.out.size))
        have HG10 := hide hg10
        have hlen98 : (ldP b e xs pre).length ≤ 1048576 := by rw [ldP_length, HKL.out]; omega
        clear hg10 hb10 c33
        gi_wp2_with (refine istep_appendP (.round l) rfl rfl rfl HL4.out.own HG10.out HGP.out hlen98 HL4.out.bel.size ?_)
        intro v5 V5 ho5 hgr5 hmv5
        obtain ⟨a5, n5, c5, ev5⟩ : ∃ a1 n1 c1, v5 = Value.slice a1 n1 c1 := by rcases ho5.lies with ⟨e1, _⟩ | ⟨_, _, _, e1, _⟩ <;> exact ⟨_, _, _, e1⟩
        subst ev5
        have HO5 := hide ho5
        have HGR5 := hide hgr5
        have HMV5 := hide hmv5
        have HL6 := hide (HL4.out.grow ho5 hgr5 hgrw)
        have cr5 : Blk V5 gr 54 (rgC b e (.slice a1 n1 c1)) := by
          unfold Blk
          rw [hgr5.block _ HL4.out.cr.lt (fun e1 => (HL4.out.own.apart HL4.out.cr (by decide)) e1.symm)]
          exact HL4.out.cr
        have c35 : V5.cell? ⟨gr, 3, none⟩ = some (.slice a1 n1 c1) := by rw [cr5.cell]; rfl
        have f35 : V5.frozen? ⟨gr, 3, none⟩ = false := cr5.free 3
        have cA6 : (V5.setCell ⟨gr, 3, none⟩ (.slice a5 n5 c5)).cell? ⟨ga, 0, none⟩ = some (.int .i64 (m : Int)) := by rw [HL6.out.ca.cell]; rfl
        have fA6 : (V5.setCell ⟨gr, 3, none⟩ (.slice a5 n5 c5)).frozen? ⟨ga, 0, none⟩ = false := HL6.out.ca.free 0
        have HL7 := hide (HL6.out.setAt (m + 32) hgaw)
        have HCH : Hid (Chs (fun k => k = ga ∨ Foot gr (.slice a1 n1 c1) k) W ((V5.setCell ⟨gr, 3, none⟩ (.slice a5 n5 c5)).setCell ⟨ga, 0, none⟩ (.int .i64 ((m + 32 : Nat) : Int)))) := hide (by
          have h1 : Chs (fun k => k = ga ∨ Foot gr (.slice a1 n1 c1) k) W V5 := ((Chs.refl _ W).thenBelow HB4.out).thenGrown hgr5 (fun k hk => .inl (.inr (.inr hk)))
          exact (h1.thenBut (But.setCell _ gr 3 _) (.inl (.inr (.inl rfl)))).thenBut (But.setCell _ ga 0 _) (.inl (.inl rfl)))
        have hmv : Moved W (.slice a1 n1 c1) (.slice a5 n5 c5) := fun i hi => (hmv5 i hi).imp id (fun h => Nat.le_trans HB4.out.size h)
        have HMV := hide hmv
        clear ho5 hgr5 hmv5 hmv cr5
        gi_wp2
        have e32 : (m : Int) + 32 = ((m + 32 : Nat) : Int) := rfl
        rw [e32]
        refine ⟨(HL.out.keepsO HCH.out).from _, HL.out.km HL7.out HCH.out HMV.out, ⟨?_, .slice a5 n5 c5, ?_⟩, Nat.le_trans hsz HCH.out.size⟩
        · rw [List.length_append, HKL.out, List.length_singleton]
          have := HM.out
          omega
        · rw [ldP_snoc, List.length_append, List.length_singleton, HKL.out, HDA.out]
          have e1 : 16 + 32 * (k + 1) = m + 32 := by have := HM.out; omega
          rw [e1]
          exact HL7.out
      · have hbad : (m : Int) < 0 ∨ (len : Int) < (m : Int) ∨ (len : Int) - (m : Int) < 32 := by omega
        have hlen := HS.out.hreach
        gi_wp2_with fail
        refine ⟨trivial, (calls_round (.round l) (octD_bad a len cap (m : Int) _ hlen hbad)).mono ?_⟩
        rintro r V1 ⟨⟨E, hE, rfl⟩, hv1⟩
        have HV1 := hide hv1
        have hEq : ¬ E = 0 := hE
        clear hv1 hE
        gi_wp2_with (refine istep_alloc (.round l) zD rfl ?_)
        intro V2 g9 hg9 hle9 hb9
        gi_wp2_with (refine istep_storeA (.round l) wD rfl rfl rfl hg9 rfl (One.u8 _) rfl ?_)
        intro V3 hg93 hbut9
        have hb93 : Below V1.heap.size V1 V3 := hb9.trans (hbut9.below hle9)
        have hb3 := HV1.out.trans (hb93.mono HV1.out.size)
        have L3 := HL.out.below hb3
        obtain ⟨s1, s2, s3, s4, s5⟩ := set2 none 51 L3.c1 L3.c2 L3.bel
        have c13 : V3.cell? ⟨w.heap.size + 1, 0, none⟩ = some (.pointer none) := by rw [L3.c1.cell]; rfl
        have f13 : V3.frozen? ⟨w.heap.size + 1, 0, none⟩ = false := L3.c1.free 0
        have S1 := hide s1
        have S2 := hide s2
        have S3 := hide s3
        have KO := hide ((keepsO_below hb3).trans ((KeepsOthers.setCell V3 ⟨w.heap.size + 1, 0, none⟩ (.pointer none)).trans (KeepsOthers.setCell _ ⟨w.heap.size + 1 + 1, 0, none⟩ (.int .i64 51))))
        clear s1 s2 s3 hg9 hg93 hbut9 hb9 hb93 hb3 L3 cA cB hbad
        gi_wp2
        exact ⟨KO.out.from _, rfl, by rw [List.length_append, HKL.out]; have := HM.out; simp; omega, S1.out, S2.out, S3.out⟩
  · refine (rs_bad a len cap xs _ (HS.out.below B0) hrs).mono ?_
    rintro r W1 ⟨rfl, hb1⟩
    have J1 := hide (j1.below hb1 j1.lt)
    have J2 := hide (j2.below hb1 j2.lt)
    have BB := hide (B0.trans (hb1.mono B0.size))
    have HNO : Hid (¬ ldOK xs) := hide (fun h => hrs h.1)
    clear j0 j1 j2 B0 hb1 hrs
    go_wp2_with (refine step_alloc zSp rfl ?_)
    intro W2 gs hgs hles hb2
    go_wp2_with (refine step_alloc zInt rfl ?_)
    intro W3 ga hga hlea hb3
    have hgs3 := hgs.below hb3 hgs.lt
    go_wp2_with (refine step_storeA wSpn rfl rfl rfl hgs3 rfl (One.two _ _) rfl ?_)
    intro W4 hgs4 hbut4
    have hga4 := hga.but hbut4 (hga.apart hgs3 (by decide))
    have hb4 : Below W1.heap.size W1 W4 := (hb2.trans (hb3.mono hb2.size)).trans (hbut4.below hles)
    have hba := But.setCell W4 ga 0 (.int .i64 0)
    have hga1 : W1.heap.size ≤ ga := Nat.le_trans hb2.size hlea
    have hb5 : Below W1.heap.size W1 (W4.setCell ⟨ga, 0, none⟩ (.int .i64 0)) := hb4.trans (hba.below hga1)
    have J13 := hide (J1.out.below hb5 J1.out.lt)
    have J23 := hide (J2.out.below hb5 J2.out.lt)
    have BB3 := hide (BB.out.trans (hb5.mono BB.out.size))
    have HGS := hide (hgs4.but hba (hgs4.apart hga4 (by decide)))
    have HGA := hide (hga4.set 0 (.int .i64 0))
    have ca4 : W4.cell? ⟨ga, 0, none⟩ = some (.int .i64 0) := by rw [hga4.cell]; rfl
    have fa4 : W4.frozen? ⟨ga, 0, none⟩ = false := hga4.free 0
    have hsz4 : W1.heap.size ≤ gs := hles
    clear hgs hgs3 hgs4 hga hga4 hbut4 hb2 hb3 hb4 hba hlea hles
    obtain ⟨s1, s2, s3, s4, s5⟩ := set2 none 51 J13.out J23.out BB3.out
    have c13 : (W4.setCell ⟨ga, 0, none⟩ (.int .i64 0)).cell? ⟨w.heap.size + 1, 0, none⟩ = some (.pointer none) := by rw [J13.out.cell]; rfl
    have f13 : (W4.setCell ⟨ga, 0, none⟩ (.int .i64 0)).frozen? ⟨w.heap.size + 1, 0, none⟩ = false := J13.out.free 0
    have S1 := hide s1
    have S2 := hide s2
    have S3 := hide s3
    clear s1 s2 s3 hb5 J1 J2 BB
    go_wp2
    revert S1 S2 S3
    generalize ((W4.setCell ⟨ga, 0, none⟩ (.int .i64 0)).setCell ⟨w.heap.size + 1, 0, none⟩ (.pointer none)).setCell ⟨w.heap.size + 1 + 1, 0, none⟩ (.int .i64 51) = V
    intro S1 S2 S3
    have d1 : V.cell? ⟨w.heap.size + 1, 0, none⟩ = some (.pointer none) := by rw [S1.out.cell]; rfl
    have d2 : V.cell? ⟨w.heap.size + 1 + 1, 0, none⟩ = some (.int .i64 51) := by rw [S2.out.cell]; rfl
    refine ⟨.tuple #[.pointer none, .int .i64 51], ?_, S3.out, .inr ⟨HNO.out, rfl⟩⟩
    simp [results, Tryd.f18, go_sem, d1, d2]

end Go.Proofs.YthgfbcndoedacaaDoor

/-
  A range of leaves' digests has for each part the tree's root of it; Append; the law's ranged.
-/
namespace Go.Proofs.YthgfbcndoedacaaDoor
open Go.RowKit Go.Shelf
set_option linter.unusedVariables false

theorem hf_pow (k : Nat) (hk : k < 62) : hf (2 ^ (k + 1)) = 2 ^ k := by
  have hp := Nat.two_pow_pos k
  have hlt : 2 ^ (k + 1) < 2 ^ 64 := Nat.pow_lt_pow_right (by omega) (by omega)
  have e2 : 2 ^ (k + 1) = 2 * 2 ^ k := by rw [Nat.pow_succ]; omega
  obtain ⟨h1, h2, h3⟩ := hf_bd (2 ^ (k + 1)) (by omega) hlt
  obtain ⟨j, hj⟩ : ∃ j, hf (2 ^ (k + 1)) = 2 ^ j := ⟨_, rfl⟩
  rw [hj] at h2 h3 ⊢
  have e3 : 2 * 2 ^ j = 2 ^ (j + 1) := by rw [Nat.pow_succ]; omega
  rw [e3] at h3
  have a1 := (Nat.pow_lt_pow_iff_right (a := 2) (by omega)).1 h2
  have a2 := (Nat.pow_le_pow_iff_right (a := 2) (by omega)).1 h3
  obtain rfl : j = k := by omega
  rfl
theorem sub_halves {xs : List Int} {n s P : Nat} (h : xs.length = 32 * n) (hf' : hf (2 * P) = P) (hP : 1 ≤ P) (hs : s + 2 * P ≤ n) (hn : n < 2 ^ 62) : root (sub xs s (s + 2 * P)) = nd (root (sub xs s (s + P))) (root (sub xs (s + P) (s + 2 * P))) := by
  have hl := sub_length h (show s ≤ s + 2 * P by omega) hs
  have e0 : s + 2 * P - s = 2 * P := by omega
  rw [e0] at hl
  rw [root_node hl (by omega) (by omega), lo_eq hl, hi_eq hl, hf']
  congr 2
  · unfold sub
    rw [List.take_take, show s + P - s = P by omega, Nat.min_eq_left (by omega)]
  · unfold sub
    rw [List.drop_take, List.drop_drop]
    congr 1
    · omega
    · congr 1
      omega
/-- The root of a node's leaves. -/
def rd (xs : List Int) (n : Nat × Nat) : List Int := root (sub xs (n.2 * 2 ^ n.1) ((n.2 + 1) * 2 ^ n.1))
/-- The parts of a range of leaves. -/
def rps (xs : List Int) (b e : Nat) : List Pt := (parts b e).map fun n => (n, rd xs n)
theorem rd_join {xs : List Int} {n : Nat} (h : xs.length = 32 * n) (hn : n < 2 ^ 62) (q p : Nat × Nat) (hb : (p.2 + 1) * 2 ^ p.1 ≤ n) (hs : sib q p = true) : rd xs (p.1 + 1, p.2 / 2) = nd (rd xs q) (rd xs p) := by
  obtain ⟨k, i⟩ := q
  obtain ⟨k', j⟩ := p
  obtain ⟨h1, h2, h3⟩ := sib_iff.1 hs
  simp only at h1 h2 h3 hb
  subst h1
  subst h3
  have hp := Nat.two_pow_pos k
  have hk : k < 62 := by
    apply Nat.lt_of_not_le
    intro hl
    have a1 : 2 ^ 62 ≤ 2 ^ k := Nat.pow_le_pow_right (by omega) hl
    have a2 : 2 ^ k ≤ (i + 1 + 1) * 2 ^ k := Nat.le_mul_of_pos_left _ (by omega)
    omega
  have e1 : (i + 1) / 2 * 2 ^ (k + 1) = i * 2 ^ k := by
    rw [Nat.pow_succ, Nat.mul_comm (2 ^ k) 2, ← Nat.mul_assoc]
    congr 1
    omega
  have e2 : ((i + 1) / 2 + 1) * 2 ^ (k + 1) = i * 2 ^ k + 2 * 2 ^ k := by
    rw [Nat.add_mul, e1, Nat.pow_succ]
    omega
  have e3 : (i + 1) * 2 ^ k = i * 2 ^ k + 2 ^ k := by rw [Nat.add_mul]; omega
  have e4 : (i + 1 + 1) * 2 ^ k = i * 2 ^ k + 2 * 2 ^ k := by rw [Nat.add_mul, Nat.add_mul]; omega
  have hfp : hf (2 * 2 ^ k) = 2 ^ k := by
    have := hf_pow k hk
    rwa [Nat.pow_succ, Nat.mul_comm (2 ^ k) 2] at this
  unfold rd
  simp only
  rw [e1, e2, e3, e4]
  rw [e4] at hb
  exact sub_halves h hfp hp hb hn
theorem abutN_get : ∀ (st : List (Nat × Nat)) (s i : Nat) (q r : Nat × Nat), AbutN st s → st[i]? = some q → st[i + 1]? = some r → (r.2 + 1) * 2 ^ r.1 = q.2 * 2 ^ q.1
  | [], _, _, _, _, _, h, _ => by cases h
  | p :: st, s, 0, q, r, h, h1, h2 => by
    simp at h1 h2
    subst h1
    cases st with
    | nil => simp at h2
    | cons a st => simp at h2; subst h2; exact h.2.1
  | p :: st, s, i + 1, q, r, h, h1, h2 => abutN_get st _ i q r h.2 (by simpa using h1) (by simpa using h2)
theorem abutN_le : ∀ (st : List (Nat × Nat)) (s i : Nat) (q : Nat × Nat), AbutN st s → st[i]? = some q → (q.2 + 1) * 2 ^ q.1 ≤ s
  | [], _, _, _, _, h => by cases h
  | p :: st, s, 0, q, h, h1 => by
    simp at h1
    subst h1
    exact Nat.le_of_eq h.1
  | p :: st, s, i + 1, q, h, h1 => by
    refine Nat.le_trans (abutN_le st _ i q h.2 (by simpa using h1)) ?_
    have := h.1
    rw [Nat.add_mul] at this
    omega
theorem rps_step {xs : List Int} {n b e : Nat} (h : xs.length = 32 * n) (hn : n ≤ 2 ^ 47) (hbe : b ≤ e) (he : e < n) : putL (rps xs b e) ((0, e), dat xs e) = rps xs b (e + 1) := by
  have hm : e + 2 ^ 0 ≤ 2 ^ 48 := by
    rw [Nat.pow_zero]
    have : (2 : Nat) ^ 47 < 2 ^ 48 := by decide
    omega
  have hA := (parts_abut (e - b) b e (Nat.le_refl _) hbe (by omega)).1
  have hn62 : n < 2 ^ 62 := by
    have : (2 : Nat) ^ 47 < 2 ^ 62 := by decide
    omega
  have e0 : dat xs e = rd xs (0, e) := by
    unfold rd dat
    simp only [Nat.pow_zero, Nat.mul_one]
    have hl := sub_length h (show e ≤ e + 1 by omega) (show e + 1 ≤ n by omega)
    rw [root_one (by rw [hl]; omega)]
    unfold sub
    rw [show e + 1 - e = 1 by omega]
  have key := putS_told nd (rd xs) (fun q p => (q.2 + 1) * 2 ^ q.1 = p.2 * 2 ^ p.1 ∧ (p.2 + 1) * 2 ^ p.1 ≤ n)
    (fun q p hS hs => rd_join h hn62 q p hS.2 hs)
    (fun r q p hS hR hs => by
      obtain ⟨s1, s2, s3⟩ := sib_iff.1 hs
      obtain ⟨p1, p2⟩ := p
      obtain ⟨q1, q2⟩ := q
      simp only at s1 s2 s3 hS hR ⊢
      subst s1
      subst s3
      have c1 : (q2 + 1) / 2 * 2 ^ (q1 + 1) = q2 * 2 ^ q1 := by
        rw [Nat.pow_succ, Nat.mul_comm (2 ^ q1) 2, ← Nat.mul_assoc]
        congr 1
        omega
      have c2 : ((q2 + 1) / 2 + 1) * 2 ^ (q1 + 1) = (q2 + 1 + 1) * 2 ^ q1 := by
        rw [Nat.add_mul, c1, Nat.pow_succ, Nat.add_mul, Nat.add_mul]
        omega
      rw [c1, c2]
      exact ⟨hR.1, hS.2⟩)
    (parts b e).reverse (0, e)
    (fun q hq => by
      cases hst : (parts b e).reverse with
      | nil => rw [hst] at hq; cases hq
      | cons a st =>
        rw [hst] at hq hA
        simp at hq
        subst hq
        simp only [Nat.pow_zero, Nat.mul_one]
        exact ⟨hA.1, by omega⟩)
    (fun i q r h1 h2 => ⟨abutN_get _ _ i q r hA h1 h2, Nat.le_trans (abutN_le _ _ i q hA h1) (by omega)⟩)
  have kp := parts_put (e - b) b e 0 (Nat.le_refl _) hbe (by simp) hm
  rw [Nat.pow_zero, Nat.div_one] at kp
  unfold putL rps
  rw [← List.map_reverse, e0, key, ← List.map_reverse, kp]

set_option maxRecDepth 100000 in
set_option maxHeartbeats 400000 in
theorem app_ok (B g b e : Nat) (v : Value) (ps : List Pt) (d : List Int) (w : World) (hr : Rg w B g b e v ps) (hB : B ≤ w.heap.size) (hk : KT w) (hkg : 2 < g) (hkB : 2 < B) (hm : e + 1 ≤ 281474976710656) (hdl : d.length = 32) (hdb : isB d) :
    Calls Tryd.prog 15 #[.pointer (some ⟨g, 0, none⟩), .agg (u8s d).toArray] w fun r w' => ∃ v', r = .returned (.int .i64 0) ∧ Rg w' B g b (e + 1) v' (putL ps ((0, e), d)) ∧ Chs (Foot g v) w w' ∧ (∀ k, v'.ownBlock = some k → v.ownBlock = some k ∨ w.heap.size ≤ k) := by
  have HL := hide (show (u8s d).length = 32 by rw [u8s_length, hdl])
  have HA := hide (fun (w1 : World) (hb : Below w.heap.size w w1) => appN_ok B g b e 0 v ps d w1 (hr.below hb) (Nat.le_trans hB hb.size) (hk.below hb hk.lt) hkg hkB (by omega) (by simp) (by simpa using hm) hdl hdb)
  clear hr hk hB hdl hdb hm
  go_enter Tryd.func15, Tryd.ntmps15
  go_wp2_with (refine step_box rfl rfl ?_)
  intro w1 g1 hg1 hle1 hb1
  have HG := hide hg1
  clear hg1
  go_wp2_with (refine step_loadA wD rfl rfl HG.out HL.out ?_)
  refine (HA.out _ hb1).mono ?_
  rintro r w2 ⟨v', rfl, hr2, hc2, hn2⟩
  rw [Nat.pow_zero, Nat.div_one] at hr2
  have R2 := hide hr2
  clear hr2
  go_wp2
  go_ret
  exact ⟨v', rfl, R2.out, ((Chs.refl _ _).thenBelow hb1).trans hc2, fun k hk => (hn2 k hk).imp id (fun h => Nat.le_trans hb1.size h)⟩

end Go.Proofs.YthgfbcndoedacaaDoor

/-
  The law's ranged: the range of some leaves' digests.
-/
namespace Go.Proofs.YthgfbcndoedacaaDoor
open Go.RowKit Go.Shelf
set_option linter.unusedVariables false

theorem Rg.foot {w : World} {B g b e : Nat} {v : Value} {ps : List Pt} (h : Rg w B g b e v ps) (hg : B ≤ g) : ∀ k, k < B → ¬ Foot g v k := by
  rintro k hk (rfl | e1)
  · omega
  · have := (h.own.lt k e1).1
    omega
theorem Below.thenChs {S : Nat → Prop} {B : Nat} {a b c : World} (h : Below B a b) (k : Chs S b c) (hS : ∀ k, k < B → ¬ S k) (hB : B ≤ b.heap.size) : Below B a c := h.trans (k.below hS hB)

set_option maxRecDepth 100000 in
set_option maxHeartbeats 1000000 in
theorem ranged_any (a : Option Addr) (n cap b e : Nat) (B' E' : Int) (xs : List Int) (w : World) (hs : Ds w a n cap xs) (hB' : B' = (b : Int)) (hE' : E' = (e : Int)) (hbe : b ≤ e) (hen : e ≤ n) (hn : n ≤ 140737488355328) (hk : KT w) :
    Calls Tryd.prog 26 #[.slice a n cap, .agg #[.int .i64 B', .int .i64 E']] w fun r w' => ∃ g v, r = .returned (.pointer (some ⟨g, 0, none⟩)) ∧ Rg w' w.heap.size g b e v (rps xs b e) ∧ w.heap.size ≤ g ∧ Below w.heap.size w w' := by
  subst hB' hE'
  have HS := hide hs
  have HK := hide hk
  have hcap := hs.hcap
  clear hs hk
  go_enter Tryd.func26, Tryd.ntmps26
  go_wp2_with (refine step_box (cs := [.int .i64 (b : Int), .int .i64 (e : Int)]) rfl rfl ?_)
  intro w1 g3 hg3 hle3 hb1
  have G3 := hide hg3
  have c0 : w1.cell? ⟨g3, 0, none⟩ = some (.int .i64 (b : Int)) := by rw [hg3.cell]; rfl
  clear hg3
  go_wp2_with fail
  refine (new_ok (b : Int) _ (by omega) (by omega)).mono ?_
  rintro r w2 ⟨g, rfl, hg, hleg, hb2⟩
  have R2 : Hid (Rg w2 w.heap.size g b b (.slice none 0 0) (rps xs b b)) := hide ⟨hg, by unfold rps; rw [parts_nil (Nat.le_refl _)]; exact POwn.nil _ _, by unfold rps; rw [parts_nil (Nat.le_refl _)]; intro p hp; simp at hp, by unfold rps; simp [Function.comp_def], Nat.le_refl _, by omega⟩
  have G32 := hide (G3.out.below hb2 G3.out.lt)
  have HB2 := hide (hb1.trans (hb2.mono hb1.size))
  have hwg : w.heap.size ≤ g := Nat.le_trans hb1.size hleg
  have c02 : w2.cell? ⟨g3, 0, none⟩ = some (.int .i64 (b : Int)) := by rw [G32.out.cell]; rfl
  clear hg c0 hb1 hb2
  go_wp2_with fail
  go_loopw [7] (fun i wr => ∃ (m : Nat) (v : Value), b ≤ m ∧ m ≤ e ∧ i = .int .i64 (m : Int) ∧ Hid (Rg wr w.heap.size g b m v (rps xs b m)) ∧ Hid (Blk wr g3 51 [.int .i64 (b : Int), .int .i64 (e : Int)]) ∧ Hid (Below w.heap.size w wr)) (fun i _ => e - (intOf i).toNat)
  case atStart => exact ⟨b, .slice none 0 0, Nat.le_refl _, hbe, rfl, R2, G32, HB2⟩
  case round =>
    obtain ⟨m, v, hm1, hm2, rfl, R, G, HB⟩ := hrel
    clear R2 G32 HB2 c02
    have c1 : wr.cell? ⟨g3, 1, none⟩ = some (.int .i64 (e : Int)) := by rw [G.out.cell]; rfl
    by_cases hlt : m < e
    · have hlt' : (m : Int) < (e : Int) := by omega
      obtain ⟨bl, o, rfl⟩ := HS.out.place (by omega)
      have hat := d_at bl o n cap m (m : Int) rfl (by omega)
      have HDL := hide (dat_length HS.out.hlen (show m < n by omega))
      have HDB := hide (show isB (dat xs m) from (HS.out.hbyte.drop _).take _)
      have HRG := hide ((HS.out.below HB.out).range m (by omega))
      have HUL := hide (show (u8s (dat xs m)).length = 32 by rw [u8s_length, HDL.out])
      have hwm : IntKind.i64.wrap ((m : Int) + 1) = ((m + 1 : Nat) : Int) := by rw [IntKind.wrap_i64]; omega
      go_wp2_with (refine step_loadR wD rfl rfl _ HRG.out HUL.out ?_)
      refine (app_ok w.heap.size g b m v (rps xs b m) (dat xs m) _ R.out HB.out.size (HK.out.below HB.out HK.out.lt) (Nat.lt_of_lt_of_le HK.out.lt hwg) HK.out.lt (by omega) HDL.out HDB.out).mono ?_
      rintro r w5 ⟨v5, rfl, hr5, hc5, _⟩
      rw [rps_step HS.out.hlen hn hm1 (by omega)] at hr5
      have R5 := hide hr5
      have G5 := hide (G.out.chs hc5 (by
        rintro (e1 | e1)
        · exact (R.out.blk.apart G.out (by decide)) e1.symm
        · exact (R.out.own.apart G.out (by decide)) e1))
      have HB5 := hide (Below.thenChs HB.out hc5 (R.out.foot hwg) HB.out.size)
      clear hr5 hc5 c1
      go_wp2
      go_roundw
      case rel => exact ⟨m + 1, v5, by omega, by omega, by first | rfl | (rw [hwm]), R5, G5, HB5⟩
      case measure => simp [intOf]; omega
    · obtain rfl : m = e := by omega
      have hlt' : ¬ (m : Int) < (m : Int) := by omega
      go_wp2
      go_ret
      exact ⟨g, rfl, ⟨v, R.out⟩, hwg, HB.out⟩

end Go.Proofs.YthgfbcndoedacaaDoor
