/-
  Texts one behind the other: Sbi Sbj Sfi Sst Spw SpwLaw.
-/
import Derived.Test.YtlgcjdgcgnlcaaaGreatDoorPkB
import Derived.Test.YtlgcjdgcgnlcaaaGreatDoorPkD
import Derived.Deep.Cut
import Derived.Shelf.SlSortCmp.NoneTotal
import Derived.Test.YtlgcjdgcgnlcaaaGreatDoorPkA
import Derived.Test.YtlgcjdgcgnlcaaaGreatDoorKmi

/-
  The files of a level that begin at a digest or behind it: behind.
-/
namespace Go.Proofs.YtlgcjdgcgnlcaaaGreatDoor
open Go.RowKit Go.Shelf
set_option linter.unusedVariables false
set_option linter.unusedSimpArgs false
set_option maxRecDepth 100000

theorem bA_of (x : ByteArray) : ∃ s : List UInt8, x = bA s := ⟨x.data.toList, by apply ByteArray.ext; simp [bA]⟩
theorem FI.new (w : World) (H L P n : Nat) : ∃ W, W = ((((w.alloc (.cells #[.int .i64 (H : Int)] 3)).alloc (.cells #[.int .i64 (L : Int)] 3)).alloc (.cells #[.int .i64 (n : Int)] 3)).alloc (.cells #[.slice none 0 0] 136)) ∧
    FI w W (w.heap.size + 1 + 1 + 1 + 1) w.heap.size (w.heap.size + 1) (w.heap.size + 1 + 1) (w.heap.size + 1 + 1 + 1) (.slice none 0 0) [] [] H L P n := by
  refine ⟨_, rfl, ?_⟩
  have b1 : Below w.heap.size w (w.alloc (.cells #[.int .i64 (H : Int)] 3)) := (Below.refl _ _).alloc (Nat.le_refl _) _
  have B1 : Blk (w.alloc (.cells #[.int .i64 (H : Int)] 3)) w.heap.size 3 [.int .i64 (H : Int)] := Blk.made _ _ _
  have z1 : (w.alloc (.cells #[.int .i64 (H : Int)] 3)).heap.size = w.heap.size + 1 := World.size_alloc _ _
  generalize w.alloc (.cells #[.int .i64 (H : Int)] 3) = W1 at *
  have b2 : Below W1.heap.size W1 (W1.alloc (.cells #[.int .i64 (L : Int)] 3)) := (Below.refl _ _).alloc (Nat.le_refl _) _
  have B2 : Blk (W1.alloc (.cells #[.int .i64 (L : Int)] 3)) W1.heap.size 3 [.int .i64 (L : Int)] := Blk.made _ _ _
  have z2 : (W1.alloc (.cells #[.int .i64 (L : Int)] 3)).heap.size = W1.heap.size + 1 := World.size_alloc _ _
  generalize W1.alloc (.cells #[.int .i64 (L : Int)] 3) = W2 at *
  have b3 : Below W2.heap.size W2 (W2.alloc (.cells #[.int .i64 (n : Int)] 3)) := (Below.refl _ _).alloc (Nat.le_refl _) _
  have B3 : Blk (W2.alloc (.cells #[.int .i64 (n : Int)] 3)) W2.heap.size 3 [.int .i64 (n : Int)] := Blk.made _ _ _
  have z3 : (W2.alloc (.cells #[.int .i64 (n : Int)] 3)).heap.size = W2.heap.size + 1 := World.size_alloc _ _
  generalize W2.alloc (.cells #[.int .i64 (n : Int)] 3) = W3 at *
  have b4 : Below W3.heap.size W3 (W3.alloc (.cells #[.slice none 0 0] 136)) := (Below.refl _ _).alloc (Nat.le_refl _) _
  have B4 : Blk (W3.alloc (.cells #[.slice none 0 0] 136)) W3.heap.size 136 [.slice none 0 0] := Blk.made _ _ _
  have z4 : (W3.alloc (.cells #[.slice none 0 0] 136)).heap.size = W3.heap.size + 1 := World.size_alloc _ _
  generalize W3.alloc (.cells #[.slice none 0 0] 136) = W4 at *
  rw [z1] at B2 z2
  rw [z2] at B3 z3
  rw [z3] at B4 z4
  exact ⟨((B1.on (by rw [z1] at b2; rw [z1]; exact b2)).on (by rw [z2] at b3; rw [z2]; exact b3)).on (by rw [z3] at b4; rw [z3]; exact b4), (B2.on (by rw [z2] at b3; rw [z2]; exact b3)).on (by rw [z3] at b4; rw [z3]; exact b4), B3.on (by rw [z3] at b4; rw [z3]; exact b4), B4, World.ownsRow_nil _ _ _ _, ⟨by omega, by omega, by omega, by omega, by omega⟩,
    on_below (on_below (on_below b1 (by rw [z1] at b2; rw [z1]; exact b2)) (by rw [z2] at b3; rw [z2]; exact b3)) (by rw [z3] at b4; rw [z3]; exact b4), by rw [z4]; exact Nat.le_refl _, List.nodup_nil, Nat.le_refl _, fun i => by simp⟩
theorem eqTl (w : World) (a b c d a' b' c' d' : Int) : (Op.equalIn 10000 43 (.agg (c4 a b c d).toArray) (.agg (c4 a' b' c' d').toArray)).run Tryz.prog w = .ok (a == a' && b == b' && c == c' && d == d') w := by
  unfold c4
  by_cases h1 : a = a' <;> by_cases h2 : b = b' <;> by_cases h3 : c = c' <;> by_cases h4 : d = d' <;> go_simp
theorem guardTl : Tryz.prog.eqGuardType Tryz.prog.depth 43 = false := by kernel_rfl
theorem run_eqTl {dst : Option Tmp} {ty : TypeId} {pos : String} {aft : Array Edge} {gd : Option (Nat × Bool)} {act : Act} {w : World} {t' : TypeId} {x y : Operand} {a b c d a' b' c' d' : Int} (q : Bool) (hq : (a == a' && b == b' && c == c' && d == d') = q) (hx : act.eval x = .agg (c4 a b c d).toArray) (hy : act.eval y = .agg (c4 a' b' c' d').toArray) :
    (execOp act.eval ⟨dst, .binOp .eql 43 x y t', ty, pos, aft, gd⟩).run Tryz.prog w = .ok (.value (.bool q)) w := by
  have e2 := eqTl w a b c d a' b' c' d'
  rw [hq] at e2
  simp [execOp, hx, hy, run_eqGuard_agg (P := Tryz.prog) w .eql 43 x y _ _ guardTl, run_eql_struct, e2, Result.andThen]
theorem roT : Ro 136 43 4 32 (.agg (c4 0 0 0 0).toArray) := ⟨by kernel_rfl, by kernel_rfl, by kernel_rfl, rfl, by decide, by decide, fun w => by kernel_rfl⟩
theorem build_T (h l i n : Int) (w : World) :
    (Instr.buildSlice 136 1 #[(0, .agg (c4 h l i n).toArray)]).run Tryz.prog w = .ok (.slice (some ⟨w.heap.size, 0, none⟩) 1 1) (w.alloc (.cells (c4 h l i n).toArray 43)) := by
  obtain ⟨i0, hi, hz0, hz1, hz2⟩ := info_parts roT.info
  refine run_buildSlice w 136 43 1 _ _ i0 _ roT.und hi hz0 (by rw [hz1]; decide) (by rw [hz1]; decide) ?_
  rw [hz1]
  have e0 : ((Array.range (1 * 4)).map ((Value.agg (c4 0 0 0 0).toArray).cells[· % (Value.agg (c4 0 0 0 0).toArray).cells.size]!)) = (c4 0 0 0 0).toArray := by kernel_rfl
  rw [e0]
  show Instr.fill _ _ [(0, Value.agg (c4 h l i n).toArray)] = _
  rw [fill_cons (place := fun i => some (i * 4, 4)) (off := 0) (size := 4) (vs := c4 h l i n) rfl rfl rfl (by decide), fill_nil]
  rfl
theorem shl_P (H P I : Nat) (hH : isH H) (hP : 2 ^ H = P) (hb : I * P ≤ 281474976710656) (w : World) : (binOp .shl 3 (.int .i64 (I : Int)) (.int .i64 (H : Int))).run Tryz.prog w = .ok (.int .i64 ((I * P : Nat) : Int)) w := by
  have h1 := hH.2
  have h2 : ((I : Int) * 2 ^ H) = ((I * P : Nat) : Int) := by rw [← hP, Int.natCast_mul, Int.natCast_pow]; rfl
  have h3 : wrap64 ((I * P : Nat) : Int) = ((I * P : Nat) : Int) := w64 _ (by omega) (by omega)
  go_simp
  rw [← Int.natCast_mul]
  exact wrap_in _ (by omega) (by omega)
section
variable {F : Fence} {n : Nat} {dst : Option Tmp} {ty : TypeId} {pos : String} {aft : Array Edge} {gd : Option (Nat × Bool)} {ops : Array Oper} {rest : List Oper} {a : Act} {w : World} {Q : Exit → Act → World → Prop}
set_option maxRecDepth 100000 in
theorem istep_oneT (hF : WideF F) {x : Operand} {h' l' i' n' : Int} (hw : Region.wanted ⟨dst, .buildSlice 136 1 #[(0, x)], ty, pos, aft, gd⟩ (yielded ops a.tmps) = true) (hx : a.eval x = .agg (c4 h' l' i' n').toArray)
    (h : ∀ w1 g, Blk w1 g 43 (c4 h' l' i' n') → w.heap.size ≤ g → Below w.heap.size w w1 → wpListIn F n Tryz.prog ops Q rest (a.put dst (.slice (some ⟨g, 0, none⟩) 1 1)) w1) :
    wpListIn F n Tryz.prog ops Q (⟨dst, .buildSlice 136 1 #[(0, x)], ty, pos, aft, gd⟩ :: rest) a w :=
  istep hF (fun c => by simp) hw fun K hK => by
    refine wp_runV (.slice (some ⟨w.heap.size, 0, none⟩) 1 1) (w.alloc (.cells (c4 h' l' i' n').toArray 43)) ?_ (hK _ _ (h _ _ (Blk.made _ _ _) (Nat.le_refl _) ((Below.refl _ _).alloc (Nat.le_refl _) _)))
    unfold execOp
    simp only [List.map_toArray, List.map_cons, List.map_nil, hx]
    simp only [Sem.run_bind, build_T, Result.andThen_ok, Sem.run_pure]
set_option maxRecDepth 100000 in
theorem istep_appT (hF : WideF F) {s x : Operand} {B : Nat} {v u : Value} {k m : Nat} {xs ys : List Value} (hw : Region.wanted ⟨dst, .call { callee := .builtin .append, args := #[s, x], argTypes := #[136, 136] }, ty, pos, aft, gd⟩ (yielded ops a.tmps) = true)
    (hs : a.eval s = v) (hx : a.eval x = u) (hown : w.ownsRow B 43 4 v k xs) (hu : Vw w 43 4 u m ys) (h1 : ∀ x ∈ ys, x.oneCell' = true) (hlen : k + m ≤ 1099511627776) (hB : B ≤ w.heap.size)
    (h : ∀ v' w', w'.ownsRow B 43 4 v' (k + m) (xs ++ ys) → w.grownBy w' v.ownBlock → wpListIn F n Tryz.prog ops Q rest (a.put dst v') w') :
    wpListIn F n Tryz.prog ops Q (⟨dst, .call { callee := .builtin .append, args := #[s, x], argTypes := #[136, 136] }, ty, pos, aft, gd⟩ :: rest) a w :=
  istep hF (fun c => by simp) hw fun K hK => wp_appV roT hs hx hown hu h1 hlen hB fun v' w' h1 h2 _ => hK _ _ (h v' w' h1 h2)
end
theorem vw_one {w : World} {g : Nat} {h' l' i' n' : Int} (hb : Blk w g 43 (c4 h' l' i' n')) : Vw w 43 4 (.slice (some ⟨g, 0, none⟩) 1 1) 1 (c4 h' l' i' n') :=
  ⟨rfl, some ⟨g, 0, none⟩, 1, rfl, Nat.le_refl _, fun _ => ⟨g, 0, c4 h' l' i' n', rfl, hb, rfl⟩⟩
theorem row_app {w : World} {B H L P I : Nat} {v : Value} {is : List Nat} (h : w.ownsRow B 43 4 v (is.length + 1) (tlC (H : Int) (L : Int) (P : Int) is ++ c4 (H : Int) (L : Int) (I : Int) (P : Int))) : w.ownsRow B 43 4 v (is ++ [I]).length (tlC (H : Int) (L : Int) (P : Int) (is ++ [I])) := by
  rw [List.length_append, tlC_app]
  simpa [tlC, enT] using h
theorem prr_of {H L i P : Nat} {ss : List UInt8} (hP : 2 ^ H = P) (ht : tFB H L i = true) (he : sN H L i = bA ss) : PrR ss (H : Int) (L : Int) (i : Int) (P : Int) 0 := by
  have h1 := tFB_ok ht
  have h2 : sP H L i = ss := bA_inj he
  rw [sP_ok ht] at h2
  rw [hP] at h1 h2
  exact .inl ⟨rfl, h1, h2⟩
theorem rowQ_mono {w : World} {B B' : Nat} {e : TypeId} {q n : Nat} {v : Value} {xs : List Value} (h : w.ownsRow B e q v n xs) (hb : B' ≤ B) : w.ownsRow B' e q v n xs := by
  obtain ⟨h1, h2⟩ := h
  refine ⟨h1, ?_⟩
  rcases h2 with h2 | ⟨g, cap, cur, rfl, hg, h3⟩
  · exact .inl h2
  · exact .inr ⟨g, cap, cur, rfl, Nat.le_trans hb hg, h3⟩
theorem sort_tl (H L P : Int) (B : Nat) (fv : Value) (is : List Nat) (w : World) (hrow : w.ownsRow B 43 4 fv is.length (tlC H L P is)) (hlen : is.length ≤ 1099511627776) :
    Calls Tryz.prog 72 #[fv, .func (.func 73) #[] #[]] w fun e w' => e = .returned (.tuple #[]) ∧
      ∃ js : List Nat, js.Perm is ∧ (js.Pairwise fun a b => ¬ a < b) ∧ w'.ownsRow B 43 4 fv js.length (tlC H L P js) ∧ w.grownBy w' fv.ownBlock := by
  by_cases h0 : 0 < is.length
  · obtain ⟨g, cap, cs, rfl, _⟩ := row_at hrow h0
    refine (sort_some H L P B g cap is w hrow h0 hlen).mono ?_
    rintro e w' ⟨rfl, js, h1, h2, h3, h4⟩
    exact ⟨rfl, js, h1, h2, by rw [h1.length_eq]; rw [h1.length_eq] at h3; exact h3, h4⟩
  · obtain ⟨a, c, rfl⟩ := row_slice hrow
    have e0 : is = [] := List.eq_nil_of_length_eq_zero (by omega)
    subst e0
    refine (AnyF.slices_SortFunc_none Tryz.lSortF a c (.func (.func 73) #[] #[]) w).mono ?_
    rintro e w' ⟨rfl, rfl⟩
    exact ⟨rfl, [], List.Perm.refl _, List.Pairwise.nil, hrow, World.grownBy.refl _ _⟩
theorem tlC_at (H L P : Int) : ∀ (js : List Nat) (k q : Nat), js[k]? = some q → ((tlC H L P js).drop (k * 4)).take 4 = enT H L P q
  | [], k, q, h => by simp at h
  | i :: t, 0, q, h => by
    simp at h
    subst h
    rw [tlC_cons]
    exact List.take_left' rfl
  | i :: t, k + 1, q, h => by
    rw [tlC_cons, show (k + 1) * 4 = 4 + k * 4 by omega, ← List.drop_drop]
    show ((tlC H L P t).drop (k * 4)).take 4 = _
    exact tlC_at H L P t k q (by simpa using h)
theorem tlC_in {H L P : Int} {js : List Nat} {cs : List Value} {m k q : Nat} (hm : js.length = m) (hcs : cs.take (m * 4) = tlC H L P js) (hq : js[k]? = some q) : (cs.drop (k * 4)).take 4 = enT H L P q := by
  have hk := (List.getElem?_eq_some_iff.1 hq).1
  rw [← tlC_at H L P js k q hq, ← hcs, List.drop_take, List.take_take, Nat.min_eq_left (by omega)]
theorem takeQ {α : Type} {js : List α} {k : Nat} {q : α} (h : js[k]? = some q) : js.take (k + 1) = js.take k ++ [q] := by
  rw [List.take_add_one, h]
  rfl
theorem tpath_any (H L i P : Nat) (hP : 2 ^ H = P) (ht : tFB H L i = true) (w : World) (hw : PT w) :
    Calls Tryz.prog 66 #[.agg (c4 (H : Int) (L : Int) (i : Int) (P : Int)).toArray] w fun r w' => r = .returned (.tuple #[.string (sN H L i), .int .i64 0]) ∧ Below w.heap.size w w' := by
  have h1 := tFB_ok ht
  obtain ⟨_, _, hL, hI, _⟩ := tFB_bd ht
  rw [hP] at h1 hI
  have hi : i ≤ 281474976710656 := by
    have := (tFB_is ht).1.pow
    rw [hP] at this
    have h2 : i * 1 ≤ (i + 1) * P := Nat.mul_le_mul (by omega) (by omega)
    omega
  obtain ⟨p, e, hp, hc⟩ := path_any (H : Int) (L : Int) (i : Int) (P : Int) (by omega) (by omega)
  rcases hp with ⟨rfl, _, rfl⟩ | ⟨_, h2, _⟩
  · refine (hc w hw).mono ?_
    rintro r w' ⟨rfl, hb⟩
    exact ⟨by unfold sN; rw [sP_ok ht, hP], hb⟩
  · exact absurd h1 h2
set_option maxHeartbeats 4000000 in
theorem behind_any (d s : Nat) (rs : List Rw) (D : Dm) (ls : List (ByteArray × List Int)) (H L n : Nat) (w : World) (hd : DkAt w d s rs D) (hl : FL (play rs) ls) (hv : tFB H L 0 = true) (hn : n ≤ 1099511627776) (he : EV w) (hwt : wt rs ≤ 1099511000000) (hls : ls.length ≤ 1000000) :
    Calls Tryz.prog 38 #[.pointer (some ⟨d, 0, none⟩), .int .i64 (H : Int), .int .i64 (L : Int), .int .i64 (n : Int)] w fun e w' => ∃ v js, e = .returned v ∧ TrI (play rs) H L n js ∧ w'.ownsRow w.heap.size 9 1 v js.length (js.map fun i => .string (sN H L i)) ∧ Below w.heap.size w w' ∧ js.length ≤ 1000000 := by
  have hh := (tFB_is hv).1
  have hLb := (tFB_bd hv).2.2.1
  obtain ⟨P, HP⟩ : ∃ P, Hid (2 ^ H = P) := ⟨_, hide rfl⟩
  have hP := hh.pow
  rw [HP.out] at hP
  have HD := hide hd
  have HL := hide hl
  have HE := hide he
  have HW := hide hwt
  have HLS := hide hls
  have HFU := hide (fun (i : Int) W => fullT_any H P (L : Int) i W hh HP.out)
  have HHH := hide hh
  have hH8 : (H : Int) ≤ 8 := by have := hh.2; omega
  clear hd hl he hwt hls
  refine (callsIn_wide (n := 7)).1 ?_
  refine callsIn_of_wp_marks Tryz.func38 rfl trivial ?_ rfl
  refine wpIn_wide.2 ?_
  simp only [Tryz.ntmps38, List.size_toArray, List.length_cons, List.length_nil, Nat.reduceAdd, Nat.reduceSub, Array.replicate_succ, Array.replicate_zero, List.push_toArray, List.append_toArray, List.nil_append, List.cons_append]
  go_wp2_with fail
  obtain ⟨W4, hW4, F4⟩ := FI.new w H L P n
  rw [← hW4]
  clear hW4
  have G4 := hide F4
  clear F4
  revert G4
  obtain ⟨B, hB⟩ : ∃ B, w.heap.size + 1 + 1 + 1 + 1 = B := ⟨_, rfl⟩
  rw [hB]
  have hwB : w.heap.size ≤ B := by omega
  obtain ⟨b5, hb5⟩ : ∃ b, w.heap.size = b := ⟨_, rfl⟩
  obtain ⟨b6, hb6⟩ : ∃ b, w.heap.size + 1 = b := ⟨_, rfl⟩
  obtain ⟨b7, hb7⟩ : ∃ b, w.heap.size + 1 + 1 = b := ⟨_, rfl⟩
  obtain ⟨b9, hb9⟩ : ∃ b, w.heap.size + 1 + 1 + 1 = b := ⟨_, rfl⟩
  rw [hb9, hb7, hb6, hb5]
  clear hB hb6 hb7 hb9
  intro G4
  refine (dlist_any _ _).mono ?_
  rintro r w5 ⟨bx, rfl, BX, hbx⟩
  have G5 := hide (G4.out.on hbx)
  clear hbx G4
  have HSQ := hide (list_seq bx d s rs D HL.out HW.out w5 BX (HD.out.below G5.out.bel))
  clear BX
  go_wp2_with fail
  refine (wpIn_wide (n := 7)).1 ?_
  refine rangeR rfl (by decide) (gf := 80) (lb := #[.pointer (some ⟨bx, 0, none⟩)]) rfl trivial (enters_of Tryz.func80 (by kernel_rfl) rfl)
    HSQ.out KS.trans (fun x W l o o' hl h hc => KS.book W l o o' h hc) (fun _ => rfl) (fun pre x => rl_ownS _ _ pre x)
    (fun pre W => ∃ fv is, FI w W B b5 b6 b7 b9 fv is pre H L P n) (fun _ _ _ => False)
    (fun _ A C row h hg hr => by
      obtain ⟨fv, is, hf⟩ := h
      exact ⟨fv, is, hf.ck (CK.of_grown hg (fun r e => (hr r e).2)) (hf.bel.grown hg hf.bel.size (fun r e => by have h1 := (hr r e).1; have h2 := G5.out.bel.size; omega))⟩) (fun c _ A C row h hg hr => h) ⟨_, _, G5.out⟩ ?act ?assign ?body ?done ?stop
  case assign =>
    rintro l x W K hK
    have hsem := Oper.semAt_some
    gi_wp2
    exact hK
  case stop =>
    rintro D c pre W hD hSp hF2 hK2
    exact hF2.elim
  case body =>
    rintro l pre x W ⟨fv, is, hf⟩ hR
    have hsem := Oper.semAt_some
    have HF := hide hf
    have HNEW := hide (rl_newS HL.out hR)
    have hxs : x.size ≤ 128 := by
      obtain ⟨_, ys, h2⟩ := hR
      have hx1 : nmB x = true := by
        cases hb : nmB x with
        | true => rfl
        | false =>
          have h3 := (HL.out.mem x ys).2 (List.mem_of_getElem? h2)
          rw [Nmd.play HD.out.valS x hb] at h3
          cases h3
      simp [nmB] at hx1
      omega
    have HFEW : Hid (is.length ≤ 1000000) := hide (by
      have h1 := hf.len
      have h5 := HLS.out
      obtain ⟨_, ys, h2⟩ := hR
      have := (List.getElem?_eq_some_iff.1 h2).1
      omega)
    obtain ⟨ss, hss⟩ := bA_of x
    subst hss
    rw [bA_size] at hxs
    obtain ⟨h', l', i', n', e, hpr, hcall⟩ := parse_any ss (by omega)
    have HCALL := hide (hcall W (HE.out.below hf.bel))
    clear hf hR hcall
    gi_wp2_with fail
    refine ⟨trivial, (calls_round (WideF.round l) HCALL.out).mono ?_⟩
    rintro _ V ⟨rfl, hbV⟩
    have HFV := hide (HF.out.on hbV)
    have HOV := hide (keepsO_below hbV)
    have HSV := hide (KS.below hbV)
    clear hbV HCALL
    gi_wp2_with (refine istep_alloc (.round l) zT rfl ?_)
    intro V1 g11 hg11 hle11 hb11
    gi_wp2_with (refine istep_storeA (.round l) wT rfl rfl rfl hg11 rfl (One.c4 _ _ _ _) rfl ?_)
    intro V2 hg2 hbut2
    have hbV2 : Below V.heap.size V V2 := hb11.trans (hbut2.below hle11)
    have HF2 := hide (HFV.out.on hbV2)
    have HO2 := hide (HOV.out.trans (keepsO_below hbV2))
    have HS2 := hide (HSV.out.trans (KS.below hbV2))
    have HG2 := hide hg2
    clear hg11 hle11 hb11 hg2 hbut2 hbV2 HFV HOV HSV HF
    have HI4 : Hid ((Tryz.prog.info? 43).map (·.size) = some (c4 h' l' i' n').length) := hide wT.size
    have HRG : Hid (∀ v : World, Below V2.heap.size V2 v → v.rangeAt g11 0 (c4 h' l' i' n')) := hide (fun v hv => (HG2.out.on hv).range 0 _ (by simp))
    rcases hpr with ⟨rfl, htok, hpath⟩ | ⟨rfl, rfl, rfl, rfl, rfl, hno⟩
    rotate_left
    · have hskip : ∀ i, tFB H L i = true → n ≤ i * 2 ^ H → sN H L i ≠ bA ss := fun i ht _ hs => by
        rcases prr_of HP.out ht hs with ⟨_, h1, h2⟩ | ⟨h1, _⟩
        · exact hno ⟨_, _, _, _, h1, h2⟩
        · exact absurd h1 (by decide)
      clear hno
      gi_wp2_with fail
      refine wpIn_region_held (S := fun v => Below V2.heap.size V2 v) (WideF.round l) (by kernel_rfl) (by kernel_rfl) (Below.refl V2.heap.size V2).drew (fun hHeld => ?_)
      refine takeH 0 26 (.int .i64 100) hHeld rfl rfl (by kernel_rfl) (by kernel_rfl) (by kernel_rfl) (fun _ _ _ h => h) (Or.inl ⟨by rfl, fun w _ => by go_simp⟩) ?_
      simp only [Act.put, List.setIfInBounds_toArray, List.set_cons_zero, List.set_cons_succ]
      refine takeH 1 27 (.bool false) hHeld rfl rfl (by kernel_rfl) (by kernel_rfl) (by kernel_rfl) (fun _ _ _ h => h) (Or.inl ⟨by rfl, fun w _ => by go_simp⟩) ?_
      simp only [Act.put, List.setIfInBounds_toArray, List.set_cons_zero, List.set_cons_succ]
      refine takeH 2 28 (.bool false) hHeld rfl rfl (by kernel_rfl) (by kernel_rfl) (by kernel_rfl) (fun _ _ _ h => h) (Or.inl ⟨by rfl, fun w _ => by go_simp⟩) ?_
      simp only [Act.put, List.setIfInBounds_toArray, List.set_cons_zero, List.set_cons_succ]
      refine takeH 3 29 undef hHeld rfl rfl (by kernel_rfl) (by kernel_rfl) (by kernel_rfl) (fun _ _ _ h => h) (Or.inr ⟨by rfl, rfl⟩) ?_
      simp only [Act.put, List.setIfInBounds_toArray, List.set_cons_zero, List.set_cons_succ]
      refine takeH 4 30 undef hHeld rfl rfl (by kernel_rfl) (by kernel_rfl) (by kernel_rfl) (fun _ _ _ h => h) (Or.inr ⟨by rfl, rfl⟩) ?_
      simp only [Act.put, List.setIfInBounds_toArray, List.set_cons_zero, List.set_cons_succ]
      refine takeH 5 31 undef hHeld rfl rfl (by kernel_rfl) (by kernel_rfl) (by kernel_rfl) (fun _ _ _ h => h) (Or.inr ⟨by rfl, rfl⟩) ?_
      simp only [Act.put, List.setIfInBounds_toArray, List.set_cons_zero, List.set_cons_succ]
      refine takeH 6 32 undef hHeld rfl rfl (by kernel_rfl) (by kernel_rfl) (by kernel_rfl) (fun _ _ _ h => h) (Or.inr ⟨by rfl, rfl⟩) ?_
      simp only [Act.put, List.setIfInBounds_toArray, List.set_cons_zero, List.set_cons_succ]
      refine takeH 7 33 undef hHeld rfl rfl (by kernel_rfl) (by kernel_rfl) (by kernel_rfl) (fun _ _ _ h => h) (Or.inr ⟨by rfl, rfl⟩) ?_
      simp only [Act.put, List.setIfInBounds_toArray, List.set_cons_zero, List.set_cons_succ]
      refine takeH 8 34 undef hHeld rfl rfl (by kernel_rfl) (by kernel_rfl) (by kernel_rfl) (fun _ _ _ h => h) (Or.inr ⟨by rfl, rfl⟩) ?_
      simp only [Act.put, List.setIfInBounds_toArray, List.set_cons_zero, List.set_cons_succ]
      refine takeH 9 35 undef hHeld rfl rfl (by kernel_rfl) (by kernel_rfl) (by kernel_rfl) (fun _ _ _ h => h) (Or.inr ⟨by rfl, rfl⟩) ?_
      simp only [Act.put, List.setIfInBounds_toArray, List.set_cons_zero, List.set_cons_succ]
      refine takeH 10 36 (.bool false) hHeld rfl rfl (by kernel_rfl) (by kernel_rfl) (by kernel_rfl) (fun _ _ _ h => h) (Or.inl ⟨by rfl, fun w _ => by go_simp⟩) ?_
      simp only [Act.put, List.setIfInBounds_toArray, List.set_cons_zero, List.set_cons_succ]
      refine takeH 11 37 (.bool false) hHeld rfl rfl (by kernel_rfl) (by kernel_rfl) (by kernel_rfl) (fun _ _ _ h => h) (Or.inl ⟨by rfl, fun w _ => by go_simp⟩) ?_
      simp only [Act.put, List.setIfInBounds_toArray, List.set_cons_zero, List.set_cons_succ]
      refine takeH 12 38 undef hHeld rfl rfl (by kernel_rfl) (by kernel_rfl) (by kernel_rfl) (fun _ _ _ h => h) (Or.inr ⟨by rfl, rfl⟩) ?_
      simp only [Act.put, List.setIfInBounds_toArray, List.set_cons_zero, List.set_cons_succ]
      refine takeH 13 39 undef hHeld rfl rfl (by kernel_rfl) (by kernel_rfl) (by kernel_rfl) (fun _ _ _ h => h) (Or.inr ⟨by rfl, rfl⟩) ?_
      simp only [Act.put, List.setIfInBounds_toArray, List.set_cons_zero, List.set_cons_succ]
      refine takeH 14 40 undef hHeld rfl rfl (by kernel_rfl) (by kernel_rfl) (by kernel_rfl) (fun _ _ _ h => h) (Or.inr ⟨by rfl, rfl⟩) ?_
      simp only [Act.put, List.setIfInBounds_toArray, List.set_cons_zero, List.set_cons_succ]
      refine takeH 15 41 undef hHeld rfl rfl (by kernel_rfl) (by kernel_rfl) (by kernel_rfl) (fun _ _ _ h => h) (Or.inr ⟨by rfl, rfl⟩) ?_
      simp only [Act.put, List.setIfInBounds_toArray, List.set_cons_zero, List.set_cons_succ]
      refine takeH 16 42 undef hHeld rfl rfl (by kernel_rfl) (by kernel_rfl) (by kernel_rfl) (fun _ _ _ h => h) (Or.inr ⟨by rfl, rfl⟩) ?_
      simp only [Act.put, List.setIfInBounds_toArray, List.set_cons_zero, List.set_cons_succ]
      refine takeH 17 43 undef hHeld rfl rfl (by kernel_rfl) (by kernel_rfl) (by kernel_rfl) (fun _ _ _ h => h) (Or.inr ⟨by rfl, rfl⟩) ?_
      simp only [Act.put, List.setIfInBounds_toArray, List.set_cons_zero, List.set_cons_succ]
      refine takeH 18 44 (.bool false) hHeld rfl rfl (by kernel_rfl) (by kernel_rfl) (by kernel_rfl) (fun _ _ _ h => h) (Or.inl ⟨by rfl, fun w _ => by go_simp⟩) ?_
      simp only [Act.put, List.setIfInBounds_toArray, List.set_cons_zero, List.set_cons_succ]
      refine wpAnyH_done (by kernel_rfl) ?_ _
      refine Only.normal ?_
      obtain ⟨Vd, hVd⟩ : ∃ v, V2.drew = v := ⟨_, rfl⟩
      rw [hVd] at hHeld ⊢
      clear hVd
      gi_wp2
      exact ⟨(HO2.out.trans (keepsO_below hHeld)).from _, HS2.out.trans (KS.below hHeld), _, _, (HF2.out.on hHeld).skip hskip⟩
    obtain ⟨H', L', I, N', rfl, rfl, rfl, rfl, hH', hN1, hN2⟩ := htok
    have hprr : PrR ss (H' : Int) (L' : Int) (I : Int) (N' : Int) 0 := .inl ⟨rfl, ⟨H', L', I, N', rfl, rfl, rfl, rfl, hH', hN1, hN2⟩, hpath⟩
    by_cases hEq : H' = H ∧ L' = L ∧ N' = P
    rotate_left
    · have hskip : ∀ i, tFB H L i = true → n ≤ i * 2 ^ H → sN H L i ≠ bA ss := fun i ht _ hs => by
        have h1 := hprr.uniq (prr_of HP.out ht hs)
        exact hEq ⟨by omega, by omega, by omega⟩
      have hne : ((H' : Int) == (H : Int) && (L' : Int) == (L : Int) && (I : Int) == (I : Int) && (N' : Int) == (P : Int)) = false := by
        rw [Bool.eq_false_iff]
        intro h
        simp at h
        exact hEq ⟨by omega, by omega, by omega⟩
      clear hprr hpath hN2 hEq
      gi_wp2_with fail
      refine wpIn_region_held (S := fun v => Below V2.heap.size V2 v) (WideF.round l) (by kernel_rfl) (by kernel_rfl) (Below.refl V2.heap.size V2).drew (fun hHeld => ?_)
      refine takeH 0 26 (.int .i64 0) hHeld rfl rfl (by kernel_rfl) (by kernel_rfl) (by kernel_rfl) (fun _ _ _ h => h) (Or.inl ⟨by rfl, fun w _ => by go_simp⟩) ?_
      simp only [Act.put, List.setIfInBounds_toArray, List.set_cons_zero, List.set_cons_succ]
      refine takeH 1 27 (.bool true) hHeld rfl rfl (by kernel_rfl) (by kernel_rfl) (by kernel_rfl) (fun _ _ _ h => h) (Or.inl ⟨by rfl, fun w _ => by go_simp⟩) ?_
      simp only [Act.put, List.setIfInBounds_toArray, List.set_cons_zero, List.set_cons_succ]
      refine takeH 2 28 (.bool true) hHeld rfl rfl (by kernel_rfl) (by kernel_rfl) (by kernel_rfl) (fun _ _ _ h => h) (Or.inl ⟨by rfl, fun w _ => by go_simp⟩) ?_
      simp only [Act.put, List.setIfInBounds_toArray, List.set_cons_zero, List.set_cons_succ]
      refine takeH 3 29 (.agg (c4 (H' : Int) (L' : Int) (I : Int) (N' : Int)).toArray) hHeld rfl rfl (by kernel_rfl) (by kernel_rfl) (by kernel_rfl) (fun _ _ _ h => h) (yieldsIf_load_mid (by rfl) _ _ rfl g11 0 rfl _ _ (fun w h => HRG.out w h) Tryz.underlying43 rfl HI4.out) ?_
      simp only [Act.put, List.setIfInBounds_toArray, List.set_cons_zero, List.set_cons_succ]
      refine takeH 4 30 (.int .i64 (H : Int)) hHeld rfl rfl (by kernel_rfl) (by kernel_rfl) (by kernel_rfl) (fun _ _ _ h => h) (Or.inl ⟨by rfl, fun w hw => by have hw' : w.cell? ⟨b5, 0, none⟩ = some (.int .i64 (H : Int)) := (fun hw => by rw [((HF2.out.on hw).c5).cell]; rfl) hw; go_simp⟩) ?_
      simp only [Act.put, List.setIfInBounds_toArray, List.set_cons_zero, List.set_cons_succ]
      refine takeH 5 31 (.int .i64 (L : Int)) hHeld rfl rfl (by kernel_rfl) (by kernel_rfl) (by kernel_rfl) (fun _ _ _ h => h) (Or.inl ⟨by rfl, fun w hw => by have hw' : w.cell? ⟨b6, 0, none⟩ = some (.int .i64 (L : Int)) := (fun hw => by rw [((HF2.out.on hw).c6).cell]; rfl) hw; go_simp⟩) ?_
      simp only [Act.put, List.setIfInBounds_toArray, List.set_cons_zero, List.set_cons_succ]
      refine takeH 6 32 (.pointer (some ⟨g11, 2, none⟩)) hHeld rfl rfl (by kernel_rfl) (by kernel_rfl) (by kernel_rfl) (fun _ _ _ h => h) (Or.inl ⟨by rfl, fun w _ => by go_simp⟩) ?_
      simp only [Act.put, List.setIfInBounds_toArray, List.set_cons_zero, List.set_cons_succ]
      refine takeH 7 33 (.int .i64 (I : Int)) hHeld rfl rfl (by kernel_rfl) (by kernel_rfl) (by kernel_rfl) (fun _ _ _ h => h) (Or.inl ⟨by rfl, fun w hw => by have hw' : w.cell? ⟨g11, 2, none⟩ = some (.int .i64 (I : Int)) := (fun hw => by rw [((HG2.out.on hw)).cell]; rfl) hw; go_simp⟩) ?_
      simp only [Act.put, List.setIfInBounds_toArray, List.set_cons_zero, List.set_cons_succ]
      refine wpAnyH_ready (rs := [8]) (by kernel_rfl) (by simp) (AllReadyH.cons rfl (fun K hK => ?_) AllReadyH.nil)
      rw [if_pos (by rfl)]
      go_simp
      refine (HFU.out _ _).mono ?_
      rintro r v8 ⟨rfl, hb8⟩
      refine hK.out _ _ ((hHeld.trans (hb8.mono hHeld.size))) (fun hHeld => ?_)
      clear hK K
      try simp only [Act.put, List.setIfInBounds_toArray, List.set_cons_zero, List.set_cons_succ]
      refine takeH 9 35 (.bool false) hHeld rfl rfl (by kernel_rfl) (by kernel_rfl) (by kernel_rfl) (fun _ _ _ h => h) (Or.inl ⟨by rfl, fun w _ => run_eqTl false hne rfl rfl⟩) ?_
      simp only [Act.put, List.setIfInBounds_toArray, List.set_cons_zero, List.set_cons_succ]
      refine takeH 10 36 (.bool false) hHeld rfl rfl (by kernel_rfl) (by kernel_rfl) (by kernel_rfl) (fun _ _ _ h => h) (Or.inl ⟨by rfl, fun w _ => by go_simp⟩) ?_
      simp only [Act.put, List.setIfInBounds_toArray, List.set_cons_zero, List.set_cons_succ]
      refine takeH 11 37 (.bool false) hHeld rfl rfl (by kernel_rfl) (by kernel_rfl) (by kernel_rfl) (fun _ _ _ h => h) (Or.inl ⟨by rfl, fun w _ => by go_simp⟩) ?_
      simp only [Act.put, List.setIfInBounds_toArray, List.set_cons_zero, List.set_cons_succ]
      refine takeH 12 38 undef hHeld rfl rfl (by kernel_rfl) (by kernel_rfl) (by kernel_rfl) (fun _ _ _ h => h) (Or.inr ⟨by rfl, rfl⟩) ?_
      simp only [Act.put, List.setIfInBounds_toArray, List.set_cons_zero, List.set_cons_succ]
      refine takeH 13 39 undef hHeld rfl rfl (by kernel_rfl) (by kernel_rfl) (by kernel_rfl) (fun _ _ _ h => h) (Or.inr ⟨by rfl, rfl⟩) ?_
      simp only [Act.put, List.setIfInBounds_toArray, List.set_cons_zero, List.set_cons_succ]
      refine takeH 14 40 undef hHeld rfl rfl (by kernel_rfl) (by kernel_rfl) (by kernel_rfl) (fun _ _ _ h => h) (Or.inr ⟨by rfl, rfl⟩) ?_
      simp only [Act.put, List.setIfInBounds_toArray, List.set_cons_zero, List.set_cons_succ]
      refine takeH 15 41 undef hHeld rfl rfl (by kernel_rfl) (by kernel_rfl) (by kernel_rfl) (fun _ _ _ h => h) (Or.inr ⟨by rfl, rfl⟩) ?_
      simp only [Act.put, List.setIfInBounds_toArray, List.set_cons_zero, List.set_cons_succ]
      refine takeH 16 42 undef hHeld rfl rfl (by kernel_rfl) (by kernel_rfl) (by kernel_rfl) (fun _ _ _ h => h) (Or.inr ⟨by rfl, rfl⟩) ?_
      simp only [Act.put, List.setIfInBounds_toArray, List.set_cons_zero, List.set_cons_succ]
      refine takeH 17 43 undef hHeld rfl rfl (by kernel_rfl) (by kernel_rfl) (by kernel_rfl) (fun _ _ _ h => h) (Or.inr ⟨by rfl, rfl⟩) ?_
      simp only [Act.put, List.setIfInBounds_toArray, List.set_cons_zero, List.set_cons_succ]
      refine takeH 18 44 (.bool false) hHeld rfl rfl (by kernel_rfl) (by kernel_rfl) (by kernel_rfl) (fun _ _ _ h => h) (Or.inl ⟨by rfl, fun w _ => by go_simp⟩) ?_
      simp only [Act.put, List.setIfInBounds_toArray, List.set_cons_zero, List.set_cons_succ]
      refine wpAnyH_done (by kernel_rfl) ?_ _
      refine Only.normal ?_
      obtain ⟨Vd, hVd⟩ : ∃ v, v8 = v := ⟨_, rfl⟩
      rw [hVd] at hHeld ⊢
      clear hVd
      gi_wp2
      exact ⟨(HO2.out.trans (keepsO_below hHeld)).from _, HS2.out.trans (KS.below hHeld), _, _, (HF2.out.on hHeld).skip hskip⟩
    obtain ⟨e1, e2, e3⟩ := hEq
    have e1 := e1.symm
    have e2 := e2.symm
    have e3 := e3.symm
    subst e1 e2 e3
    have htf : tFB H L I = true := tFB_of hh (by rw [HP.out]; exact hN2)
    have hIb := (tFB_bd htf).2.2.2.1
    rw [HP.out, Nat.add_mul] at hIb
    have hshl := shl_P H P I hh HP.out (by omega)
    have heq : ((H : Int) == (H : Int) && (L : Int) == (L : Int) && (I : Int) == (I : Int) && (P : Int) == (P : Int)) = true := by simp
    have hnm : bA ss = sN H L I := by
      unfold sN
      rw [sP_ok htf, HP.out, hpath]
    have HNM := hide hnm
    clear hnm
    by_cases hge : n ≤ I * P
    · have hgq : decide ((n : Int) ≤ ((I * P : Nat) : Int)) = true := decide_eq_true (by omega)
      clear hprr hpath hN2
      have hgg : (binOp .geq 3 (.int .i64 ((I * P : Nat) : Int)) (.int .i64 (n : Int))).run Tryz.prog = fun w => .ok (.bool true) w := by
        funext w
        have h1 : (n : Int) ≤ ((I * P : Nat) : Int) := by omega
        generalize ((I * P : Nat) : Int) = z at *
        go_simp
      generalize ((I * P : Nat) : Int) = z at *
      gi_wp2_with fail
      refine wpIn_region_held (S := fun v => Below V2.heap.size V2 v) (WideF.round l) (by kernel_rfl) (by kernel_rfl) (Below.refl V2.heap.size V2).drew (fun hHeld => ?_)
      refine takeH 0 26 (.int .i64 0) hHeld rfl rfl (by kernel_rfl) (by kernel_rfl) (by kernel_rfl) (fun _ _ _ h => h) (Or.inl ⟨by rfl, fun w _ => by go_simp⟩) ?_
      simp only [Act.put, List.setIfInBounds_toArray, List.set_cons_zero, List.set_cons_succ]
      refine takeH 1 27 (.bool true) hHeld rfl rfl (by kernel_rfl) (by kernel_rfl) (by kernel_rfl) (fun _ _ _ h => h) (Or.inl ⟨by rfl, fun w _ => by go_simp⟩) ?_
      simp only [Act.put, List.setIfInBounds_toArray, List.set_cons_zero, List.set_cons_succ]
      refine takeH 2 28 (.bool true) hHeld rfl rfl (by kernel_rfl) (by kernel_rfl) (by kernel_rfl) (fun _ _ _ h => h) (Or.inl ⟨by rfl, fun w _ => by go_simp⟩) ?_
      simp only [Act.put, List.setIfInBounds_toArray, List.set_cons_zero, List.set_cons_succ]
      refine takeH 3 29 (.agg (c4 (H : Int) (L : Int) (I : Int) (P : Int)).toArray) hHeld rfl rfl (by kernel_rfl) (by kernel_rfl) (by kernel_rfl) (fun _ _ _ h => h) (yieldsIf_load_mid (by rfl) _ _ rfl g11 0 rfl _ _ (fun w h => HRG.out w h) Tryz.underlying43 rfl HI4.out) ?_
      simp only [Act.put, List.setIfInBounds_toArray, List.set_cons_zero, List.set_cons_succ]
      refine takeH 4 30 (.int .i64 (H : Int)) hHeld rfl rfl (by kernel_rfl) (by kernel_rfl) (by kernel_rfl) (fun _ _ _ h => h) (Or.inl ⟨by rfl, fun w hw => by have hw' : w.cell? ⟨b5, 0, none⟩ = some (.int .i64 (H : Int)) := (fun hw => by rw [((HF2.out.on hw).c5).cell]; rfl) hw; go_simp⟩) ?_
      simp only [Act.put, List.setIfInBounds_toArray, List.set_cons_zero, List.set_cons_succ]
      refine takeH 5 31 (.int .i64 (L : Int)) hHeld rfl rfl (by kernel_rfl) (by kernel_rfl) (by kernel_rfl) (fun _ _ _ h => h) (Or.inl ⟨by rfl, fun w hw => by have hw' : w.cell? ⟨b6, 0, none⟩ = some (.int .i64 (L : Int)) := (fun hw => by rw [((HF2.out.on hw).c6).cell]; rfl) hw; go_simp⟩) ?_
      simp only [Act.put, List.setIfInBounds_toArray, List.set_cons_zero, List.set_cons_succ]
      refine takeH 6 32 (.pointer (some ⟨g11, 2, none⟩)) hHeld rfl rfl (by kernel_rfl) (by kernel_rfl) (by kernel_rfl) (fun _ _ _ h => h) (Or.inl ⟨by rfl, fun w _ => by go_simp⟩) ?_
      simp only [Act.put, List.setIfInBounds_toArray, List.set_cons_zero, List.set_cons_succ]
      refine takeH 7 33 (.int .i64 (I : Int)) hHeld rfl rfl (by kernel_rfl) (by kernel_rfl) (by kernel_rfl) (fun _ _ _ h => h) (Or.inl ⟨by rfl, fun w hw => by have hw' : w.cell? ⟨g11, 2, none⟩ = some (.int .i64 (I : Int)) := (fun hw => by rw [((HG2.out.on hw)).cell]; rfl) hw; go_simp⟩) ?_
      simp only [Act.put, List.setIfInBounds_toArray, List.set_cons_zero, List.set_cons_succ]
      refine wpAnyH_ready (rs := [8]) (by kernel_rfl) (by simp) (AllReadyH.cons rfl (fun K hK => ?_) AllReadyH.nil)
      rw [if_pos (by rfl)]
      go_simp
      refine (HFU.out _ _).mono ?_
      rintro r v8 ⟨rfl, hb8⟩
      refine hK.out _ _ ((hHeld.trans (hb8.mono hHeld.size))) (fun hHeld => ?_)
      clear hK K
      try simp only [Act.put, List.setIfInBounds_toArray, List.set_cons_zero, List.set_cons_succ]
      refine takeH 9 35 (.bool true) hHeld rfl rfl (by kernel_rfl) (by kernel_rfl) (by kernel_rfl) (fun _ _ _ h => h) (Or.inl ⟨by rfl, fun w _ => run_eqTl true heq rfl rfl⟩) ?_
      simp only [Act.put, List.setIfInBounds_toArray, List.set_cons_zero, List.set_cons_succ]
      refine takeH 10 36 (.bool true) hHeld rfl rfl (by kernel_rfl) (by kernel_rfl) (by kernel_rfl) (fun _ _ _ h => h) (Or.inl ⟨by rfl, fun w _ => by go_simp⟩) ?_
      simp only [Act.put, List.setIfInBounds_toArray, List.set_cons_zero, List.set_cons_succ]
      refine takeH 11 37 (.bool true) hHeld rfl rfl (by kernel_rfl) (by kernel_rfl) (by kernel_rfl) (fun _ _ _ h => h) (Or.inl ⟨by rfl, fun w _ => by go_simp⟩) ?_
      simp only [Act.put, List.setIfInBounds_toArray, List.set_cons_zero, List.set_cons_succ]
      refine takeH 12 38 (.pointer (some ⟨g11, 2, none⟩)) hHeld rfl rfl (by kernel_rfl) (by kernel_rfl) (by kernel_rfl) (fun _ _ _ h => h) (Or.inl ⟨by rfl, fun w _ => by go_simp⟩) ?_
      simp only [Act.put, List.setIfInBounds_toArray, List.set_cons_zero, List.set_cons_succ]
      refine takeH 13 39 (.int .i64 (I : Int)) hHeld rfl rfl (by kernel_rfl) (by kernel_rfl) (by kernel_rfl) (fun _ _ _ h => h) (Or.inl ⟨by rfl, fun w hw => by have hw' : w.cell? ⟨g11, 2, none⟩ = some (.int .i64 (I : Int)) := (fun hw => by rw [((HG2.out.on hw)).cell]; rfl) hw; go_simp⟩) ?_
      simp only [Act.put, List.setIfInBounds_toArray, List.set_cons_zero, List.set_cons_succ]
      refine takeH 14 40 (.int .i64 (H : Int)) hHeld rfl rfl (by kernel_rfl) (by kernel_rfl) (by kernel_rfl) (fun _ _ _ h => h) (Or.inl ⟨by rfl, fun w hw => by have hw' : w.cell? ⟨b5, 0, none⟩ = some (.int .i64 (H : Int)) := (fun hw => by rw [((HF2.out.on hw).c5).cell]; rfl) hw; go_simp⟩) ?_
      simp only [Act.put, List.setIfInBounds_toArray, List.set_cons_zero, List.set_cons_succ]
      refine takeH 15 41 (.int .i64 z) hHeld rfl rfl (by kernel_rfl) (by kernel_rfl) (by kernel_rfl) (fun _ _ _ h => h) (Or.inl ⟨by rfl, fun w _ => run_op rfl (hshl w)⟩) ?_
      simp only [Act.put, List.setIfInBounds_toArray, List.set_cons_zero, List.set_cons_succ]
      refine takeH 16 42 (.int .i64 (n : Int)) hHeld rfl rfl (by kernel_rfl) (by kernel_rfl) (by kernel_rfl) (fun _ _ _ h => h) (Or.inl ⟨by rfl, fun w hw => by have hw' : w.cell? ⟨b7, 0, none⟩ = some (.int .i64 (n : Int)) := (fun hw => by rw [((HF2.out.on hw).c7).cell]; rfl) hw; go_simp⟩) ?_
      simp only [Act.put, List.setIfInBounds_toArray, List.set_cons_zero, List.set_cons_succ]
      refine takeH 17 43 (.bool true) hHeld rfl rfl (by kernel_rfl) (by kernel_rfl) (by kernel_rfl) (fun _ _ _ h => h) (Or.inl ⟨by rfl, fun w _ => run_op rfl ((fun w => congrFun hgg w) w)⟩) ?_
      simp only [Act.put, List.setIfInBounds_toArray, List.set_cons_zero, List.set_cons_succ]
      refine takeH 18 44 (.bool true) hHeld rfl rfl (by kernel_rfl) (by kernel_rfl) (by kernel_rfl) (fun _ _ _ h => h) (Or.inl ⟨by rfl, fun w _ => by go_simp⟩) ?_
      simp only [Act.put, List.setIfInBounds_toArray, List.set_cons_zero, List.set_cons_succ]
      refine wpAnyH_done (by kernel_rfl) ?_ _
      refine Only.normal ?_
      obtain ⟨Vd, hVd⟩ : ∃ v, v8 = v := ⟨_, rfl⟩
      rw [hVd] at hHeld ⊢
      clear hVd
      have HFd := hide (HF2.out.on hHeld)
      have HGd := hide (HG2.out.on hHeld)
      have d9 : Vd.cell? ⟨b9, 0, none⟩ = some fv := by rw [HFd.out.c9.cell]; rfl
      have HSd := hide (HS2.out.trans (KS.below hHeld))
      have HOd := hide (HO2.out.trans (keepsO_below hHeld))
      clear hHeld
      gi_wp2_with (first | (refine istep_loadA (.round l) wT rfl rfl HGd.out rfl ?_) | (refine istep_oneT (.round l) rfl rfl ?_; intro w3 gq hgq hle3 hb3; have HQ3 := hide hgq; have HB3 := hide hb3; have HF3 := hide (HFd.out.on hb3); clear hgq hb3) | (refine istep_appT (.round l) (m := 1) (ys := c4 (H : Int) (L : Int) (I : Int) (P : Int)) rfl rfl rfl HF3.out.row (vw_one HQ3.out) (One.c4 _ _ _ _) (by have := HFEW.out; omega) HF3.out.sz ?_; intro fv' w4 hrow hgr; have HW4 := hide (row_app hrow); obtain ⟨g', cap', cs', rfl, _⟩ := row_at hrow (Nat.succ_pos _); have HGR := hide hgr; have c94 : Blk w4 b9 136 [fv] := HF3.out.c9.same (hgr.block b9 HF3.out.c9.lt (fun e => by have := row_ge HF3.out.row e.symm; have := HF3.out.l9.2.1; omega)); have d94 : w4.cell? ⟨b9, 0, none⟩ = some fv := (by rw [c94.cell]; rfl); have f94 := c94.free 0; clear hrow hgr c94))
      gi_wp2
      have h9 := HFd.out.push htf (by rw [HP.out]; exact hge) HNM.out HNEW.out HB3.out HW4.out HGR.out rfl
      exact ⟨(HOd.out.trans h9.2.2).from _, HSd.out.trans h9.2.1, _, _, h9.1⟩
    · have hskip : ∀ i, tFB H L i = true → n ≤ i * 2 ^ H → sN H L i ≠ bA ss := fun i ht hi hs => by
        have h1 := hprr.uniq (prr_of HP.out ht hs)
        have : i = I := by omega
        subst this
        rw [HP.out] at hi
        exact hge hi
      have hgg : (binOp .geq 3 (.int .i64 ((I * P : Nat) : Int)) (.int .i64 (n : Int))).run Tryz.prog = fun w => .ok (.bool false) w := by
        funext w
        have h1 : ¬ (n : Int) ≤ ((I * P : Nat) : Int) := by omega
        generalize ((I * P : Nat) : Int) = z at *
        go_simp
      clear hprr hpath hN2
      generalize ((I * P : Nat) : Int) = z at *
      gi_wp2_with fail
      refine wpIn_region_held (S := fun v => Below V2.heap.size V2 v) (WideF.round l) (by kernel_rfl) (by kernel_rfl) (Below.refl V2.heap.size V2).drew (fun hHeld => ?_)
      refine takeH 0 26 (.int .i64 0) hHeld rfl rfl (by kernel_rfl) (by kernel_rfl) (by kernel_rfl) (fun _ _ _ h => h) (Or.inl ⟨by rfl, fun w _ => by go_simp⟩) ?_
      simp only [Act.put, List.setIfInBounds_toArray, List.set_cons_zero, List.set_cons_succ]
      refine takeH 1 27 (.bool true) hHeld rfl rfl (by kernel_rfl) (by kernel_rfl) (by kernel_rfl) (fun _ _ _ h => h) (Or.inl ⟨by rfl, fun w _ => by go_simp⟩) ?_
      simp only [Act.put, List.setIfInBounds_toArray, List.set_cons_zero, List.set_cons_succ]
      refine takeH 2 28 (.bool true) hHeld rfl rfl (by kernel_rfl) (by kernel_rfl) (by kernel_rfl) (fun _ _ _ h => h) (Or.inl ⟨by rfl, fun w _ => by go_simp⟩) ?_
      simp only [Act.put, List.setIfInBounds_toArray, List.set_cons_zero, List.set_cons_succ]
      refine takeH 3 29 (.agg (c4 (H : Int) (L : Int) (I : Int) (P : Int)).toArray) hHeld rfl rfl (by kernel_rfl) (by kernel_rfl) (by kernel_rfl) (fun _ _ _ h => h) (yieldsIf_load_mid (by rfl) _ _ rfl g11 0 rfl _ _ (fun w h => HRG.out w h) Tryz.underlying43 rfl HI4.out) ?_
      simp only [Act.put, List.setIfInBounds_toArray, List.set_cons_zero, List.set_cons_succ]
      refine takeH 4 30 (.int .i64 (H : Int)) hHeld rfl rfl (by kernel_rfl) (by kernel_rfl) (by kernel_rfl) (fun _ _ _ h => h) (Or.inl ⟨by rfl, fun w hw => by have hw' : w.cell? ⟨b5, 0, none⟩ = some (.int .i64 (H : Int)) := (fun hw => by rw [((HF2.out.on hw).c5).cell]; rfl) hw; go_simp⟩) ?_
      simp only [Act.put, List.setIfInBounds_toArray, List.set_cons_zero, List.set_cons_succ]
      refine takeH 5 31 (.int .i64 (L : Int)) hHeld rfl rfl (by kernel_rfl) (by kernel_rfl) (by kernel_rfl) (fun _ _ _ h => h) (Or.inl ⟨by rfl, fun w hw => by have hw' : w.cell? ⟨b6, 0, none⟩ = some (.int .i64 (L : Int)) := (fun hw => by rw [((HF2.out.on hw).c6).cell]; rfl) hw; go_simp⟩) ?_
      simp only [Act.put, List.setIfInBounds_toArray, List.set_cons_zero, List.set_cons_succ]
      refine takeH 6 32 (.pointer (some ⟨g11, 2, none⟩)) hHeld rfl rfl (by kernel_rfl) (by kernel_rfl) (by kernel_rfl) (fun _ _ _ h => h) (Or.inl ⟨by rfl, fun w _ => by go_simp⟩) ?_
      simp only [Act.put, List.setIfInBounds_toArray, List.set_cons_zero, List.set_cons_succ]
      refine takeH 7 33 (.int .i64 (I : Int)) hHeld rfl rfl (by kernel_rfl) (by kernel_rfl) (by kernel_rfl) (fun _ _ _ h => h) (Or.inl ⟨by rfl, fun w hw => by have hw' : w.cell? ⟨g11, 2, none⟩ = some (.int .i64 (I : Int)) := (fun hw => by rw [((HG2.out.on hw)).cell]; rfl) hw; go_simp⟩) ?_
      simp only [Act.put, List.setIfInBounds_toArray, List.set_cons_zero, List.set_cons_succ]
      refine wpAnyH_ready (rs := [8]) (by kernel_rfl) (by simp) (AllReadyH.cons rfl (fun K hK => ?_) AllReadyH.nil)
      rw [if_pos (by rfl)]
      go_simp
      refine (HFU.out _ _).mono ?_
      rintro r v8 ⟨rfl, hb8⟩
      refine hK.out _ _ ((hHeld.trans (hb8.mono hHeld.size))) (fun hHeld => ?_)
      clear hK K
      try simp only [Act.put, List.setIfInBounds_toArray, List.set_cons_zero, List.set_cons_succ]
      refine takeH 9 35 (.bool true) hHeld rfl rfl (by kernel_rfl) (by kernel_rfl) (by kernel_rfl) (fun _ _ _ h => h) (Or.inl ⟨by rfl, fun w _ => run_eqTl true heq rfl rfl⟩) ?_
      simp only [Act.put, List.setIfInBounds_toArray, List.set_cons_zero, List.set_cons_succ]
      refine takeH 10 36 (.bool true) hHeld rfl rfl (by kernel_rfl) (by kernel_rfl) (by kernel_rfl) (fun _ _ _ h => h) (Or.inl ⟨by rfl, fun w _ => by go_simp⟩) ?_
      simp only [Act.put, List.setIfInBounds_toArray, List.set_cons_zero, List.set_cons_succ]
      refine takeH 11 37 (.bool true) hHeld rfl rfl (by kernel_rfl) (by kernel_rfl) (by kernel_rfl) (fun _ _ _ h => h) (Or.inl ⟨by rfl, fun w _ => by go_simp⟩) ?_
      simp only [Act.put, List.setIfInBounds_toArray, List.set_cons_zero, List.set_cons_succ]
      refine takeH 12 38 (.pointer (some ⟨g11, 2, none⟩)) hHeld rfl rfl (by kernel_rfl) (by kernel_rfl) (by kernel_rfl) (fun _ _ _ h => h) (Or.inl ⟨by rfl, fun w _ => by go_simp⟩) ?_
      simp only [Act.put, List.setIfInBounds_toArray, List.set_cons_zero, List.set_cons_succ]
      refine takeH 13 39 (.int .i64 (I : Int)) hHeld rfl rfl (by kernel_rfl) (by kernel_rfl) (by kernel_rfl) (fun _ _ _ h => h) (Or.inl ⟨by rfl, fun w hw => by have hw' : w.cell? ⟨g11, 2, none⟩ = some (.int .i64 (I : Int)) := (fun hw => by rw [((HG2.out.on hw)).cell]; rfl) hw; go_simp⟩) ?_
      simp only [Act.put, List.setIfInBounds_toArray, List.set_cons_zero, List.set_cons_succ]
      refine takeH 14 40 (.int .i64 (H : Int)) hHeld rfl rfl (by kernel_rfl) (by kernel_rfl) (by kernel_rfl) (fun _ _ _ h => h) (Or.inl ⟨by rfl, fun w hw => by have hw' : w.cell? ⟨b5, 0, none⟩ = some (.int .i64 (H : Int)) := (fun hw => by rw [((HF2.out.on hw).c5).cell]; rfl) hw; go_simp⟩) ?_
      simp only [Act.put, List.setIfInBounds_toArray, List.set_cons_zero, List.set_cons_succ]
      refine takeH 15 41 (.int .i64 z) hHeld rfl rfl (by kernel_rfl) (by kernel_rfl) (by kernel_rfl) (fun _ _ _ h => h) (Or.inl ⟨by rfl, fun w _ => run_op rfl (hshl w)⟩) ?_
      simp only [Act.put, List.setIfInBounds_toArray, List.set_cons_zero, List.set_cons_succ]
      refine takeH 16 42 (.int .i64 (n : Int)) hHeld rfl rfl (by kernel_rfl) (by kernel_rfl) (by kernel_rfl) (fun _ _ _ h => h) (Or.inl ⟨by rfl, fun w hw => by have hw' : w.cell? ⟨b7, 0, none⟩ = some (.int .i64 (n : Int)) := (fun hw => by rw [((HF2.out.on hw).c7).cell]; rfl) hw; go_simp⟩) ?_
      simp only [Act.put, List.setIfInBounds_toArray, List.set_cons_zero, List.set_cons_succ]
      refine takeH 17 43 (.bool false) hHeld rfl rfl (by kernel_rfl) (by kernel_rfl) (by kernel_rfl) (fun _ _ _ h => h) (Or.inl ⟨by rfl, fun w _ => run_op rfl ((fun w => congrFun hgg w) w)⟩) ?_
      simp only [Act.put, List.setIfInBounds_toArray, List.set_cons_zero, List.set_cons_succ]
      refine takeH 18 44 (.bool false) hHeld rfl rfl (by kernel_rfl) (by kernel_rfl) (by kernel_rfl) (fun _ _ _ h => h) (Or.inl ⟨by rfl, fun w _ => by go_simp⟩) ?_
      simp only [Act.put, List.setIfInBounds_toArray, List.set_cons_zero, List.set_cons_succ]
      refine wpAnyH_done (by kernel_rfl) ?_ _
      refine Only.normal ?_
      obtain ⟨Vd, hVd⟩ : ∃ v, v8 = v := ⟨_, rfl⟩
      rw [hVd] at hHeld ⊢
      clear hVd
      gi_wp2
      exact ⟨(HO2.out.trans (keepsO_below hHeld)).from _, HS2.out.trans (KS.below hHeld), _, _, (HF2.out.on hHeld).skip hskip⟩
  case done =>
    rintro Dk ys W hD hS ⟨fv, is, hf⟩ hK2
    clear hb5
    have HF := hide hf
    have hlen : is.length ≤ 1000000 := by
      have h1 := hf.len
      rw [hS, List.length_map] at h1
      have := HLS.out
      omega
    have HSO := hide (sort_tl _ _ _ _ _ _ _ hf.row (by omega))
    have HTI : Hid (∀ js : List Nat, js.Perm is → (js.Pairwise fun a b => ¬ a < b) → TrI (play rs) H L n js) := hide (by
      intro js hp hw
      refine ⟨?_, fun i => ?_⟩
      · have h1 : js.Nodup := hp.nodup_iff.2 hf.nd
        have h2 := List.Pairwise.and hw (show js.Pairwise (fun a b => a ≠ b) from h1)
        exact h2.imp (fun {a b} h => by have := h.1; have := h.2; omega)
      · rw [hp.mem_iff, hf.mem i, hS]
        have h1 : sN H L i ∈ ls.map (fun x => x.1) ↔ (play rs (sN H L i)).isSome = true := by
          rw [List.mem_map]
          constructor
          · rintro ⟨x, hx, e⟩
            have := (HL.out.mem x.1 x.2).2 hx
            rw [← e, this]
            rfl
          · intro h
            obtain ⟨y, hy⟩ := Option.isSome_iff_exists.1 h
            exact ⟨(sN H L i, y), (HL.out.mem _ _).1 hy, rfl⟩
        rw [h1])
    have d9 : W.cell? ⟨b9, 0, none⟩ = some fv := by rw [HF.out.c9.cell]; rfl
    clear hf hS
    go_wp2_with fail
    refine HSO.out.mono ?_
    rintro e W6 ⟨rfl, js, hperm, hpw, hrow6, hgr6⟩
    have HTR := hide (HTI.out js hperm hpw)
    have hown : ∀ k, fv.ownBlock = some k → B ≤ k ∧ ∃ cs, Blk W k 43 cs := fun k hk => ⟨row_ge HF.out.row hk, row_lies HF.out.row hk⟩
    have HB6 : Hid (Below w.heap.size w W6) := hide (HF.out.bel.grown hgr6 HF.out.bel.size (fun r e => by have := (hown r e).1; omega))
    have HDK : Hid (W6.heap[Dk]? = some (.deferred (some []))) := hide ((hgr6.block Dk (Array.getElem?_eq_some_iff.1 hK2).1 (fun e => by
      obtain ⟨_, cs, hc⟩ := hown Dk e.symm
      unfold Blk at hc
      rw [hK2] at hc
      cases hc)).trans hK2)
    have c96 : Blk W6 b9 136 [fv] := HF.out.c9.same (hgr6.block b9 HF.out.c9.lt (fun e => by have := (hown b9 e.symm).1; have := HF.out.l9.2.1; omega))
    have d96 : W6.cell? ⟨b9, 0, none⟩ = some fv := by rw [c96.cell]; rfl
    have hDw : w.heap.size ≤ Dk := by have := G5.out.bel.size; omega
    have hjl : js.length = is.length := hperm.length_eq
    have HRW := hide hrow6
    have HLN : Hid (js.length ≤ 1000000) := hide (by rw [hjl]; exact hlen)
    obtain ⟨fa, fc, hfv⟩ := row_slice hrow6
    subst hfv
    clear hperm hpw hrow6 hgr6 hown c96 d9 hK2 HSO HTI hjl hlen
    generalize hm : js.length = m at *
    have HM := hide hm
    clear hm
    go_wp2
    go_loopw [13, 53] (fun o i wr => ∃ k : Nat, i = .int .i64 (k : Int) ∧ k ≤ m ∧ Hid (wr.ownsRow W6.heap.size 9 1 o k ((js.take k).map fun i => .string (sN H L i))) ∧ Hid (Below W6.heap.size W6 wr)) (fun _ i _ => m - (intOf i).toNat)
    case atStart => exact ⟨0, rfl, Nat.zero_le _, hide (World.ownsRow_nil _ _ _ _), hide (Below.refl _ _)⟩
    case round =>
      obtain ⟨k, rfl, hk, HO, HBW⟩ := hrel
      have hm9 : m ≤ 1000000 := by have h1 := HLN.out; have h2 := HM.out; omega
      by_cases hlt : k < m
      · have hlti : (k : Int) < (m : Int) := by omega
        have hkj : k < js.length := by rw [HM.out]; exact hlt
        obtain ⟨g, cap, cs, e1, hg, hcs, hcl⟩ := row_at HRW.out (by omega)
        injection e1 with e1 e2 e3
        subst e1 e3
        have hix := vw_at roT g m fc k hlt
        obtain ⟨q, hq⟩ : ∃ q, js[k]? = some q := ⟨_, List.getElem?_eq_getElem hkj⟩
        have hcq : (cs.drop (k * 4)).take 4 = c4 (H : Int) (L : Int) (q : Int) (P : Int) := tlC_in HM.out hcs hq
        have htf : tFB H L q = true := ((HTR.out.mem q).1 (List.mem_of_getElem? hq)).1
        have HG := hide (hg.on HBW.out)
        have HQ := hide hq
        have HTP := hide (fun (v : World) (hv : Below wr.heap.size wr v) => tpath_any H L q P HP.out htf v (HE.out.below ((HB6.out.trans (HBW.out.mono HB6.out.size)).trans (hv.mono (Nat.le_trans HB6.out.size HBW.out.size)))).pt)
        clear hg hcs hcl hq htf
        go_wp2_with (first | (refine step_load wT rfl rfl HG.out _ rfl hcq ?_) | (refine step_alloc zT rfl ?_; intro w1 g1 hg1 hle1 hb1; have HG1 := hide hg1; have HB1 := hide hb1; have HL1 := hide hle1; clear hg1 hle1 hb1) | (refine step_storeA wT rfl rfl rfl HG1.out rfl (One.c4 _ _ _ _) rfl ?_; intro w2 hg2 hbut2; have HG2 := hide hg2; have HB2 := hide (HB1.out.trans (hbut2.below HL1.out)); clear hg2 hbut2) | (refine step_loadA wT rfl rfl HG2.out rfl ?_) | (go_at_call 66; refine (HTP.out _ HB2.out).mono ?_; rintro r w3 ⟨rfl, hb3⟩; have HB3 := hide (HB2.out.trans (hb3.mono HB2.out.size)); clear hb3) | (refine step_oneS rfl rfl ?_; intro w4 v4 hv4 hb4; have HB4 := hide (HB3.out.trans (hb4.mono HB3.out.size)); have V4 := hide hv4; have O4 := hide (row_on HO.out HB4.out); clear hb4 hv4) | (refine step_appV rSt rfl rfl rfl O4.out V4.out (fun x hx => by simp at hx; subst hx; rfl) (by have := HLN.out; have := HM.out; omega) (Nat.le_trans HBW.out.size HB4.out.size) ?_; intro v5 w5' hv5 hgr5 hat5; have HB5 : Hid (Below W6.heap.size W6 w5') := hide ((HBW.out.trans (HB4.out.mono HBW.out.size)).trans (grown_below hgr5 (fun k hk => row_ge O4.out hk) (Nat.le_trans HBW.out.size HB4.out.size))); have O5 : Hid (w5'.ownsRow W6.heap.size 9 1 v5 (k + 1) ((js.take (k + 1)).map fun i => .string (sN H L i))) := hide (by rw [takeQ HQ.out, List.map_append]; exact hv5); clear hv5 hgr5 hat5))
        go_roundw
        case rel => exact ⟨k + 1, by go_num, by omega, O5, HB5⟩
        case measure => simp only [intOf]; omega
      · have hlti : ¬ (k : Int) < (m : Int) := by omega
        have hkm : k = m := by omega
        subst hkm
        have hfin := HO.out
        rw [List.take_of_length_le (by rw [HM.out]; exact Nat.le_refl _)] at hfin
        have HFIN := hide hfin
        have HDW : Hid (wr.heap[Dk]? = some (.deferred (some []))) := hide ((HBW.out.block Dk (Array.getElem?_eq_some_iff.1 HDK.out).1).trans HDK.out)
        have HBE := hide (HB6.out.trans (HBW.out.mono HB6.out.size))
        clear hfin
        go_wp2
        refine ⟨by simp, .inl ⟨_, _, rfl, run_takeDeferred HDW.out, ?_⟩⟩
        refine ⟨_, by simp [results, Tryz.f38, go_sem]; rfl, ?_⟩
        refine ⟨_, rfl, js, HTR.out, ?_, HBE.out.trans (belowK_b (w := w) (Nat.le_refl _) _ Dk _ (.deferred none) (by omega) HDW.out rfl rfl), by have h1 := HLN.out; have h2 := HM.out; omega⟩
        rw [HM.out]
        exact rowQ_mono (row_same HFIN.out (fun k e => by
          obtain ⟨cs, hc⟩ := row_lies HFIN.out e
          exact (hc.ck (CK.put (.deferred none) HDW.out rfl)).trans hc.symm)) HB6.out.size

end Go.Proofs.YtlgcjdgcgnlcaaaGreatDoor

/-
  Trim: the files behind are removed, the one that the digest lies in is cut.
-/
namespace Go.Proofs.YtlgcjdgcgnlcaaaGreatDoor
open Go.RowKit Go.Shelf
set_option linter.unusedVariables false
set_option linter.unusedSimpArgs false
set_option maxRecDepth 100000

/-- What Trim tells where the digest is there. -/
def tmE (H L n : Nat) (rs : List Rw) (is : List Nat) : Int := if n % 2 ^ H = 0 then 0 else cuE (trR H L rs is) (sN H L (n / 2 ^ H)) (((n % 2 ^ H) * 32 : Nat) : Int)
theorem Cn.cutAt {F : ByteArray → Option (List Int)} (hF : Nmd F) {h l c n : Nat} (k : Cn F h l c) (hn : n ≤ c) (h0 : n % 2 ^ h ≠ 0) : tFB h l (n / 2 ^ h) = true ∧ 32 * (n % 2 ^ h) ≤ (fl F (sN h l (n / 2 ^ h))).length := by
  have hp := Nat.two_pow_pos h
  have e := Nat.div_add_mod n (2 ^ h)
  have hm := Nat.mod_lt n hp
  have hj := k.1 (2 ^ h * (n / 2 ^ h) + (n % 2 ^ h - 1)) (by omega)
  unfold hasD at hj
  rw [Nat.mul_add_mod, Nat.mul_add_div hp, Nat.mod_eq_of_lt (show n % 2 ^ h - 1 < 2 ^ h by omega), Nat.div_eq_of_lt (show n % 2 ^ h - 1 < 2 ^ h by omega)] at hj
  simp only [decide_eq_true_eq, Nat.add_zero] at hj
  rw [show n % 2 ^ h - 1 + 1 = n % 2 ^ h by omega] at hj
  refine ⟨?_, by omega⟩
  cases hb : tFB h l (n / 2 ^ h) with
  | true => rfl
  | false =>
    rw [fl_none (hF _ (sN_no hb))] at hj
    simp at hj
    omega
theorem trR_fE {H L n k q : Nat} {js : List Nat} {rs : List Rw} (hi : TrI (play rs) H L n js) (hq : js[k]? = some q) : fE (trR H L rs (js.take k)) (sN H L q) = 0 := by
  obtain ⟨h1, h2, _⟩ := (hi.mem q).1 (List.mem_of_getElem? hq)
  have hnot : sN H L q ∉ (js.take k).map (sN H L) := by
    intro hm
    obtain ⟨i, hi2, he⟩ := List.mem_map.1 hm
    have e3 := (sN_inj h1 he.symm).2.2
    obtain ⟨j, hj, e⟩ := List.mem_iff_getElem.1 hi2
    rw [List.getElem_take] at e
    rw [List.length_take] at hj
    obtain ⟨hk, e2⟩ := List.getElem?_eq_some_iff.1 hq
    have := List.pairwise_iff_getElem.1 hi.desc j k (by omega) hk (by omega)
    omega
  obtain ⟨ys, hy⟩ := Option.isSome_iff_exists.1 h2
  have hp := (trR_play H L rs (js.take k) (sN H L q)).2 hnot
  rw [hy] at hp
  simp [fE, sN_nm h1, hp]
theorem wt_rm (H L : Nat) : ∀ is : List Nat, wt (is.map fun i => rRm (sN H L i)) ≤ is.length
  | [] => by simp [wt]
  | i :: t => by
    have := wt_rm H L t
    rw [List.map_cons, ← List.singleton_append, wt_app, List.length_cons]
    have e : wt [rRm (sN H L i)] ≤ 1 := by simp [wt, rRm]
    omega
theorem trR_wt (H L : Nat) (rs : List Rw) (is : List Nat) : wt (trR H L rs is) ≤ wt rs + is.length := by
  unfold trR
  rw [wt_app]
  have := wt_rm H L is
  omega
set_option maxHeartbeats 2000000 in
theorem trim_ok (d s : Nat) (rs : List Rw) (D : Dm) (ls : List (ByteArray × List Int)) (H L c n : Nat) (w0 w : World) (he0 : EV w0) (hb0 : Below w0.heap.size w0 w) (hown : ∀ k, D.own d k → w0.heap.size ≤ k) (hd : DkAt w d s rs D) (hl : FL (play rs) ls) (hv : tFB H L 0 = true) (hc : Cn (play rs) H L c) (hn : n ≤ c) (hn2 : n ≤ 1099511627776) (hls : ls.length ≤ 1000000) (hwt : wt rs + 1000002 ≤ 1099511000000) :
    Calls Tryz.prog 11 #[.pointer (some ⟨d, 0, none⟩), .int .i64 (H : Int), .int .i64 (L : Int), .int .i64 (n : Int)] w fun r w' => ∃ is, TrI (play rs) H L n is ∧ r = .returned (.int .i64 (tmE H L n rs is)) ∧ OpR w w' d s D (trS H L n rs is) := by
  have hh := (tFB_is hv).1
  have hLb := (tFB_bd hv).2.2.1
  have e0 : smE (H : Int) (L : Int) 0 = 0 := by
    have h : smB (H : Int) (L : Int) 0 = true := (smB_nat H L 0).trans hv
    unfold smE
    rw [if_pos h]
  have HCU : Hid (∀ W : World, DkAt W d s rs D → PT W → Calls Tryz.prog 17 #[.pointer (some ⟨d, 0, none⟩), .int .i64 (H : Int), .int .i64 (L : Int)] W fun r w' => r = .returned (.tuple #[.int .i64 (c : Int), .int .i64 0]) ∧ Below W.heap.size W w') := hide (fun W h1 h2 => by
    have := scount_any d s rs D W h1 (H : Int) (L : Int) c (by omega) h2 (fun _ => hc) (by omega)
    rw [e0] at this
    exact this)
  have HBH : Hid (∀ W : World, DkAt W d s rs D → EV W → Calls Tryz.prog 38 #[.pointer (some ⟨d, 0, none⟩), .int .i64 (H : Int), .int .i64 (L : Int), .int .i64 (n : Int)] W fun e w' => ∃ v js, e = .returned v ∧ TrI (play rs) H L n js ∧ w'.ownsRow W.heap.size 9 1 v js.length (js.map fun i => .string (sN H L i)) ∧ Below W.heap.size W w' ∧ js.length ≤ 1000000) := hide (fun W h1 h2 => behind_any d s rs D ls H L n W h1 hl hv hn2 h2 (by omega) hls)
  have HCT : Hid (n % 2 ^ H ≠ 0 → tFB H L (n / 2 ^ H) = true ∧ 32 * (n % 2 ^ H) ≤ (fl (play rs) (sN H L (n / 2 ^ H))).length) := hide (fun h0 => hc.cutAt (Nmd.play hd.valS) hn h0)
  have HD := hide hd
  have HE := hide (he0.below hb0)
  have HPT : Hid (∀ (W : World) (rs' : List Rw), OpR w W d s D rs' → PT W) := hide (fun W rs' h => by
    obtain ⟨D', _, h2, _, _⟩ := h
    exact he0.pt.below (hb0.trans (h2.below (fun q hq hq2 => by have := hown q hq2; omega) hb0.size)))
  have HW := hide hwt
  have hnc : ¬ (c : Int) < (n : Int) := by omega
  have hn0 : ¬ (n : Int) < 0 := by omega
  have HNM : Hid (∀ (W : World) (q : Nat), q ≤ n → tFB H L q = true → PT W → Calls Tryz.prog 32 #[.int .i64 (H : Int), .int .i64 (L : Int), .int .i64 (q : Int)] W fun r w' => r = .returned (.tuple #[.string (sN H L q), .int .i64 0]) ∧ Below W.heap.size W w') := hide (fun W q hq hb hp => by
    have e1 : smE (H : Int) (L : Int) (q : Int) = 0 := by
      have h : smB (H : Int) (L : Int) (q : Int) = true := (smB_nat H L q).trans hb
      unfold smE
      rw [if_pos h]
    have e2 := smP_nat H L q
    have := sname_any (H : Int) (L : Int) (q : Int) W (by omega) (by omega) hp
    rw [e1, e2] at this
    exact this)
  clear hd he0 hb0 hown hwt hl hls hc e0
  go_enter Tryz.func11, Tryz.ntmps11
  go_wp2_with fail
  refine (HCU.out _ HD.out HE.out.pt).mono ?_
  rintro r w2 ⟨rfl, hb2⟩
  have HB2 := hide hb2
  clear hb2
  go_wp2_with fail
  refine (HBH.out _ (HD.out.below HB2.out) (HE.out.below HB2.out)).mono ?_
  rintro r w3 ⟨v, js, rfl, htr, hrow, hb3, hjs⟩
  have HB3 := hide (on_below HB2.out hb3)
  have HTR := hide htr
  have HRW := hide hrow
  have HJS := hide hjs
  obtain ⟨a, cp, hv2⟩ := row_slice hrow
  subst hv2
  clear htr hrow hjs hb3
  generalize hm : js.length = m at *
  have HM := hide hm
  have hm1 : m ≤ 1000000 := by have h1 := HJS.out; first | exact h1 | (rw [hm] at h1; exact h1)
  clear hm
  go_wp2
  go_loopw [39] (fun p wr => ∃ i : Nat, i ≤ m ∧ p = .int .i64 (i : Int) ∧ Hid (OpR w3 wr d s D (trR H L rs (js.take i)))) (fun p _ => m - (intOf p).toNat)
  case atStart => exact ⟨0, Nat.zero_le _, rfl, hide (by rw [List.take_zero, trR_nil]; exact OpR.refl (HD.out.below HB3.out))⟩
  case round =>
    obtain ⟨k, hk, rfl, HOP⟩ := hrel
    by_cases hlt : k < m
    · have hlti : (k : Int) < (m : Int) := by omega
      have hkj : k < js.length := by rw [HM.out]; exact hlt
      obtain ⟨D1, o1, o2, o3, o4⟩ := HOP.out
      obtain ⟨g, cap, cs, e1, hg, hcs, hcl⟩ := row_at HRW.out (by omega)
      injection e1 with e1 e2 e3
      subst e1 e3
      have hix := vw_at rSt g m cp k hlt
      obtain ⟨q, hq⟩ : ∃ q, js[k]? = some q := ⟨_, List.getElem?_eq_getElem hkj⟩
      have hnown : ¬ D.own d g := fun h => by
        have h1 := HD.out.lt (.inl h)
        have h2 := row_ge HRW.out (k := g) rfl
        have h3 := HB2.out.size
        omega
      have hc : wr.cell? ⟨g, k, none⟩ = some (.string (sN H L q)) := by
        rw [(hg.same (o2.block g hg.lt hnown)).cell]
        have h1 : (cs.take (m * 1))[k]? = some (.string (sN H L q)) := by
          rw [hcs, List.getElem?_map, hq]
          rfl
        rw [List.getElem?_take, if_pos (by omega)] at h1
        exact h1
      have HRMV := hide (remove_any d s (trR H L rs (js.take k)) D1 wr o1 (sN H L q) (by
        have h1 := trR_wt H L rs (js.take k)
        rw [List.length_take] at h1
        have h2 := HW.out
        have h3 := HJS.out
        omega))
      have hfe := trR_fE HTR.out hq
      have hrs : rmS (trR H L rs (js.take k)) (sN H L q) = trR H L rs (js.take (k + 1)) := by
        rw [takeQ hq, trR_snoc]
        unfold rmS
        rw [if_pos hfe]
      rw [hfe, hrs] at HRMV
      have HO := hide (And.intro o2 (And.intro o3 o4))
      clear hcs hcl hq hg hfe hrs o1 o2 o3 o4 hnown
      go_wp2_with fail
      refine HRMV.out.mono ?_
      rintro r w4 ⟨rfl, ho⟩
      have HO4 := hide (OpR.comp HO.out.1 HO.out.2.1 HO.out.2.2 ho)
      clear ho HRMV
      go_wp2
      go_roundw
      case rel => exact ⟨k + 1, by omega, by go_num, HO4⟩
      case measure => simp only [intOf]; omega
    · have hlti : ¬ (k : Int) < (m : Int) := by omega
      have hkm : k = m := by omega
      subst hkm
      have hfin := HOP.out
      rw [List.take_of_length_le (by rw [HM.out]; exact Nat.le_refl _)] at hfin
      have HFIN := hide (OpR.pre HB3.out hfin)
      clear hfin
      obtain ⟨P, HP⟩ : ∃ P, Hid (2 ^ H = P) := ⟨_, hide rfl⟩
      have hP := hh.pow
      have HWP := hide (wrap_pow hh HP.out)
      rw [HP.out] at hP HCT
      obtain ⟨r, HR⟩ : ∃ r, Hid (n % P = r) := ⟨_, hide rfl⟩
      obtain ⟨q, HQ⟩ : ∃ q, Hid (n / P = q) := ⟨_, hide rfl⟩
      rw [HR.out, HQ.out] at HCT
      have hH8 : (H : Int) ≤ 8 := by have := hh.2; omega
      have hrem : (n : Int).tmod (P : Int) = (r : Int) := by rw [← HR.out]; exact (Int.ofNat_tmod n P).symm
      have hshr : (n : Int) / 2 ^ H = (q : Int) := by rw [← HQ.out, ← HP.out, Int.natCast_ediv, Int.natCast_pow]; rfl
      obtain ⟨hP1, hP2⟩ := hP
      have hr9 : r ≤ 256 := by rw [← HR.out]; have := Nat.mod_lt n (show 0 < P by omega); omega
      have hqn : q ≤ n := by rw [← HQ.out]; exact Nat.div_le_self n P
      by_cases h0 : r = 0
      · have hr0 : (r : Int) = 0 := by omega
        have e1 : tmE H L n rs js = 0 := by unfold tmE; rw [HP.out, HR.out, if_pos h0]
        have e2 : trS H L n rs js = trR H L rs js := by unfold trS; rw [HP.out, HR.out, if_pos h0]
        have HFIN2 := HFIN.out
        rw [← e2] at HFIN2
        have HFI := hide HFIN2
        have HE1 := hide e1
        clear HFIN2 e1 e2 HFIN HCT HNM HOP HRW HM
        go_wp2_with (rw [HWP.out])
        go_ret
        exact ⟨js, HTR.out, by rw [HE1.out]; rfl, HFI.out⟩
      · have hr0 : ¬ (r : Int) = 0 := by omega
        obtain ⟨M, HMM⟩ : ∃ M, Hid (r * 32 = M) := ⟨_, hide rfl⟩
        have e1 : tmE H L n rs js = cuE (trR H L rs js) (sN H L q) (M : Int) := by unfold tmE; rw [HP.out, HR.out, HQ.out, if_neg h0, HMM.out]
        have e2 : trS H L n rs js = cuS (trR H L rs js) (sN H L q) (M : Int) := by unfold trS; rw [HP.out, HR.out, HQ.out, if_neg h0, HMM.out]
        obtain ⟨hq1, hq2⟩ := HCT.out h0
        have HNQ := hide (fun (W : World) (hW : PT W) => HNM.out W q hqn hq1 hW)
        have hmj := HM.out
        clear hq1 hq2 HCT HNM HOP HRW HM
        have HMJ := hide hmj
        clear hmj
        go_wp2_with (rw [HWP.out])
        have hmj := HMJ.out
        refine (HNQ.out _ (HPT.out _ _ HFIN.out)).mono ?_
        rintro e w8 ⟨rfl, hb8⟩
        have HF8 := hide (OpR.post HFIN.out hb8)
        clear hb8 HFIN HNQ
        obtain ⟨D8, d1, d2, d3, d4⟩ := HF8.out
        have HCUT := hide (cut_any d s (trR H L rs js) D8 w8 d1 (sN H L q) (M : Int) (by
          have h1 := trR_wt H L rs js
          have h2 := HW.out
          rw [hmj] at h1
          omega))
        rw [← e1, ← e2] at HCUT
        have HE1 := hide (And.intro d2 (And.intro d3 d4))
        have hrm : (r : Int) * 32 = (M : Int) := by rw [← HMM.out]; omega
        have hM9 : M ≤ 8192 := by rw [← HMM.out]; omega
        clear d1 d2 d3 d4 e1 e2 hmj
        go_wp2_with fail
        refine HCUT.out.mono ?_
        rintro e w9 ⟨rfl, ho9⟩
        have HO9 := hide (OpR.comp HE1.out.1 HE1.out.2.1 HE1.out.2.2 ho9)
        clear ho9
        go_wp2
        go_ret
        exact ⟨js, HTR.out, rfl, HO9.out⟩

end Go.Proofs.YtlgcjdgcgnlcaaaGreatDoor

/-
  The law's filled: a level that was filled from nothing.
-/
namespace Go.Proofs.YtlgcjdgcgnlcaaaGreatDoor
open Go.RowKit Go.Shelf
set_option linter.unusedVariables false
set_option linter.unusedSimpArgs false
set_option maxRecDepth 100000

/-- Digests out of their bytes. -/
def dl (xs : List Int) (n : Nat) : List (List Int) := (List.range n).map (dat xs)
theorem dl_len (xs : List Int) (n : Nat) : (dl xs n).length = n := by simp [dl]
theorem dl_take (xs : List Int) {n k : Nat} (hk : k ≤ n) : (dl xs n).take k = dl xs k := by
  unfold dl
  rw [← List.map_take, List.take_range, Nat.min_eq_left hk]
theorem dl_succ (xs : List Int) (k : Nat) : dl xs (k + 1) = dl xs k ++ [dat xs k] := by simp [dl, List.range_succ]
theorem dl_db {xs : List Int} {n k : Nat} (hl : xs.length = 32 * n) (hb : isB xs) (hk : k ≤ n) : DB (dl xs k) := by
  intro x hx
  unfold dl at hx
  obtain ⟨i, hi, rfl⟩ := List.mem_map.1 hx
  have := List.mem_range.1 hi
  exact ⟨dat_length hl (by omega), dat_isB hb i⟩
theorem dl_get (xs : List Int) {n k : Nat} (hk : k < n) : (dl xs n).getD k [] = dat xs k := by
  simp [dl, List.getD, hk]
theorem DB.rev {t : List (List Int)} (h : DB t) : DB t.reverse := fun x hx => h x (List.mem_reverse.1 hx)
theorem smE_low {H i : Nat} (hh : isH H) (k : (i + 1) * 2 ^ H ≤ 281474976710656) : smE (H : Int) 0 (i : Int) = 0 := by
  unfold smE
  have := smB_nat H 0 i
  rw [show ((0 : Nat) : Int) = 0 from rfl] at this
  rw [if_pos (this.trans (tFB_low hh k))]
theorem smP_low (H i : Nat) : bA (smP (H : Int) 0 (i : Int)) = sN H 0 i := smP_nat H 0 i
theorem quoN (n H : Nat) : (n : Int) / 2 ^ ((H : Int)).toNat = ((n / 2 ^ H : Nat) : Int) := by
  rw [Int.toNat_natCast, Int.natCast_ediv, Int.natCast_pow]; rfl
/-- Put on a level that was filled. -/
theorem put_fs {s H : Nat} (hs : 1 ≤ s) (hh : isH H) (t : List (List Int)) (ht : DB t) (hn : t.length + 1 ≤ 1099511627776) (x : List Int) :
    puE (rsR s H t) (H : Int) 0 (t.length : Int) t.length = 0 ∧ puS s (rsR s H t) (H : Int) 0 (t.length : Int) t.length x = rsR s H (x :: t) ∧ Cn (play (rsR s H t)) H 0 t.length ∧ wt (rsR s H t) ≤ 66 * t.length := by
  obtain ⟨h1, h2, h3⟩ := rsR_is hs hh t ht (by omega)
  have h32 : D32 t.reverse := fun y hy => (ht y (List.mem_reverse.1 hy)).1
  have hlr : t.reverse.length = t.length := List.length_reverse
  have hcn := h2.cn hh h32 (by rw [hlr]; omega)
  have hnx := h2.next hh h32 (by rw [hlr]; omega)
  rw [hlr] at hcn hnx
  have hp := hh.pow
  have hq := Nat.div_mul_le_self t.length (2 ^ H)
  have e0 : smE (H : Int) 0 0 = 0 := smE_low (i := 0) hh (by omega)
  have eq : smE (H : Int) 0 ((t.length : Int) / 2 ^ ((H : Int)).toNat) = 0 := by
    rw [quoN]
    exact smE_low hh (by rw [Nat.add_mul, Nat.one_mul]; omega)
  have en : bA (smP (H : Int) 0 ((t.length : Int) / 2 ^ ((H : Int)).toNat)) = sN H 0 (t.length / 2 ^ H) := by rw [quoN, smP_low]
  have ep : puE (rsR s H t) (H : Int) 0 (t.length : Int) t.length = 0 := by
    unfold puE
    rw [if_pos e0, if_pos eq, if_pos rfl, en]
    unfold reE
    rw [hnx.1, if_pos (by omega)]
  refine ⟨ep, ?_, hcn, h3⟩
  unfold puS
  rw [ep, if_pos rfl, en]
  rfl
/-- What filled leaves. -/
def FilR (w w' : World) (s H : Nat) (ds : List (List Int)) (r : Ending) : Prop :=
  ∃ d D, r = .returned (.pointer (some ⟨d, 0, none⟩)) ∧ DkAt w' d s (rsR s H ds.reverse) D ∧ Below w.heap.size w w' ∧ ∀ k, D.own d k ∨ D.ro k → w.heap.size ≤ k
set_option maxHeartbeats 2000000 in
theorem filled_6 (H : Nat) (a : Option Addr) (len cap : Nat) (xs : List Int) (w : World) (hs : Ds w a len cap xs) (hh : isH H) (hlen : len ≤ 1048576) (ht : PT w) :
    Calls Tryz.prog 20 #[.int .i64 5, .int .i64 (H : Int), .int .i64 0, .slice a len cap] w fun r w' => FilR w w' 6 H (dl xs len) r := by
  have HS := hide hs
  have HT := hide ht
  have HH := hide hh
  have hH8 : (H : Int) ≤ 8 := by have := hh.2; omega
  have hxl := hs.hlen
  have hxb := hs.hbyte
  have HPU : Hid (∀ (k : Nat), k < len → ∀ (W : World) (d : Nat) (D : Dm), DkAt W d 6 (rsR 6 H (dl xs k).reverse) D → PT W → Calls Tryz.prog 9 #[.pointer (some ⟨d, 0, none⟩), .int .i64 (H : Int), .int .i64 0, .int .i64 (k : Int), .agg (u8s (dat xs k)).toArray] W fun r w' => r = .returned (.int .i64 0) ∧ OpR W w' d 6 D (rsR 6 H (dl xs (k + 1)).reverse)) := hide (fun k hk W d D hW hP => by
    have hdb := (dl_db hxl hxb (show k ≤ len by omega)).rev
    obtain ⟨p1, p2, p3, p4⟩ := put_fs (s := 6) (by decide) hh (dl xs k).reverse hdb (by rw [List.length_reverse, dl_len]; omega) (dat xs k)
    rw [List.length_reverse, dl_len] at p1 p2 p3 p4
    have := put_any d 6 (rsR 6 H (dl xs k).reverse) D W hW (H : Int) 0 (k : Int) k (dat xs k) (by decide) (by omega) (dat_length hxl hk) (dat_isB hxb k) hP (fun _ => p3) (by omega)
    rw [p1, p2] at this
    rw [dl_succ, List.reverse_append]
    exact this)
  clear hs ht hh hxl hxb
  go_enter Tryz.func20, Tryz.ntmps20
  go_wp2_with fail
  refine (new_ok 6 w (by decide) (by decide)).mono ?_
  rintro r w1 ⟨d, m, rfl, hN⟩
  have HD1 := hide (New0.dkAt (s := 6) hN (by decide) (by decide))
  have HB1 := hide hN.bel
  have HO1 : Hid (∀ k, (⟨m, .slice none 0 0, [], []⟩ : Dm).own d k ∨ (⟨m, .slice none 0 0, [], []⟩ : Dm).ro k → w.heap.size ≤ k) := hide (fun k hk => by
    rcases hk with hk | ⟨x, hx, _⟩
    · exact hN.own k hk
    · cases hx)
  clear hN
  go_wp2_with fail
  go_loopw [11] (fun p wr => ∃ (k : Nat) (D : Dm), k ≤ len ∧ p = .int .i64 (k : Int) ∧ Hid (DkAt wr d 6 (rsR 6 H (dl xs k).reverse) D) ∧ Hid (Below w.heap.size w wr) ∧ Hid (∀ q, D.own d q ∨ D.ro q → w.heap.size ≤ q)) (fun p _ => len - (intOf p).toNat)
  case atStart => exact ⟨0, _, Nat.zero_le _, rfl, HD1, HB1, HO1⟩
  case round =>
    clear HD1 HB1 HO1
    obtain ⟨k, D, hk, rfl, HD, HB, HO⟩ := hrel
    by_cases hlt : k < len
    · have hlti : (k : Int) < (len : Int) := by omega
      have hsw := HS.out.below HB.out
      obtain ⟨b, o, rfl⟩ := hsw.place (by omega)
      have hix := d_at b o len cap k (k : Int) rfl hlt
      have HR := hide (hsw.range k hlt)
      have HUL : Hid ((u8s (dat xs k)).length = 32) := hide (by rw [u8s_length, dat_length HS.out.hlen hlt])
      have HP := hide (HPU.out k hlt wr d D HD.out (HT.out.below HB.out))
      clear hsw
      go_wp2_with (refine step_loadR wDs rfl rfl _ HR.out HUL.out ?_)
      refine HP.out.mono ?_
      rintro r w5 ⟨rfl, D', a1, a2, a3, a4⟩
      have HD5 := hide a1
      have HB5 : Hid (Below w.heap.size w w5) := hide (HB.out.trans (a2.below (fun q hq hown => by have := HO.out q (.inl hown); omega) HB.out.size))
      have HO5 : Hid (∀ q, D'.own d q ∨ D'.ro q → w.heap.size ≤ q) := hide (fun q hq => by
        have hsz := HB.out.size
        rcases hq with hq | hq
        · rcases a3 q hq with h | h
          · exact HO.out q (.inl h)
          · omega
        · rcases a4 q hq with h | h
          · exact HO.out q (.inr h)
          · omega)
      clear a1 a2 a3 a4 hix HR HP HD HB HO
      go_wp2
      go_roundw
      case rel => exact ⟨k + 1, D', by omega, by go_num, HD5, HB5, HO5⟩
      case measure => simp only [intOf]; omega
    · have hlti : ¬ (k : Int) < (len : Int) := by omega
      obtain rfl : k = len := by omega
      go_wp2
      go_ret
      exact ⟨d, D, rfl, HD.out, HB.out, HO.out⟩

end Go.Proofs.YtlgcjdgcgnlcaaaGreatDoor

/-
  What Put's raw writes are; the law's height.
-/
namespace Go.Proofs.YtlgcjdgcgnlcaaaGreatDoor
open Go.RowKit Go.Shelf
set_option linter.unusedVariables false
set_option linter.unusedSimpArgs false
set_option maxRecDepth 100000

/-- How many bytes raw writes bear. -/
def rwB (rs : List Rw) : Nat := (rs.map fun r => r.b.length).sum
theorem rwB_app (a b : List Rw) : rwB (a ++ b) = rwB a + rwB b := by simp [rwB]
theorem expK_B (s : Nat) (e : En) : ∀ k, rwB (expK s e k) = edge s e k
  | 0 => by
    show 0 = edge s e 0
    exact (edge_zero _ _ _).symm
  | k + 1 => by
    have h1 : edge s e k ≤ edge s e (k + 1) := edge_mono _ _ _ (Nat.le_succ k)
    have h2 : edge s e (k + 1) ≤ e.r.b.length := Nat.min_le_right _ _
    rw [expK_succ, rwB_app, expK_B s e k]
    have h3 : rwB [pieces s e k (k + 1)] = edge s e (k + 1) - edge s e k := by
      simp only [rwB, List.map_cons, List.map_nil, List.sum_cons, List.sum_nil, Nat.add_zero, pieces, List.length_take, List.length_drop]
      omega
    omega
/-- Put's raw writes are to its file, of two kinds, and bear the digest's bytes. -/
theorem puW_raws {s : Nat} (hs : 1 ≤ s) (rs : List Rw) {n : ByteArray} (hn : nmB n = true) {x : List Int} (h0 : x ≠ []) : ∃ Z, puW s rs n x = rs ++ Z ∧ (∀ z ∈ Z, z.n = n ∧ (z.k = 1 ∨ z.k = 2)) ∧ rwB Z = x.length := by
  have key : ∀ qs : List Rw, (∃ ys, play qs n = some ys) → ∃ Z, apS s qs n x = qs ++ Z ∧ (∀ z ∈ Z, z.n = n ∧ (z.k = 1 ∨ z.k = 2)) ∧ rwB Z = x.length := by
    rintro qs ⟨ys, hys⟩
    have e0 : fE qs n = 0 := by simp [fE, hn, hys]
    refine ⟨expd s ⟨rAp n x, qs.length, (fl (play qs) n).length⟩, by unfold apS; rw [if_pos ⟨e0, h0⟩], fun z hz => ?_, ?_⟩
    · unfold expd expK at hz
      obtain ⟨i, _, rfl⟩ := List.mem_map.1 hz
      exact ⟨rfl, .inr rfl⟩
    · unfold expd
      rw [expK_B]
      have : cnt s ⟨rAp n x, qs.length, (fl (play qs) n).length⟩ = cntN s (fl (play qs) n).length x.length := rfl
      rw [this]
      exact edge_cnt hs (Nat.le_refl _)
  unfold puW
  rw [crS_is hn]
  by_cases hf : play rs n = none
  · rw [if_pos hf]
    have e2 : play (rs ++ [rCr n]) = upd (play rs) n (some []) := by rw [play_snoc, do_cr]
    obtain ⟨Z, h1, h2, h3⟩ := key (rs ++ [rCr n]) ⟨[], by rw [e2, upd_same]⟩
    refine ⟨rCr n :: Z, by rw [h1, List.append_assoc]; rfl, fun z hz => ?_, ?_⟩
    · rcases List.mem_cons.1 hz with rfl | hz
      · exact ⟨rfl, .inl rfl⟩
      · exact h2 z hz
    · have e3 : rCr n :: Z = [rCr n] ++ Z := rfl
      rw [e3, rwB_app, h3]
      simp [rwB, rCr]
  · rw [if_neg hf]
    exact key rs (by
      cases h : play rs n with
      | none => exact absurd h hf
      | some ys => exact ⟨ys, rfl⟩)
theorem mod_cutS (q : Int) (N : Nat) (hN : N ≤ 1099511000000) : ∃ c : Nat, (wrap64 (q.tmod ((N + 1 : Nat) : Int) + ((N + 1 : Nat) : Int))).tmod ((N + 1 : Nat) : Int) = (c : Int) ∧ c ≤ N := by
  have hp : (0 : Int) < ((N + 1 : Nat) : Int) := by omega
  have h1 := Int.tmod_lt_of_pos q hp
  have h2 := Int.lt_tmod_of_pos q hp
  generalize q.tmod ((N + 1 : Nat) : Int) = r at *
  have hw : wrap64 (r + ((N + 1 : Nat) : Int)) = r + ((N + 1 : Nat) : Int) := by unfold wrap64; omega
  rw [hw]
  have h4 : 0 ≤ (r + ((N + 1 : Nat) : Int)).tmod ((N + 1 : Nat) : Int) := Int.tmod_nonneg _ (by omega)
  have h5 := Int.tmod_lt_of_pos (r + ((N + 1 : Nat) : Int)) hp
  exact ⟨((r + ((N + 1 : Nat) : Int)).tmod ((N + 1 : Nat) : Int)).toNat, by omega, by omega⟩
theorem ht14 (h : Int) : ∃ H : Nat, wrap64 (1 + (wrap64 (h.tmod 8 + 8)).tmod 8) = (H : Int) ∧ isH H := by
  obtain ⟨c, h1, h2⟩ := mod_cutS h 7 (by omega)
  have e : ((7 + 1 : Nat) : Int) = 8 := rfl
  rw [e] at h1
  rw [h1]
  exact ⟨c + 1, by unfold wrap64; omega, by omega, by omega⟩
theorem height_any (h : Int) : ∃ H : Nat, isH H ∧ ∀ w : World, Calls Tryz.prog 19 #[.int .i64 h] w fun r w' => r = .returned (.int .i64 (H : Int)) ∧ w' = w := by
  obtain ⟨H, h1, h2⟩ := ht14 h
  refine ⟨H, h2, fun w => ?_⟩
  have H1 := hide h1
  clear h1 h2
  go_enter Tryz.func19, Tryz.ntmps19
  go_wp2
  go_ret
  refine ⟨?_, rfl⟩
  rw [← H1.out]
  rfl

end Go.Proofs.YtlgcjdgcgnlcaaaGreatDoor

/-
  What ShelfPower's walk asks of files: how many there are, what a Trim behind a loss of power tells, and what Puts behind it leave.
-/
namespace Go.Proofs.YtlgcjdgcgnlcaaaGreatDoor
open Go.RowKit Go.Shelf
set_option linter.unusedVariables false
set_option linter.unusedSimpArgs false
set_option maxRecDepth 100000

theorem FL.upd_ex {f : ByteArray → Option (List Int)} {l : List (ByteArray × List Int)} (h : FL f l) (n : ByteArray) (v : Option (List Int)) : ∃ l', FL (upd f n v) l' := by
  obtain ⟨A, B, rfl, _, hA, hc⟩ := h.split n
  cases v with
  | some xs =>
    rcases hc with ⟨_, hB⟩ | ⟨ys, B', _, rfl, hB⟩
    · exact ⟨_, h.put hA hB xs⟩
    · exact ⟨_, h.set hA hB xs⟩
  | none =>
    rcases hc with ⟨h0, hB⟩ | ⟨ys, B', _, rfl, hB⟩
    · exact ⟨_, by rw [← h0, upd_self]; exact h⟩
    · exact ⟨_, h.turn hA hB⟩
theorem FL.do_ex {f : ByteArray → Option (List Int)} {l : List (ByteArray × List Int)} (h : FL f l) (r : Rw) : ∃ l', FL (doR f r) l' := by
  unfold doR
  split
  · exact h.upd_ex _ _
  · split
    · exact h.upd_ex _ _
    · split
      · exact h.upd_ex _ _
      · split
        · exact h.upd_ex _ _
        · split
          · obtain ⟨l1, h1⟩ := h.upd_ex r.t (some (fl f r.n))
            exact h1.upd_ex _ _
          · exact ⟨l, h⟩
theorem FL.fold_ex : ∀ (rs : List Rw) {f : ByteArray → Option (List Int)} {l : List (ByteArray × List Int)} (h : FL f l), ∃ l', FL (rs.foldl doR f) l'
  | [], f, l, h => ⟨l, h⟩
  | r :: t, f, l, h => by
    obtain ⟨l1, h1⟩ := h.do_ex r
    exact FL.fold_ex t h1
theorem FL.play_ex (rs : List Rw) : ∃ l, FL (play rs) l := FL.fold_ex rs FL.nil
theorem FL.nodup {f : ByteArray → Option (List Int)} {l : List (ByteArray × List Int)} (h : FL f l) : (l.map (·.1)).Nodup := by
  unfold List.Nodup
  rw [List.pairwise_map]
  exact h.srt.imp fun h => blt_ne h
section
variable {F : ByteArray → Option (List Int)} {h : Nat} {ys : List (List Int)}
/-- The files behind a loss of power. -/
theorem TS.names (k : TS F h ys) {n : ByteArray} (hn : F n ≠ none) : ∃ i, i * 2 ^ h ≤ ys.length ∧ n = sN h 0 i := by
  obtain ⟨F0, hF, hc⟩ := k
  have hin : F0 n ≠ none → ∃ i, i * 2 ^ h ≤ ys.length ∧ n = sN h 0 i := fun h0 => by
    by_cases hk : ∃ i, i * 2 ^ h < ys.length ∧ n = sN h 0 i
    · obtain ⟨i, h1, h2⟩ := hk
      exact ⟨i, Nat.le_of_lt h1, h2⟩
    · exact absurd (hF.no n (fun i hi e => hk ⟨i, hi, e⟩)) h0
  rcases hc with rfl | ⟨t, ht, rfl⟩
  · exact hin hn
  · by_cases e : n = sN h 0 (ys.length / 2 ^ h)
    · exact ⟨_, Nat.div_mul_le_self _ _, e⟩
    · rw [upd_ne _ _ e] at hn
      exact hin hn
theorem half_le {i h m : Nat} (hh : isH h) (k : i * 2 ^ h ≤ m) : i ≤ m / 2 := by
  have h2 := hh.pow
  have : i * 2 ≤ i * 2 ^ h := Nat.mul_le_mul_left i (by omega)
  omega
theorem TS.few (k : TS F h ys) (hh : isH h) {l : List (ByteArray × List Int)} (hl : FL F l) : l.length ≤ ys.length / 2 + 1 := by
  have := sub_len (l.map (·.1)) ((List.range (ys.length / 2 + 1)).map (sN h 0)) hl.nodup (fun n hn => by
    obtain ⟨⟨m, xs⟩, h1, rfl⟩ := List.mem_map.1 hn
    have h2 := (hl.mem m xs).2 h1
    obtain ⟨i, h3, h4⟩ := k.names (n := m) (by rw [h2]; simp)
    exact List.mem_map.2 ⟨i, List.mem_range.2 (by have := half_le hh h3; omega), h4.symm⟩)
  simpa using this
theorem TS.few_i (k : TS F h ys) (hh : isH h) {is : List Nat} {n : Nat} (hi : TrI F h 0 n is) : is.length ≤ ys.length / 2 + 1 := by
  have := sub_len is (List.range (ys.length / 2 + 1)) (hi.desc.imp fun h => by omega) (fun i hm => by
    obtain ⟨h1, h2, _⟩ := (hi.mem i).1 hm
    obtain ⟨j, h3, h4⟩ := k.names (n := sN h 0 i) (fun e => by rw [e] at h2; cases h2)
    have e := (sN_inj h1 h4).2.2
    subst e
    exact List.mem_range.2 (by have := half_le hh h3; omega))
  simpa using this
end
/-- A Trim to a number that is there tells no error. -/
theorem tmE_ok {H L c n : Nat} {rs : List Rw} {is : List Nat} (hF : Nmd (play rs)) (k : Cn (play rs) H L c) (hn : n ≤ c) (hi : TrI (play rs) H L n is) : tmE H L n rs is = 0 := by
  unfold tmE
  by_cases h0 : n % 2 ^ H = 0
  · rw [if_pos h0]
  · rw [if_neg h0]
    obtain ⟨h1, h2⟩ := k.cutAt hF hn h0
    have hp := Nat.two_pow_pos H
    have e := Nat.div_add_mod n (2 ^ H)
    have hm := Nat.mod_lt n hp
    rw [Nat.mul_comm] at e
    have hnot : sN H L (n / 2 ^ H) ∉ is.map (sN H L) := fun hm => by
      obtain ⟨i, h3, h4⟩ := List.mem_map.1 hm
      have e2 := (sN_inj h1 h4.symm).2.2
      have := ((hi.mem i).1 h3).2.2
      subst e2
      omega
    have hp2 := (trR_play H L rs is _).2 hnot
    have hfl : fl (play (trR H L rs is)) (sN H L (n / 2 ^ H)) = fl (play rs) (sN H L (n / 2 ^ H)) := by unfold fl; rw [hp2]
    have hs : (play (trR H L rs is) (sN H L (n / 2 ^ H))).isSome = true := by
      rw [hp2]
      cases hc : play rs (sN H L (n / 2 ^ H)) with
      | some _ => rfl
      | none =>
        rw [fl_none hc] at h2
        simp at h2
        omega
    have hfe : fE (trR H L rs is) (sN H L (n / 2 ^ H)) = 0 := by simp [fE, sN_nm h1, hs]
    unfold cuE
    rw [if_pos hfe, hfl, if_neg (by omega)]
theorem trS_wt (H L n : Nat) (rs : List Rw) (is : List Nat) : wt (trS H L n rs is) ≤ wt rs + is.length + 1 := by
  have h1 := trR_wt H L rs is
  unfold trS
  split
  · omega
  · unfold cuS
    split
    · rw [wt_app]
      have e : ∀ m k, wt [rCu m k] = 1 := fun m k => rfl
      rw [e]
      omega
    · omega
/-- Put on a level that is just there. -/
theorem put_fsG {s H : Nat} (hs : 1 ≤ s) (hh : isH H) {rs : List Rw} (hv : Val s (fun _ => none) rs) {ys : List (List Int)} (hF : FS (play rs) H ys) (h32 : D32 ys) (hn : ys.length + 1 ≤ 1099511627776) {x : List Int} (hx : x.length = 32) (hxb : isB x) :
    puE rs (H : Int) 0 (ys.length : Int) ys.length = 0 ∧ Cn (play rs) H 0 ys.length ∧ FS (play (puS s rs (H : Int) 0 (ys.length : Int) ys.length x)) H (ys ++ [x]) ∧ wt (puS s rs (H : Int) 0 (ys.length : Int) ys.length x) ≤ wt rs + 66 := by
  have hcn := hF.cn hh h32 (by omega)
  have hnx := hF.next hh h32 (by omega)
  have hp := hh.pow
  have hq := Nat.div_mul_le_self ys.length (2 ^ H)
  have hQ : tFB H 0 (ys.length / 2 ^ H) = true := tFB_in hh hq (by omega)
  have e0 : smE (H : Int) 0 0 = 0 := smE_low (i := 0) hh (by omega)
  have eq : smE (H : Int) 0 ((ys.length : Int) / 2 ^ ((H : Int)).toNat) = 0 := by
    rw [quoN]
    exact smE_low hh (by rw [Nat.add_mul, Nat.one_mul]; omega)
  have en : bA (smP (H : Int) 0 ((ys.length : Int) / 2 ^ ((H : Int)).toNat)) = sN H 0 (ys.length / 2 ^ H) := by rw [quoN, smP_low]
  have ep : puE rs (H : Int) 0 (ys.length : Int) ys.length = 0 := by
    unfold puE
    rw [if_pos e0, if_pos eq, if_pos rfl, en]
    unfold reE
    rw [hnx.1, if_pos (by omega)]
  obtain ⟨_, h2, h3⟩ := puW_play hs hv (sN_nm hQ) (x := x) (fun e => by rw [e] at hx; simp at hx) hxb
  have es : puS s rs (H : Int) 0 (ys.length : Int) ys.length x = puW s rs (sN H 0 (ys.length / 2 ^ H)) x := by
    unfold puS
    rw [ep, if_pos rfl, en]
  rw [es]
  refine ⟨ep, hcn, ?_, by omega⟩
  rw [h2]
  exact hF.snoc hh h32 hn x

end Go.Proofs.YtlgcjdgcgnlcaaaGreatDoor

/-
  The walk of ShelfPower.
-/
namespace Go.Proofs.YtlgcjdgcgnlcaaaGreatDoor
open Go.RowKit Go.Shelf
set_option linter.unusedVariables false
set_option linter.unusedSimpArgs false
set_option maxRecDepth 100000

theorem DkAt.chS {a b : World} {d s : Nat} {rs : List Rw} {D : Dm} {S : Nat → Prop} (h : DkAt a d s rs D) (hc : Chs S a b) (hn : ∀ k, D.own d k ∨ D.ro k → ¬ S k) : DkAt b d s rs D := h.same (fun k hk => hc.block k (h.lt hk) (hn k hk))
theorem OpR.belowB {w0 w1 w2 : World} {o s : Nat} {D : Dm} {rs : List Rw} (hb : Below w0.heap.size w0 w1) (ho : ∀ k, D.own o k → w0.heap.size ≤ k) (h : OpR w1 w2 o s D rs) : Below w0.heap.size w0 w2 := by
  obtain ⟨D', _, h2, _, _⟩ := h
  exact hb.trans (h2.below (fun q hq hown => by have := ho q hown; omega) hb.size)
/-- What the law's level is behind any of its raw writes. -/
theorem pow_cut {s H : Nat} (hs : 1 ≤ s) (hh : isH H) {xs : List Int} {len : Nat} (hl : xs.length = 32 * len) (hb : isB xs) (hn : len ≤ 1048576) (c : Nat) :
    ∃ m, m ≤ len ∧ TS (play ((rsR s H (dl xs len).reverse).take c)) H (dl xs m) ∧ wt ((rsR s H (dl xs len).reverse).take c) ≤ 66 * len := by
  have hdb := (dl_db hl hb (Nat.le_refl len)).rev
  have hlr : (dl xs len).reverse.length = len := by rw [List.length_reverse, dl_len]
  obtain ⟨j, hj⟩ := rsR_take hs hh (dl xs len).reverse hdb (by omega) c
  have h3 := (rsR_is hs hh (dl xs len).reverse hdb (by omega)).2.2
  rw [hlr] at h3
  rw [List.drop_reverse, List.reverse_reverse, dl_len, dl_take xs (Nat.sub_le len j)] at hj
  exact ⟨len - j, Nat.sub_le _ _, hj, Nat.le_trans (wt_take _ _) h3⟩
set_option maxHeartbeats 4000000 in
theorem power_walk (h : Int) (a : Option Addr) (len cap : Nat) (xs : List Int) (cut : Int) (w : World) (hs : Ds w a len cap xs) (hlen : len ≤ 1048576) (he : EV w) :
    Calls Tryz.prog 5 #[.int .i64 h, .slice a len cap, .int .i64 cut] w fun e w' => e = .returned (.bool true) ∧ Below w.heap.size w w' := by
  obtain ⟨H, hh, hH⟩ := height_any h
  have HHT := hide hH
  have HDS := hide hs
  have HE := hide he
  have hH8 : (H : Int) ≤ 8 := by have := hh.2; omega
  have hxl := hs.hlen
  have hxb := hs.hbyte
  have hdb := (dl_db hxl hxb (Nat.le_refl len)).rev
  have hlr : (dl xs len).reverse.length = len := by rw [List.length_reverse, dl_len]
  obtain ⟨g1, g2, g3⟩ := rsR_is (s := 6) (by decide) hh (dl xs len).reverse hdb (by omega)
  rw [hlr] at g3
  rw [List.reverse_reverse] at g2
  have HFI2 : Hid (∀ W : World, Ds W a len cap xs → PT W → Calls Tryz.prog 20 #[.int .i64 5, .int .i64 (H : Int), .int .i64 0, .slice a len cap] W fun r w' => FilR W w' 6 H (dl xs len) r) := hide (fun W h1 h2 => filled_6 H a len cap xs W h1 hh hlen h2)
  obtain ⟨rs, HRS⟩ : ∃ rs, Hid (rsR 6 H (dl xs len).reverse = rs) := ⟨_, hide rfl⟩
  obtain ⟨N, HN⟩ : ∃ N, Hid (rs.length = N) := ⟨_, hide rfl⟩
  have hNw := len_wt rs
  rw [HRS.out] at g1 g2 g3
  have hN : N ≤ 69206016 := by rw [← HN.out]; omega
  obtain ⟨c, hc1, hc2⟩ := mod_cutS cut N (by omega)
  have ec : ((N + 1 : Nat) : Int) = (N : Int) + 1 := rfl
  rw [ec] at hc1
  obtain ⟨m, hm, hts, hwc⟩ := pow_cut (s := 6) (by decide) hh hxl hxb hlen c
  rw [HRS.out] at hts hwc
  have hml : (dl xs m).length = m := dl_len xs m
  have h32m : D32 (dl xs m) := (dl_db hxl hxb hm).d32
  have HAF : Hid (∀ (W : World) (d : Nat) (D : Dm), DkAt W d 6 rs D → Calls Tryz.prog 22 #[.pointer (some ⟨d, 0, none⟩), .int .i64 (c : Int)] W fun e w' => ∃ o Do, e = .returned (.tuple #[.pointer (some ⟨o, 0, none⟩), .int .i64 0]) ∧ AfR W w' o 6 D (rs.take c) Do) := hide (fun W d D hW => after_any d 6 rs D W hW c (by rw [HN.out]; exact hc2) (by omega))
  have hcn : Cn (play (rs.take c)) H 0 m := by
    have := hts.cn hh h32m (by omega)
    rw [hml] at this
    exact this
  have hV0 : tFB H 0 0 = true := tFB_low hh (by have := hh.pow; omega)
  have HCU : Hid (∀ (W : World) (o : Nat) (Do : Dm), DkAt W o 6 (rs.take c) Do → PT W → Calls Tryz.prog 17 #[.pointer (some ⟨o, 0, none⟩), .int .i64 (H : Int), .int .i64 0] W fun r w' => r = .returned (.tuple #[.int .i64 (m : Int), .int .i64 0]) ∧ Below W.heap.size W w') := hide (fun W o Do hW h2 => by
    have e0 : smE (H : Int) 0 0 = 0 := smE_low (i := 0) hh (by have := hh.pow; omega)
    have := scount_any o 6 (rs.take c) Do W hW (H : Int) 0 m (by decide) h2 (fun _ => hcn) (by omega)
    rw [e0] at this
    exact this)
  have HTM : Hid (∀ (W : World) (o : Nat) (Do : Dm), DkAt W o 6 (rs.take c) Do → Below w.heap.size w W → (∀ k, Do.own o k → w.heap.size ≤ k) → Calls Tryz.prog 11 #[.pointer (some ⟨o, 0, none⟩), .int .i64 (H : Int), .int .i64 0, .int .i64 (m : Int)] W fun r w' => r = .returned (.int .i64 0) ∧ ∃ rs2, OpR W w' o 6 Do rs2 ∧ FS (play rs2) H (dl xs m) ∧ wt rs2 ≤ 70000000 + 66 * m) := hide (fun W o Do hW hbw how => by
    obtain ⟨ls, hls⟩ := FL.play_ex (rs.take c)
    have hfew := hts.few hh hls
    rw [hml] at hfew
    refine (trim_ok o 6 (rs.take c) Do ls H 0 m m w W he hbw how hW hls hV0 hcn (Nat.le_refl _) (by omega) (by omega) (by omega)).mono ?_
    rintro r w' ⟨is, hi, rfl, ho⟩
    have e1 := tmE_ok (Nmd.play hW.valS) hcn (Nat.le_refl _) hi
    have hfi := hts.few_i hh hi
    rw [hml] at hfi
    have hw2 := trS_wt H 0 m (rs.take c) is
    have hfs : FS (play (trS H 0 m (rs.take c) is)) H (dl xs m) := by
      have := hts.trim hh h32m (by omega) (is := is) (by rw [hml]; exact hi)
      rw [hml] at this
      exact this
    exact ⟨by rw [e1], _, ho, hfs, by omega⟩)
  have HPU : Hid (∀ (k : Nat), k < len → ∀ (W : World) (o : Nat) (Do : Dm) (rs2 : List Rw), DkAt W o 6 rs2 Do → FS (play rs2) H (dl xs k) → wt rs2 ≤ 70000000 + 66 * k → PT W → Calls Tryz.prog 9 #[.pointer (some ⟨o, 0, none⟩), .int .i64 (H : Int), .int .i64 0, .int .i64 (k : Int), .agg (u8s (dat xs k)).toArray] W fun r w' => r = .returned (.int .i64 0) ∧ ∃ rs3, OpR W w' o 6 Do rs3 ∧ FS (play rs3) H (dl xs (k + 1)) ∧ wt rs3 ≤ 70000000 + 66 * (k + 1)) := hide (fun k hk W o Do rs2 hW hF hw2 hP => by
    have h32 : D32 (dl xs k) := (dl_db hxl hxb (by omega)).d32
    have hkl : (dl xs k).length = k := dl_len xs k
    obtain ⟨p1, p2, p3, p4⟩ := put_fsG (s := 6) (by decide) hh hW.valS hF h32 (by omega) (x := dat xs k) (dat_length hxl hk) (dat_isB hxb k)
    rw [hkl] at p1 p2 p3 p4
    rw [← dl_succ] at p3
    refine (put_any o 6 rs2 Do W hW (H : Int) 0 (k : Int) k (dat xs k) (by decide) (by omega) (dat_length hxl hk) (dat_isB hxb k) hP (fun _ => p2) (by omega)).mono ?_
    rintro r w' ⟨rfl, ho⟩
    exact ⟨by rw [p1], _, ho, p3, by omega⟩)
  have HSM : Hid (∀ (W : World) (o d : Nat) (Do D : Dm) (rs3 : List Rw), DkAt W o 6 rs3 Do → DkAt W d 6 rs D → FS (play rs3) H (dl xs len) → wt rs3 ≤ 70000000 + 66 * len → Calls Tryz.prog 23 #[.pointer (some ⟨o, 0, none⟩), .pointer (some ⟨d, 0, none⟩)] W fun e w' => e = .returned (.bool true) ∧ Below W.heap.size W w') := hide (fun W o d Do D rs3 h1 h2 hF hw3 => same_any o d 6 6 rs3 rs Do D true W h1 h2 (by omega) (by omega) (by rw [hF.ext g2]; simp))
  have HWR : Hid (∀ (W : World) (d : Nat) (D : Dm), DkAt W d 6 rs D → Calls Tryz.prog 21 #[.pointer (some ⟨d, 0, none⟩)] W fun e w' => e = .returned (.int .i64 (N : Int)) ∧ w' = W) := hide (fun W d D hW => by
    have := writes_any d 6 rs D W hW
    rw [HN.out] at this
    exact this)
  unfold FilR at HFI2
  rw [HRS.out] at HFI2
  have HC1 := hide hc1
  clear hs he hxl hxb hdb hlr g1 g2 g3 hH hh hNw hts hwc hml h32m hcn hV0 HRS HN hc1 ec
  go_enter Tryz.func5, Tryz.ntmps5
  go_wp2_with (go_at_call 19; refine (HHT.out _).mono ?_; rintro r w ⟨rfl, rfl⟩)
  refine (HFI2.out _ HDS.out HE.out.pt).mono ?_
  rintro r w3 ⟨d, D, rfl, hdk, hb3, ho3⟩
  have HB3 := hide hb3
  have HD3 := hide hdk
  clear hdk hb3 ho3
  go_wp2_with ((go_at_call 21; refine (HWR.out _ d D HD3.out).mono ?_; rintro r w3 ⟨rfl, rfl⟩))
  rw [HC1.out]
  refine (HAF.out _ d D HD3.out).mono ?_
  rintro r w5 ⟨o, Do, rfl, hA⟩
  have HO0 : Hid (DkAt w5 o 6 (rs.take c) Do) := hide hA.dk
  have HB5 := hide (on_below HB3.out hA.bel)
  have HOW : Hid (∀ k, Do.own o k → w3.heap.size ≤ k) := hide hA.own
  have HD5 : Hid (DkAt w5 d 6 rs D) := hide (HD3.out.below hA.bel)
  have HX : Hid (∀ W : World, Chs (Do.own o) w5 W → DkAt W d 6 rs D) := hide (fun W hc => HD5.out.chS hc (fun k hk hown => by
    have h1 := HD3.out.lt hk
    have h2 := HOW.out k hown
    omega))
  have HOB : Hid (∀ (W : World) (rs2 : List Rw), OpR w5 W o 6 Do rs2 → Below w.heap.size w W) := hide (fun W rs2 hop => by
    obtain ⟨D', _, h2, _, _⟩ := hop
    exact HB5.out.trans (h2.below (fun q hq hown => by have h1 := HOW.out q hown; have h3 := HB3.out.size; omega) HB5.out.size))
  clear hA HAF HWR HHT HFI2
  go_wp2_with fail
  refine (HCU.out _ o Do HO0.out (HE.out.pt.below HB5.out)).mono ?_
  rintro r w6 ⟨rfl, hb6⟩
  have HB6 := hide (on_below HB5.out hb6)
  have HO6 := hide (HO0.out.below hb6)
  have HP6 := hide hb6
  have hnm : ¬ (len : Int) < (m : Int) := by omega
  have hnm2 : decide (len < m) = false := by simp; omega
  clear hb6 HCU
  go_wp2_with fail
  refine (HTM.out _ o Do HO6.out HB6.out (fun k hk => Nat.le_trans HB3.out.size (HOW.out k hk))).mono ?_
  rintro r w7 ⟨rfl, rs2, ho7, hf7, hw7⟩
  have HI7 : Hid (OpR w5 w7 o 6 Do rs2) := hide (OpR.pre HP6.out ho7)
  have HF7 := hide hf7
  have HW7 := hide hw7
  clear ho7 hf7 hw7 HTM HO6 HO0 HP6
  go_wp2
  go_loopw [12] (fun p wr => ∃ (k : Nat) (rs2 : List Rw), k ≤ len ∧ p = .int .i64 (k : Int) ∧ Hid (OpR w5 wr o 6 Do rs2) ∧ Hid (FS (play rs2) H (dl xs k)) ∧ Hid (wt rs2 ≤ 70000000 + 66 * k)) (fun p _ => len - (intOf p).toNat)
  case atStart => exact ⟨m, rs2, hm, rfl, HI7, HF7, HW7⟩
  case round =>
    clear HI7 HF7 HW7
    obtain ⟨k, rs2, hk, rfl, HI, HF, HW⟩ := hrel
    obtain ⟨D1, hd1, o2, o3, o4⟩ := HI.out
    have HD1 := hide hd1
    have HO := hide (And.intro o2 (And.intro o3 o4))
    have HB := hide (HOB.out _ _ HI.out)
    clear hd1 o2 o3 o4
    by_cases hlt : k < len
    · have hlti : (k : Int) < (len : Int) := by omega
      have hsw := HDS.out.below HB.out
      obtain ⟨b, off, rfl⟩ := hsw.place (by omega)
      have hix := d_at b off len cap k (k : Int) rfl hlt
      have HR := hide (hsw.range k hlt)
      have HUL : Hid ((u8s (dat xs k)).length = 32) := hide (by rw [u8s_length, dat_length HDS.out.hlen hlt])
      have HP := hide (HPU.out k hlt wr o D1 rs2 HD1.out HF.out HW.out (HE.out.pt.below HB.out))
      clear hsw
      go_wp2_with (refine step_loadR wDs rfl rfl _ HR.out HUL.out ?_)
      refine HP.out.mono ?_
      rintro r w8 ⟨rfl, rs3, ho8, hf8, hw8⟩
      have HI8 := hide (OpR.comp HO.out.1 HO.out.2.1 HO.out.2.2 ho8)
      have HF8 := hide hf8
      have HW8 := hide hw8
      clear ho8 hf8 hw8 hix HR HP HI HF HW HD1 HO HB
      go_wp2
      go_roundw
      case rel => exact ⟨k + 1, rs3, by omega, by go_num, HI8, HF8, HW8⟩
      case measure => simp only [intOf]; omega
    · have hlti : ¬ (k : Int) < (len : Int) := by omega
      obtain rfl : k = len := by omega
      have HX2 := hide (HX.out _ HO.out.1)
      go_wp2_with fail
      refine (HSM.out _ o d D1 D rs2 HD1.out HX2.out HF.out HW.out).mono ?_
      rintro r w8 ⟨rfl, hb8⟩
      go_wp2
      go_ret
      exact ⟨rfl, on_below HB.out hb8⟩
theorem power_law (h : Int) (a : Option Addr) (len cap : Nat) (xs : List Int) (cut : Int) (w : World) (hw : (Lit.int .i64 h).wf = true) (hs : Ds w a len cap xs) (hc : cap ≤ 1048576) (hw2 : (Lit.int .i64 cut).wf = true) (he : EV w) :
    Calls Tryz.prog 5 #[.int .i64 h, .slice a len cap, .int .i64 cut] w fun e w' => e = .returned (.bool true) ∧ Below w.heap.size w w' :=
  power_walk h a len cap xs cut w hs (Nat.le_trans hs.hcap hc) he

end Go.Proofs.YtlgcjdgcgnlcaaaGreatDoor
