/-
  Texts one behind the other: Spw Tqc Tqd Tqe.
-/
import Derived.Test.YtlgcjdgcgnlcaaaGreatDoorPkF
import Derived.Test.YtlgcjdgcgnlcaaaGreatDoorKmj
import Derived.Test.YtlgcjdgcgnlcaaaGreatDoorPkB
import Derived.Deep.AppendLies
import Derived.Test.YtlgcjdgcgnlcaaaGreatDoorPkE
import Derived.Deep.Cut
import Derived.Deep.Upon

/-
  What ShelfPower's walk asks of files: how many there are, what a Trim behind a loss of power tells, and what Puts behind it leave.
-/
namespace Go.Proofs.YtlgcjdgcgnlcaaaGreatDoor
open Go.RowKit Go.Shelf
set_option linter.unusedVariables false
set_option linter.unusedSimpArgs false
set_option maxRecDepth 100000

theorem FL.upd_ex {f : ByteArray → Option (List Int)} {l : List (ByteArray × List Int)} (h : FL f l) (n : ByteArray) (v : Option (List Int)) : ∃ l', FL (upd f n v) l' := by
  obtain ⟨A, B, rfl, _, hA, hc⟩ := h.split n
  cases v with
  | some xs =>
    rcases hc with ⟨_, hB⟩ | ⟨ys, B', _, rfl, hB⟩
    · exact ⟨_, h.put hA hB xs⟩
    · exact ⟨_, h.set hA hB xs⟩
  | none =>
    rcases hc with ⟨h0, hB⟩ | ⟨ys, B', _, rfl, hB⟩
    · exact ⟨_, by rw [← h0, upd_self]; exact h⟩
    · exact ⟨_, h.turn hA hB⟩
theorem FL.do_ex {f : ByteArray → Option (List Int)} {l : List (ByteArray × List Int)} (h : FL f l) (r : Rw) : ∃ l', FL (doR f r) l' := by
  unfold doR
  split
  · exact h.upd_ex _ _
  · split
    · exact h.upd_ex _ _
    · split
      · exact h.upd_ex _ _
      · split
        · exact h.upd_ex _ _
        · split
          · obtain ⟨l1, h1⟩ := h.upd_ex r.t (some (fl f r.n))
            exact h1.upd_ex _ _
          · exact ⟨l, h⟩
theorem FL.fold_ex : ∀ (rs : List Rw) {f : ByteArray → Option (List Int)} {l : List (ByteArray × List Int)} (h : FL f l), ∃ l', FL (rs.foldl doR f) l'
  | [], f, l, h => ⟨l, h⟩
  | r :: t, f, l, h => by
    obtain ⟨l1, h1⟩ := h.do_ex r
    exact FL.fold_ex t h1
theorem FL.play_ex (rs : List Rw) : ∃ l, FL (play rs) l := FL.fold_ex rs FL.nil
theorem FL.nodup {f : ByteArray → Option (List Int)} {l : List (ByteArray × List Int)} (h : FL f l) : (l.map (·.1)).Nodup := by
  unfold List.Nodup
  rw [List.pairwise_map]
  exact h.srt.imp fun h => blt_ne h
section
variable {F : ByteArray → Option (List Int)} {h : Nat} {ys : List (List Int)}
end
/-- A Trim to a number that is there tells no error. -/
theorem tmE_ok {H L c n : Nat} {rs : List Rw} {is : List Nat} (hF : Nmd (play rs)) (k : Cn (play rs) H L c) (hn : n ≤ c) (hi : TrI (play rs) H L n is) : tmE H L n rs is = 0 := by
  unfold tmE
  by_cases h0 : n % 2 ^ H = 0
  · rw [if_pos h0]
  · rw [if_neg h0]
    obtain ⟨h1, h2⟩ := k.cutAt hF hn h0
    have hp := Nat.two_pow_pos H
    have e := Nat.div_add_mod n (2 ^ H)
    have hm := Nat.mod_lt n hp
    rw [Nat.mul_comm] at e
    have hnot : sN H L (n / 2 ^ H) ∉ is.map (sN H L) := fun hm => by
      obtain ⟨i, h3, h4⟩ := List.mem_map.1 hm
      have e2 := (sN_inj h1 h4.symm).2.2
      have := ((hi.mem i).1 h3).2.2
      subst e2
      omega
    have hp2 := (trR_play H L rs is _).2 hnot
    have hfl : fl (play (trR H L rs is)) (sN H L (n / 2 ^ H)) = fl (play rs) (sN H L (n / 2 ^ H)) := by unfold fl; rw [hp2]
    have hs : (play (trR H L rs is) (sN H L (n / 2 ^ H))).isSome = true := by
      rw [hp2]
      cases hc : play rs (sN H L (n / 2 ^ H)) with
      | some _ => rfl
      | none =>
        rw [fl_none hc] at h2
        simp at h2
        omega
    have hfe : fE (trR H L rs is) (sN H L (n / 2 ^ H)) = 0 := by simp [fE, sN_nm h1, hs]
    unfold cuE
    rw [if_pos hfe, hfl, if_neg (by omega)]
theorem trS_wt (H L n : Nat) (rs : List Rw) (is : List Nat) : wt (trS H L n rs is) ≤ wt rs + is.length + 1 := by
  have h1 := trR_wt H L rs is
  unfold trS
  split
  · omega
  · unfold cuS
    split
    · rw [wt_app]
      have e : ∀ m k, wt [rCu m k] = 1 := fun m k => rfl
      rw [e]
      omega
    · omega
end Go.Proofs.YtlgcjdgcgnlcaaaGreatDoor

/-
  A text between the bytes 47: as a list, and as the document's pieces makes it.
-/
namespace Go.Proofs.YtlgcjdgcgnlcaaaGreatDoor
open Go.RowKit
set_option linter.unusedVariables false
set_option linter.unusedSimpArgs false

def cons1 (b : UInt8) : List (List UInt8) → List (List UInt8)
  | [] => [[b]]
  | h :: t => (b :: h) :: t
def splitS : List UInt8 → List (List UInt8)
  | [] => [[]]
  | b :: l => if b = 47 then [] :: splitS l else cons1 b (splitS l)
theorem splitS_ne : ∀ l : List UInt8, splitS l ≠ []
  | [] => by simp [splitS]
  | b :: l => by
    unfold splitS
    split
    · simp
    · cases splitS l <;> simp [cons1]
theorem splitS_app : ∀ {A : List UInt8} (B : List UInt8), (∀ b ∈ A, b ≠ 47) → splitS (A ++ 47 :: B) = A :: splitS B
  | [], B, _ => by rw [List.nil_append]; conv => lhs; unfold splitS
                   rw [if_pos rfl]
  | a :: A, B, h => by
    rw [List.cons_append]
    conv => lhs; unfold splitS
    rw [if_neg (h a (by simp)), splitS_app B (fun b hb => h b (by simp [hb]))]
    rfl
theorem splitS_no : ∀ {A : List UInt8}, (∀ b ∈ A, b ≠ 47) → splitS A = [A]
  | [], _ => rfl
  | a :: A, h => by
    conv => lhs; unfold splitS
    rw [if_neg (h a (by simp)), splitS_no (fun b hb => h b (by simp [hb]))]
    rfl
theorem splitS_len : ∀ l : List UInt8, (splitS l).length ≤ l.length + 1
  | [] => Nat.le_refl _
  | b :: l => by
    have ih := splitS_len l
    have hne := splitS_ne l
    unfold splitS
    split
    · simp only [List.length_cons]; omega
    · cases hs : splitS l with
      | nil => exact absurd hs hne
      | cons x y => rw [hs] at ih; simp only [cons1, List.length_cons] at *; omega
theorem splitS_each : ∀ l : List UInt8, ∀ x ∈ splitS l, x.length ≤ l.length
  | [], x, hx => by simp [splitS] at hx; subst hx; simp
  | b :: l, x, hx => by
    have ih := splitS_each l
    unfold splitS at hx
    split at hx
    · rcases List.mem_cons.1 hx with rfl | hx
      · simp
      · have := ih x hx; simp only [List.length_cons]; omega
    · cases hs : splitS l with
      | nil => exact absurd hs (splitS_ne l)
      | cons y z =>
        rw [hs] at hx ih
        simp only [cons1, List.mem_cons] at hx
        rcases hx with rfl | hx
        · have := ih y (by simp); simp only [List.length_cons]; omega
        · have := ih x (by simp [hx]); simp only [List.length_cons]; omega
/-- Slices of texts of the call's own. -/
theorem undSt : Tryz.prog.underlying 91 = some (.slice 9) := by kernel_rfl
theorem undSs : Tryz.prog.underlying 91 = some (.slice (Tryz.prog.elem 91)) := by kernel_rfl
theorem elemSt : Tryz.prog.elem 91 = 9 := by kernel_rfl
theorem sizeSt (w : World) : (sizeOf 9).run Tryz.prog w = .ok 1 w := by kernel_rfl
theorem infoSt : (Tryz.prog.info? 9).map (fun i => (i.zero, i.size, i.bytes)) = some (some (.string ByteArray.empty), 1, 16) := by kernel_rfl
def sts (ls : List (List UInt8)) : List Value := ls.map fun l => Value.string (bA l)
def TO (w : World) (B : Nat) (v : Value) (ls : List (List UInt8)) : Prop := w.ownsRow B 9 1 v ls.length (sts ls)
theorem TO.nil (w : World) (B : Nat) : TO w B (.slice none 0 0) [] := World.ownsRow_nil _ _ _ _
theorem TO.below {w w' : World} {B : Nat} {v : Value} {ls : List (List UInt8)} (h : TO w B v ls) (hb : Below w.heap.size w w') : TO w' B v ls := by
  obtain ⟨h1, h2⟩ := h
  refine ⟨h1, ?_⟩
  rcases h2 with h2 | ⟨g, cap, cur, e, hg, hh, r⟩
  · exact .inl h2
  · refine .inr ⟨g, cap, cur, e, hg, ?_, r⟩
    rw [hb.block g (Array.getElem?_eq_some_iff.1 hh).1]
    exact hh
theorem TO.lt {w : World} {B : Nat} {v : Value} {ls : List (List UInt8)} (h : TO w B v ls) : ∀ k, v.ownBlock = some k → B ≤ k ∧ k < w.heap.size := fun k hk => World.ownsRow.lt h k hk
theorem TO.slice {w : World} {B : Nat} {v : Value} {ls : List (List UInt8)} (h : TO w B v ls) : ∃ a n c, v = Value.slice a n c := by
  rcases h.2 with ⟨e1, _⟩ | ⟨_, _, _, e1, _⟩ <;> exact ⟨_, _, _, e1⟩
theorem TO.lies {w : World} {B : Nat} {v : Value} {ls : List (List UInt8)} (h : TO w B v ls) (hne : ls ≠ []) : ∃ g cap, v = .slice (some ⟨g, 0, none⟩) ls.length cap ∧ B ≤ g ∧ g < w.heap.size ∧ ls.length ≤ cap ∧ cap ≤ 9223372036854775807 ∧ ∀ i l, ls[i]? = some l → w.cell? ⟨g, i, none⟩ = some (.string (bA l)) := by
  obtain ⟨h1, h2⟩ := h
  rcases h2 with ⟨e, h0⟩ | ⟨g, cap, cur, rfl, hB, hh, h3, h4, h5, h6⟩
  · exact absurd (List.eq_nil_of_length_eq_zero h0) hne
  · refine ⟨g, cap, rfl, hB, (Array.getElem?_eq_some_iff.1 hh).1, h3, by simpa [maxLen] using h4, fun i l hl => ?_⟩
    have hb : Blk w g 9 cur.toList := by unfold Blk; simpa using hh
    rw [hb.cell]
    have hi : i < ls.length := (List.getElem?_eq_some_iff.1 hl).1
    have e1 : (sts ls)[i]? = some (.string (bA l)) := by unfold sts; rw [List.getElem?_map, hl]; rfl
    rw [← h6, List.getElem?_take] at e1
    split at e1
    · exact e1
    · cases e1
theorem stT_at (b n cap i : Nat) (I : Int) (hI : I = (i : Int)) (hi : i < n) (v : World) : (Instr.indexAt 91 (.slice (some ⟨b, 0, none⟩) n cap) (.int .i64 I)).run Tryz.prog v = .ok (.pointer (some ⟨b, i, none⟩)) v := by
  subst hI
  rw [run_indexAt_slice v _ _ _ _ .i64 i undSs, if_pos ⟨by omega, by omega⟩, elemSt, sizeSt]
  simp only [Result.andThen_ok, Int.toNat_natCast]
  rw [Addr.add_lit, Nat.zero_add, Nat.mul_one]
theorem oneSt (l : List UInt8) (w : World) : (Instr.buildSlice 91 1 #[(0, .string (bA l))]).run Tryz.prog w = .ok (.slice (some ⟨w.heap.size, 0, none⟩) 1 1) (w.alloc (.cells #[.string (bA l)] 9)) := by kernel_rfl
section
variable {dst : Option Tmp} {ty : TypeId} {pos : String} {aft : Array Edge} {gd : Option (Nat × Bool)} {ops : Array Oper} {rest : List Oper} {a : Act} {w : World} {K : Act → World → Prop} {Q : Exit → Act → World → Prop}
set_option maxRecDepth 100000 in
theorem wp_oneSt {x : Operand} {l : List UInt8} (hx : a.eval x = .string (bA l)) (h : ∀ w1 g, Blk w1 g 9 [.string (bA l)] → w.heap.size ≤ g → Below w.heap.size w w1 → K (a.put dst (.slice (some ⟨g, 0, none⟩) 1 1)) w1) :
    Oper.wp Tryz.prog ⟨dst, .buildSlice 91 1 #[(0, x)], ty, pos, aft, gd⟩ a w K Q := by
  refine wp_runV (.slice (some ⟨w.heap.size, 0, none⟩) 1 1) (w.alloc (.cells #[.string (bA l)] 9)) ?_ (h _ _ (Blk.made _ _ _) (Nat.le_refl _) ((Below.refl _ _).alloc (Nat.le_refl _) _))
  unfold execOp
  simp only [List.map_toArray, List.map_cons, List.map_nil, hx]
  simp only [Sem.run_bind, oneSt l, Result.andThen_ok, Sem.run_pure]
/-- Texts that lie somewhere appended to a slice of the call's own. -/
theorem wp_appSt {s x : Operand} {B : Nat} {v : Value} {ls ms : List (List UInt8)} {g o n c : Nat} (hs : a.eval s = v) (hx : a.eval x = .slice (some ⟨g, o, none⟩) n c) (hown : TO w B v ls) (hn : ms.length = n) (hy : ∀ i l, ms[i]? = some l → w.cell? ⟨g, o + i, none⟩ = some (.string (bA l))) (hm : ms ≠ []) (hlen : ls.length + ms.length ≤ 2097160) (hB : B ≤ w.heap.size)
    (h : ∀ v' w', TO w' B v' (ls ++ ms) → w.grownBy w' v.ownBlock → K (a.put dst v') w') :
    Oper.wp Tryz.prog ⟨dst, .call { callee := .builtin .append, args := #[s, x], argTypes := #[91, 91] }, ty, pos, aft, gd⟩ a w K Q := by
  obtain ⟨i0, hi, hz0, hz1, hz2⟩ := info_parts infoSt
  subst hn
  obtain ⟨g', cap', w', hr, ho, hgr, hat, hlt⟩ := run_append_lies (P := Tryz.prog) w 91 ty B 9 i0 (.string ByteArray.empty) 1 16 undSt hi hz0 hz1 hz2 rfl (by decide) v _ _ hown ⟨g, o, none⟩ ms.length c (sts ms) (by simp [sts]) (fun j u hu => by
    unfold sts at hu
    rw [List.getElem?_map] at hu
    obtain ⟨l, hl, e⟩ := Option.map_eq_some_iff.1 hu
    subst e
    rw [Addr.add_lit]
    exact hy j l hl) (by intro u hu; unfold sts at hu; obtain ⟨l, _, e⟩ := List.mem_map.1 hu; subst e; rfl) (by
    cases ms with
    | nil => exact absurd rfl hm
    | cons x y => simp) (by unfold maxLen; omega) (by omega) hB _ rfl
  unfold Oper.wp
  simp [execOp, resolve, invoke, builtin, hs, hx, hr, Result.andThen]
  refine h _ _ ?_ hgr
  unfold TO
  rw [List.length_append, show sts (ls ++ ms) = sts ls ++ sts ms by simp [sts]]
  exact ho
set_option maxRecDepth 100000 in
theorem step_oneSt {x : Operand} {l : List UInt8} (hw : Region.wanted ⟨dst, .buildSlice 91 1 #[(0, x)], ty, pos, aft, gd⟩ (yielded ops a.tmps) = true) (hx : a.eval x = .string (bA l)) (h : ∀ w1 g, Blk w1 g 9 [.string (bA l)] → w.heap.size ≤ g → Below w.heap.size w w1 → wpList Tryz.prog ops Q rest (a.put dst (.slice (some ⟨g, 0, none⟩) 1 1)) w1) :
    wpList Tryz.prog ops Q (⟨dst, .buildSlice 91 1 #[(0, x)], ty, pos, aft, gd⟩ :: rest) a w :=
  BigFrame.wpList_want hw fun K hK => wp_oneSt hx fun w1 g h1 h2 h3 => hK _ _ (h w1 g h1 h2 h3)
theorem step_appSt {s x : Operand} {B : Nat} {v : Value} {ls : List (List UInt8)} {l : List UInt8} {g : Nat} (hw : Region.wanted ⟨dst, .call { callee := .builtin .append, args := #[s, x], argTypes := #[91, 91] }, ty, pos, aft, gd⟩ (yielded ops a.tmps) = true)
    (hs : a.eval s = v) (hx : a.eval x = .slice (some ⟨g, 0, none⟩) 1 1) (hown : TO w B v ls) (hy : Blk w g 9 [.string (bA l)]) (hlen : ls.length ≤ 1048580) (hB : B ≤ w.heap.size)
    (h : ∀ v' w', TO w' B v' (ls ++ [l]) → w.grownBy w' v.ownBlock → wpList Tryz.prog ops Q rest (a.put dst v') w') :
    wpList Tryz.prog ops Q (⟨dst, .call { callee := .builtin .append, args := #[s, x], argTypes := #[91, 91] }, ty, pos, aft, gd⟩ :: rest) a w :=
  BigFrame.wpList_want hw fun K hK => wp_appSt (ms := [l]) hs hx hown rfl (fun i m hm => by
    match i, hm with
    | 0, hm => simp at hm; subst hm; rw [hy.cell]; rfl
    | i + 1, hm => simp at hm) (by simp) (by simp; omega) hB fun v' w' h1 h2 => hK _ _ (h v' w' h1 h2)
end
theorem slice_mid (l : List UInt8) (f k : Nat) (hf : f ≤ k) (hk : k ≤ l.length) (v : World) : (Instr.slice 9 (.string (bA l)) (some (.int .i64 (f : Int))) (some (.int .i64 (k : Int))) none).run Tryz.prog v = .ok (.string (bA ((l.drop f).take (k - f)))) v := by
  rw [run_slice_string_if v 9 (bA l) .i64 .i64 (f : Int) (k : Int) Tryz.underlying9, if_pos ⟨by omega, by rw [bA_size]; omega⟩, if_pos ⟨by omega, by omega⟩]
  congr 2
  apply eq_of_strL
  rw [strL_bA]
  show (ByteArray.extract (bA l) (f : Int).toNat (k : Int).toNat).data.toList = _
  rw [ByteArray.data_extract, Array.toList_extract, Int.toNat_natCast, Int.toNat_natCast]
  show List.extract l f k = _
  simp only [List.extract]
theorem drop_at {l : List UInt8} {f k : Nat} (hf : f ≤ k) (hk : k < l.length) (h47 : l[k]? = some 47) : l.drop f = (l.drop f).take (k - f) ++ 47 :: l.drop (k + 1) := by
  conv => lhs; rw [← List.take_append_drop (k - f) (l.drop f)]
  congr 1
  rw [List.drop_drop, show f + (k - f) = k by omega, List.drop_eq_getElem_cons hk]
  rw [List.getElem?_eq_getElem hk] at h47
  rw [Option.some.inj h47]
theorem no_mid {l : List UInt8} {f k : Nat} (hk : k ≤ l.length) (h : ∀ j, f ≤ j → j < k → l[j]? ≠ some 47) : ∀ b ∈ (l.drop f).take (k - f), b ≠ 47 := by
  intro b hb e
  subst e
  obtain ⟨i, hi⟩ := List.mem_iff_getElem?.1 hb
  have hlt := (List.getElem?_eq_some_iff.1 hi).1
  rw [List.length_take, List.length_drop] at hlt
  rw [List.getElem?_take, if_pos (by omega), List.getElem?_drop] at hi
  exact h (f + i) (by omega) (by omega) hi
set_option maxRecDepth 100000 in
set_option maxHeartbeats 1000000 in
theorem piecesT_any (s : List UInt8) (w : World) (hs : s.length ≤ 1048576) : Calls Tryz.prog 75 #[.string (bA s)] w fun r w' => ∃ v, r = .returned v ∧ TO w' w.heap.size v (splitS s) ∧ Below w.heap.size w w' := by
  have hsz := bA_size s
  go_enter Tryz.func75, Tryz.ntmps75
  go_wp2_with fail
  go_loopw [3, 4, 5] (fun o fr i wr => ∃ (k f : Nat) (ls : List (List UInt8)), i = .int .i64 (k : Int) ∧ fr = .int .i64 (f : Int) ∧ k ≤ s.length ∧ f ≤ k ∧ ls.length ≤ k ∧ Hid (TO wr w.heap.size o ls) ∧ Hid (ls ++ splitS (s.drop f) = splitS s) ∧ Hid (∀ j, f ≤ j → j < k → s[j]? ≠ some 47) ∧ Hid (Below w.heap.size w wr)) (fun _ _ i _ => s.length - (intOf i).toNat)
  case atStart => exact ⟨0, 0, [], rfl, rfl, by omega, by omega, by simp, hide (TO.nil _ _), hide rfl, hide (fun j h1 h2 => by omega), hide (Below.refl _ _)⟩
  case round =>
    obtain ⟨k, f, ls, rfl, rfl, hk, hf, hl, HO, HS, HN, HB⟩ := hrel
    obtain ⟨av, nv, cv, rfl⟩ := HO.out.slice
    by_cases hlt : k < s.length
    · have hlt' : (k : Int) < (s.length : Int) := by omega
      have hk2 : k < (bA s).size := by rw [hsz]; exact hlt
      have hg : s[k]? = some ((bA s)[k]'hk2) := by rw [List.getElem?_eq_getElem hlt]; rfl
      have hwk : IntKind.i64.wrap ((k : Int) + 1) = ((k + 1 : Nat) : Int) := by rw [IntKind.wrap_i64]; omega
      by_cases h47 : ((bA s)[k]'hk2) = 47
      · have e47 : (((((bA s)[k]'hk2).toNat : Nat) : Int) == 47) = true := by rw [h47]; rfl
        have x1 := slice_mid s f k hf hk
        obtain ⟨M, hM⟩ : ∃ M, (s.drop f).take (k - f) = M := ⟨_, rfl⟩
        have HSn : Hid ((ls ++ [M]) ++ splitS (s.drop (k + 1)) = splitS s) := hide (by
          have h1 := HS.out
          rw [drop_at hf hlt (by rw [hg, h47]), hM, splitS_app _ (by rw [← hM]; exact no_mid hk HN.out)] at h1
          rw [← h1]
          simp)
        rw [hM] at x1
        clear hg h47 hM HS
        go_wp2_with (refine step_oneSt (l := M) rfl rfl ?_)
        intro w1 g1 hg1 hle1 hb1
        have HO1 := hide (HO.out.below hb1)
        have HB1 := hide (on_below HB.out hb1)
        have HG1 := hide hg1
        clear hg1 hle1 hb1 HO HB
        go_wp2_with (refine step_appSt (l := M) rfl rfl rfl HO1.out HG1.out (by omega) HB1.out.size ?_)
        intro v2 w2 ho2 hgr
        have hgr2 : w1.grownBy w2 (Value.slice av nv cv).ownBlock := hgr
        have HB2 := hide (HB1.out.grown hgr2 HB1.out.size (fun k hk => (HO1.out.lt k hk).1))
        have HO2 := hide ho2
        obtain ⟨a2, n2, c2, rfl⟩ := ho2.slice
        clear ho2 hgr hgr2 HO1 HG1 HB1
        go_wp2_with fail
        go_roundw
        case rel => exact ⟨k + 1, k + 1, ls ++ [M], by simp, by simp, hlt, Nat.le_refl _, by simp; omega, HO2, HSn, hide (fun j h1 h2 => by omega), HB2⟩
        case measure => simp only [intOf]; omega
      · have e47 : (((((bA s)[k]'hk2).toNat : Nat) : Int) == 47) = false := by
          simp only [beq_eq_false_iff_ne, ne_eq]
          intro e
          refine h47 (UInt8.toNat_inj.1 ?_)
          have : ((bA s)[k]'hk2).toNat = 47 := by omega
          rw [this]; rfl
        have HN2 : Hid (∀ j, f ≤ j → j < k + 1 → s[j]? ≠ some 47) := hide (fun j h1 h2 => by
          by_cases hj : j = k
          · subst hj; rw [hg]; exact fun e => h47 (Option.some.inj e)
          · exact HN.out j h1 (by omega))
        clear hg h47 HN
        go_wp2_with fail
        exact ⟨⟨k + 1, f, ls, by simp, rfl, hlt, by omega, by omega, HO, HS, HN2, HB⟩, by simp only [intOf]; omega⟩
    · obtain rfl : k = s.length := by omega
      have x1 := slice_str s f (f : Int) rfl hf
      obtain ⟨M, hM⟩ : ∃ M, s.drop f = M := ⟨_, rfl⟩
      have HSn : Hid (ls ++ [M] = splitS s) := hide (by
        have h1 := HS.out
        have h2 := no_mid (f := f) (Nat.le_refl s.length) HN.out
        rw [List.take_of_length_le (by simp)] at h2
        rw [splitS_no h2, hM] at h1
        exact h1)
      rw [hM] at x1
      clear hM HS HN
      go_wp2_with (refine step_oneSt (l := M) rfl rfl ?_)
      intro w1 g1 hg1 hle1 hb1
      have HO1 := hide (HO.out.below hb1)
      have HB1 := hide (on_below HB.out hb1)
      have HG1 := hide hg1
      clear hg1 hle1 hb1 HO HB
      go_wp2_with (refine step_appSt (l := M) rfl rfl rfl HO1.out HG1.out (by omega) HB1.out.size ?_)
      intro v2 w2 ho2 hgr
      have hgr2 : w1.grownBy w2 (Value.slice av nv cv).ownBlock := hgr
      have HB2 := hide (HB1.out.grown hgr2 HB1.out.size (fun k hk => (HO1.out.lt k hk).1))
      rw [HSn.out] at ho2
      have HO2 := hide ho2
      obtain ⟨a2, n2, c2, rfl⟩ := ho2.slice
      clear ho2 hgr hgr2 HO1 HG1 HB1
      go_wp2
      go_ret
      exact ⟨_, rfl, HO2.out, HB2.out⟩
end Go.Proofs.YtlgcjdgcgnlcaaaGreatDoor

/-
  What the document reads out of a text, and out of a tile's path. No program here.
-/
namespace Go.Proofs.YtlgcjdgcgnlcaaaGreatDoor
open Go.RowKit
set_option linter.unusedVariables false
set_option linter.unusedSimpArgs false

def tileW : List UInt8 := [116, 105, 108, 101]
/-- A group without its letter x. -/
def rqX : List UInt8 → List UInt8
  | [] => []
  | a :: t => if a = 120 then t else a :: t
/-- Is there a width? The groups, the last one without its mark. -/
def rqP (rest : List (List UInt8)) : Bool := decide (2 ≤ rest.length) && (decide (2 < (rest.getD (rest.length - 2) []).length) && decide ((rest.getD (rest.length - 2) []).drop ((rest.getD (rest.length - 2) []).length - 2) = [46, 112]))
def rqG (rest : List (List UInt8)) : List (List UInt8) := rest.take (rest.length - 2) ++ [(rest.getD (rest.length - 2) []).take ((rest.getD (rest.length - 2) []).length - 2)]
def rqQ (h l w : Nat) (ds : List (List UInt8)) : Option (Nat × Nat × Nat × Nat) := if ∀ x ∈ ds, (rqX x).length ≤ 3 then (nmO (stz (ds.flatMap rqX))).map fun i => (h, l, i, w) else none
def rqT (h l : Nat) (rest : List (List UInt8)) : Option (Nat × Nat × Nat × Nat) := if rqP rest = true then (nmO (stz (rest.getD (rest.length - 1) []))).bind fun w => rqQ h l w (rqG rest) else rqQ h l (2 ^ h) rest
def rqR (s : List UInt8) : Option (Nat × Nat × Nat × Nat) := match splitS s with
  | p0 :: p1 :: p2 :: p3 :: rest => if p0 = tileW then (nmO (stz p1)).bind fun h => (nmO (stz p2)).bind fun l => if 1 ≤ h ∧ h ≤ 8 then rqT h l (p3 :: rest) else none else none
  | _ => none
/-- The groups of an index. -/
def gX : Nat → Nat → List (List UInt8)
  | 0, _ => []
  | k + 1, r => if r = 0 then [] else gX k (r / 1000) ++ [120 :: d3 (r % 1000)]
theorem split_ix : ∀ (k r : Nat) (Y : List UInt8), splitS (ixF k r ++ Y) = gX k r ++ splitS Y
  | 0, r, Y => rfl
  | k + 1, r, Y => by
    unfold ixF gX
    split
    · rfl
    · rw [List.append_assoc, split_ix k (r / 1000), List.append_assoc (gX k (r / 1000))]
      apply congrArg
      rw [show (120 :: d3 (r % 1000) ++ [47] ++ Y : List UInt8) = (120 :: d3 (r % 1000)) ++ 47 :: Y by simp, splitS_app _ (fun b hb => by
        rcases List.mem_cons.1 hb with rfl | hb
        · decide
        · exact (d3_dg (Nat.mod_lt _ (by decide)) b hb).ne.2.1)]
      rfl
theorem gX_x : ∀ (k r : Nat), ∀ x ∈ gX k r, ∃ m, m < 1000 ∧ x = 120 :: d3 m
  | 0, r, x, hx => by simp [gX] at hx
  | k + 1, r, x, hx => by
    unfold gX at hx
    split at hx
    · simp at hx
    · rcases List.mem_append.1 hx with hx | hx
      · exact gX_x k _ x hx
      · exact ⟨r % 1000, Nat.mod_lt _ (by decide), by simpa using hx⟩
theorem gX_flat : ∀ (k r : Nat), (gX k r).flatMap rqX = gD k r
  | 0, r => rfl
  | k + 1, r => by
    unfold gX gD
    split
    · rfl
    · rw [List.flatMap_append, gX_flat k (r / 1000)]
      simp [rqX]
theorem rqX_d3 {m : Nat} (h : m < 1000) : rqX (d3 m) = d3 m := by
  have := (d3_dg h _ (List.mem_cons_self)).ne.2.2.1
  unfold d3 at this ⊢
  show (if UInt8.ofNat (48 + m / 100) = 120 then _ else _) = _
  rw [if_neg this]
theorem rqE_ix {h l w i : Nat} (hi : i ≤ 281474976710656) : rqQ h l w (gX 5 (i / 1000) ++ [d3 (i % 1000)]) = some (h, l, i, w) := by
  have hm : i % 1000 < 1000 := Nat.mod_lt _ (by decide)
  have e : (gX 5 (i / 1000) ++ [d3 (i % 1000)]).flatMap rqX = ixD i := by
    rw [List.flatMap_append, gX_flat]
    simp [rqX_d3 hm, ixD]
  have hd : Lib.decFrom 0 (ixD i) = some i := by
    unfold ixD
    rw [decFrom_app, gD_dec 5 (i / 1000) (by omega), Option.bind_some, d3_dec hm]
    congr 1
    omega
  unfold rqQ
  rw [e, if_pos (fun x hx => ?_), stz_num (by simp [ixD, d3]) hd hi]
  · rfl
  · rcases List.mem_append.1 hx with hx | hx
    · obtain ⟨m, _, rfl⟩ := gX_x _ _ x hx
      simp [rqX, d3]
    · rw [show x = d3 (i % 1000) by simpa using hx, rqX_d3 hm]
      simp [d3]
theorem getD_end2 (A : List (List UInt8)) (x y : List UInt8) : (A ++ [x, y]).getD ((A ++ [x, y]).length - 2) [] = x ∧ (A ++ [x, y]).getD ((A ++ [x, y]).length - 1) [] = y ∧ (A ++ [x, y]).take ((A ++ [x, y]).length - 2) = A := by
  have h2 : (A ++ [x, y]).length - 2 = A.length := by simp
  have h1 : (A ++ [x, y]).length - 1 = A.length + 1 := by simp
  refine ⟨?_, ?_, ?_⟩
  · rw [h2, List.getD_eq_getElem?_getD, List.getElem?_append_right (Nat.le_refl _), Nat.sub_self]
    rfl
  · rw [h1, List.getD_eq_getElem?_getD, List.getElem?_append_right (by omega), show A.length + 1 - A.length = 1 by omega]
    rfl
  · rw [h2, List.take_left]
theorem rqT_full {h l i : Nat} (hi : i ≤ 281474976710656) : rqT h l (gX 5 (i / 1000) ++ [d3 (i % 1000)]) = some (h, l, i, 2 ^ h) := by
  have hp : rqP (gX 5 (i / 1000) ++ [d3 (i % 1000)]) = false := by
    rcases List.eq_nil_or_concat (gX 5 (i / 1000)) with e | ⟨A, x, e⟩
    · rw [e]
      rfl
    · obtain ⟨m, hm, rfl⟩ := gX_x 5 (i / 1000) x (by rw [e]; simp)
      rw [e, List.concat_eq_append, List.append_assoc, show ([120 :: d3 m] ++ [d3 (i % 1000)] : List (List UInt8)) = [120 :: d3 m, d3 (i % 1000)] from rfl]
      unfold rqP
      rw [(getD_end2 A (120 :: d3 m) (d3 (i % 1000))).1]
      have hne : (120 :: d3 m : List UInt8).drop ((120 :: d3 m : List UInt8).length - 2) ≠ [46, 112] := by
        intro h
        have h1 := (d3_dg hm (UInt8.ofNat (48 + m / 10 % 10)) (by simp [d3])).ne.1
        simp [d3] at h
        exact h1 (by simpa using h.1)
      rw [decide_eq_false hne]
      simp
  unfold rqT
  rw [hp, if_neg (by decide), rqE_ix hi]
theorem rqT_part {h l i n : Nat} (hi : i ≤ 281474976710656) (hn : n ≤ 281474976710656) : rqT h l (gX 5 (i / 1000) ++ [d3 (i % 1000) ++ [46, 112], Lib.decDigits n]) = some (h, l, i, n) := by
  obtain ⟨e1, e2, e3⟩ := getD_end2 (gX 5 (i / 1000)) (d3 (i % 1000) ++ [46, 112]) (Lib.decDigits n)
  have hp : rqP (gX 5 (i / 1000) ++ [d3 (i % 1000) ++ [46, 112], Lib.decDigits n]) = true := by
    unfold rqP
    rw [e1]
    simp [d3]
  have hg : rqG (gX 5 (i / 1000) ++ [d3 (i % 1000) ++ [46, 112], Lib.decDigits n]) = gX 5 (i / 1000) ++ [d3 (i % 1000)] := by
    unfold rqG
    rw [e1, e3]
    simp [d3]
  unfold rqT
  rw [hp, if_pos rfl, e2, stz_num (dec_ne n) (dec_of n n (Nat.le_refl _)) hn, Option.bind_some, hg, rqE_ix hi]
theorem rq_path {h l i n : Nat} (hh : isH h) (hl : l ≤ 48) (hi : i < 281474976710656) (hn : n ≤ 2 ^ h) : rqR (pU h l i n) = some (h, l, i, n) := by
  have h8 := hh.2
  have hp := hh.pow
  have d1 : ∀ b ∈ Lib.decDigits h, b ≠ 47 := fun b hb => (dec_dg h h (Nat.le_refl _) b hb).ne.2.1
  have d2 : ∀ b ∈ Lib.decDigits l, b ≠ 47 := fun b hb => (dec_dg l l (Nat.le_refl _) b hb).ne.2.1
  have d4 : ∀ b ∈ Lib.decDigits n, b ≠ 47 := fun b hb => (dec_dg n n (Nat.le_refl _) b hb).ne.2.1
  have hm : i % 1000 < 1000 := Nat.mod_lt _ (by decide)
  have d3' : ∀ b ∈ d3 (i % 1000), b ≠ 47 := fun b hb => (d3_dg hm b hb).ne.2.1
  have key : ∀ Y : List UInt8, splitS (tileB ++ (Lib.decDigits h ++ [47] ++ (Lib.decDigits l ++ [47] ++ (ixF 5 (i / 1000) ++ Y)))) = tileW :: Lib.decDigits h :: Lib.decDigits l :: (gX 5 (i / 1000) ++ splitS Y) := by
    intro Y
    rw [show tileB ++ (Lib.decDigits h ++ [47] ++ (Lib.decDigits l ++ [47] ++ (ixF 5 (i / 1000) ++ Y))) = tileW ++ 47 :: (Lib.decDigits h ++ 47 :: (Lib.decDigits l ++ 47 :: (ixF 5 (i / 1000) ++ Y))) by simp [tileB, tileW]]
    rw [splitS_app _ (by decide), splitS_app _ d1, splitS_app _ d2, split_ix]
  have hrest : ∀ R : List (List UInt8), splitS (pU h l i n) = tileW :: Lib.decDigits h :: Lib.decDigits l :: (gX 5 (i / 1000) ++ R) → R ≠ [] → rqT h l (gX 5 (i / 1000) ++ R) = some (h, l, i, n) → rqR (pU h l i n) = some (h, l, i, n) := by
    intro R hsp hR ht
    unfold rqR
    rw [hsp]
    obtain ⟨p3, rest, hc⟩ : ∃ p3 rest, gX 5 (i / 1000) ++ R = p3 :: rest := by
      cases hg : gX 5 (i / 1000) ++ R with
      | nil => exact absurd (List.append_eq_nil_iff.1 hg).2 hR
      | cons a b => exact ⟨a, b, rfl⟩
    rw [hc] at ht ⊢
    simp only [if_true, stz_num (dec_ne h) (dec_of h h (Nat.le_refl _)) (by omega), stz_num (dec_ne l) (dec_of l l (Nat.le_refl _)) (by omega), Option.bind_some]
    rw [if_pos ⟨hh.1, h8⟩]
    exact ht
  by_cases hw : n < 2 ^ h
  · have e : pU h l i n = tileB ++ (Lib.decDigits h ++ [47] ++ (Lib.decDigits l ++ [47] ++ (ixF 5 (i / 1000) ++ ((d3 (i % 1000) ++ [46, 112]) ++ 47 :: Lib.decDigits n)))) := by
      unfold pU nmU ixP
      rw [if_pos hw]
      simp [markB]
    refine hrest [d3 (i % 1000) ++ [46, 112], Lib.decDigits n] ?_ (by simp) (rqT_part (by omega) (by omega))
    rw [e, key, splitS_app _ (fun b hb => ?_), splitS_no d4]
    rcases List.mem_append.1 hb with hb | hb
    · exact d3' b hb
    · simp at hb; rcases hb with rfl | rfl <;> decide
  · have e : pU h l i n = tileB ++ (Lib.decDigits h ++ [47] ++ (Lib.decDigits l ++ [47] ++ (ixF 5 (i / 1000) ++ d3 (i % 1000)))) := by
      unfold pU nmU ixP
      rw [if_neg hw]
    have e2 : n = 2 ^ h := by omega
    refine hrest [d3 (i % 1000)] ?_ (by simp) (by rw [rqT_full (by omega), ← e2])
    rw [e, key, splitS_no d3']
/-- A text out of which nothing is read is no tile's path. -/
theorem rq_none {s : List UInt8} (h : rqR s = none) : ¬ ∃ h l i n, tOK h l i n ∧ pathI h l i n = s := by
  rintro ⟨a, b, c, d, k, rfl⟩
  obtain ⟨H, L, I, N, rfl, rfl, rfl, rfl, hH, h1, h2, h3, h4⟩ := k.nats
  unfold pathI at h
  simp only [Int.toNat_natCast] at h
  rw [rq_path hH h1 h2 h4] at h
  cases h
theorem rq_some {s : List UInt8} {h l i n : Nat} (hr : rqR s = some (h, l, i, n)) {a b c d : Int} (k : tOK a b c d) (e : pathI a b c d = s) : a = h ∧ b = l ∧ c = i ∧ d = n := by
  obtain ⟨H, L, I, N, rfl, rfl, rfl, rfl, hH, h1, h2, h3, h4⟩ := k.nats
  subst e
  unfold pathI at hr
  simp only [Int.toNat_natCast] at hr
  rw [rq_path hH h1 h2 h4] at hr
  simp only [Option.some.injEq, Prod.mk.injEq] at hr
  omega
end Go.Proofs.YtlgcjdgcgnlcaaaGreatDoor

/-
  A text read as a tile's path: the document's Parse.
-/
namespace Go.Proofs.YtlgcjdgcgnlcaaaGreatDoor
open Go.RowKit
set_option linter.unusedVariables false
set_option linter.unusedSimpArgs false

/-- How the document's Parse may end. -/
def PsR (s : List UInt8) (r : Ending) : Prop := (∃ h l i n : Nat, rqR s = some (h, l, i, n) ∧ tOK (h : Int) (l : Int) (i : Int) (n : Int) ∧ pathI (h : Int) (l : Int) (i : Int) (n : Int) = s ∧ r = .returned (.tuple #[.agg (c4 (h : Int) (l : Int) (i : Int) (n : Int)).toArray, .int .i64 0])) ∨
  (r = .returned (.tuple #[.agg (c4 0 0 0 0).toArray, .int .i64 100]) ∧ (rqR s = none ∨ ∃ h l i n : Nat, rqR s = some (h, l, i, n) ∧ ¬ (tOK (h : Int) (l : Int) (i : Int) (n : Int) ∧ pathI (h : Int) (l : Int) (i : Int) (n : Int) = s)))
theorem step_addW {dst : Option Tmp} {ty : TypeId} {pos : String} {aft : Array Edge} {gd : Option (Nat × Bool)} {ops : Array Oper} {rest : List Oper} {a : Act} {w : World} {Q : Exit → Act → World → Prop} {x y : Operand} {p q r : List UInt8} (hw : Region.wanted ⟨dst, .binOp .add 9 x y 9, ty, pos, aft, gd⟩ (yielded ops a.tmps) = true) (hx : a.eval x = .string (bA p)) (hy : a.eval y = .string (bA q)) (hs : p ++ q = r ∧ p.length + q.length ≤ 9000000)
    (h : wpList Tryz.prog ops Q rest (a.put dst (.string (bA r))) w) : wpList Tryz.prog ops Q (⟨dst, .binOp .add 9 x y 9, ty, pos, aft, gd⟩ :: rest) a w := by
  obtain ⟨rfl, hs⟩ := hs
  have hr := run_addS (dst := dst) (ty := ty) (pos := pos) (aft := aft) (gd := gd) (w := w) hx hy (by rw [bA_size, bA_size]; omega)
  rw [bA_app] at hr
  exact step_run hw _ w hr h
theorem tl_tile : (bA tileW).toList = [116, 105, 108, 101] := by decide +kernel
theorem tl_mark : (bA [46, 112]).toList = [46, 112] := by decide +kernel
theorem st_from (g o n cap k : Nat) (K : Int) (hK : K = (k : Int)) (hk : k ≤ n) (hn : n ≤ cap) (hlt : k < cap) (v : World) : (Instr.slice 91 (.slice (some ⟨g, o, none⟩) n cap) (some (.int .i64 K)) none none).run Tryz.prog v = .ok (.slice (some ⟨g, o + k, none⟩) (n - k) (cap - k)) v := by
  subst hK
  rw [run_slice_l v _ _ _ _ undSs .i64 k (by omega) (by omega), elemSt, sizeSt]
  have : ¬ cap = k := by omega
  simp [sliced, this, Addr.add_lit]

theorem st_atO (b o n cap i : Nat) (I : Int) (hI : I = (i : Int)) (hi : i < n) (v : World) : (Instr.indexAt 91 (.slice (some ⟨b, o, none⟩) n cap) (.int .i64 I)).run Tryz.prog v = .ok (.pointer (some ⟨b, o + i, none⟩)) v := by
  subst hI
  rw [run_indexAt_slice v _ _ _ _ .i64 i undSs, if_pos ⟨by omega, by omega⟩, elemSt, sizeSt]
  simp only [Result.andThen_ok, Int.toNat_natCast]
  rw [Addr.add_lit, Nat.mul_one]
/-- Texts that lie somewhere. -/
def SL (w : World) (g o : Nat) (L : List (List UInt8)) : Prop := ∀ i l, L[i]? = some l → w.cell? ⟨g, o + i, none⟩ = some (.string (bA l))
theorem SL.below {w w' : World} {g o : Nat} {L : List (List UInt8)} (h : SL w g o L) (hb : Below w.heap.size w w') : SL w' g o L := fun i l hl => cell_kept (h i l hl) hb
theorem SL.but {w w' : World} {g o k : Nat} {L : List (List UInt8)} (h : SL w g o L) (hb : But k w w') (hk : g ≠ k) : SL w' g o L := fun i l hl => by
  rw [World.cell?_of_block (w := w) (hb.block g hk)]
  exact h i l hl
theorem first_of {q : List UInt8} {a : UInt8} {t : List UInt8} (h : q = a :: t) (hz : 0 < (bA q).size) : ((bA q)[0]'hz) = a := by subst h; rfl
theorem flat_snoc {L : List (List UInt8)} {j : Nat} {x : List UInt8} (h : L[j]? = some x) : (L.take (j + 1)).flatMap rqX = (L.take j).flatMap rqX ++ rqX x := by
  have hj : j < L.length := (List.getElem?_eq_some_iff.1 h).1
  rw [List.take_add_one, h, List.flatMap_append]
  simp
theorem take_snoc_all {L : List (List UInt8)} {j : Nat} {x : List UInt8} (h : L[j]? = some x) (ha : ∀ y ∈ L.take j, (rqX y).length ≤ 3) (hx : (rqX x).length ≤ 3) : ∀ y ∈ L.take (j + 1), (rqX y).length ≤ 3 := by
  intro y hy
  rw [List.take_add_one, h, List.mem_append] at hy
  rcases hy with hy | hy
  · exact ha y hy
  · rw [show y = x by simpa using hy]; exact hx
/-- What stands at the loop over the groups. -/
def LD (L : List (List UInt8)) (j : Nat) (D : List UInt8) : Prop := D = (L.take j).flatMap rqX ∧ ∀ y ∈ L.take j, (rqX y).length ≤ 3
theorem build0St (w : World) : (Instr.buildSlice 91 0 #[]).run Tryz.prog w = .ok (.slice (some ⟨w.heap.size, 0, none⟩) 0 0) (w.alloc (.cells #[] 9)) := by kernel_rfl
theorem st_to (g o n cap k : Nat) (hk : k ≤ n) (hn : n ≤ cap) (h0 : 0 < cap) (v : World) : (Instr.slice 91 (.slice (some ⟨g, o, none⟩) n cap) none (some (.int .i64 (k : Int))) none).run Tryz.prog v = .ok (.slice (some ⟨g, o, none⟩) k cap) v := by
  rw [run_slice_h v _ _ _ _ undSs .i64 k (by omega) (by omega), elemSt, sizeSt]
  have : ¬ cap = 0 := by omega
  simp [sliced, this, Addr.add_lit]
theorem joinQ {T : Program} {c : Code} {a : Act} {w : World} {Q : Exit → Act → World → Prop} {K : Act → World → Prop} (P : Value → World → Prop) (act : Nat → Value → Nat → Value → Act) (h1 : ∀ g v g' v' W, P v' W → K (act g v g' v') W) (h2 : (∀ g v g' v' W, P v' W → K (act g v g' v') W) → Code.wp T c (Exit.then K Q) a w) : Code.wp T c (Exit.then K Q) a w := h2 h1
section
variable {dst : Option Tmp} {ty : TypeId} {pos : String} {aft : Array Edge} {gd : Option (Nat × Bool)} {a : Act} {w : World} {K : Act → World → Prop} {Q : Exit → Act → World → Prop}
set_option maxRecDepth 100000 in
theorem wp_0st (h : ∀ w1 g, TO w1 w.heap.size (.slice (some ⟨g, 0, none⟩) 0 0) [] → w.heap.size ≤ g → g < w1.heap.size → Below w.heap.size w w1 → K (a.put dst (.slice (some ⟨g, 0, none⟩) 0 0)) w1) :
    Oper.wp Tryz.prog ⟨dst, .buildSlice 91 0 #[], ty, pos, aft, gd⟩ a w K Q := by
  refine wp_runV (.slice (some ⟨w.heap.size, 0, none⟩) 0 0) (w.alloc (.cells #[] 9)) ?_ (h _ _ ⟨by simp [sts], .inr ⟨w.heap.size, 0, #[], rfl, Nat.le_refl _, heap_alloc_new w _, Nat.le_refl _, by unfold maxLen; omega, by simp, by simp [sts]⟩⟩ (Nat.le_refl _) (by simp) ((Below.refl _ _).alloc (Nat.le_refl _) _))
  unfold execOp
  simp only [List.map_toArray, List.map_nil]
  simp only [Sem.run_bind, build0St, Result.andThen_ok, Sem.run_pure]
theorem wpT_app0 {s x : Operand} {B g0 : Nat} {ms : List (List UInt8)} {g o n c : Nat} (hs : a.eval s = .slice (some ⟨g0, 0, none⟩) 0 0) (hx : a.eval x = .slice (some ⟨g, o, none⟩) n c) (hown : TO w B (.slice (some ⟨g0, 0, none⟩) 0 0) []) (hn : ms.length = n) (hy : SL w g o ms) (hlen : ms.length ≤ 2097160) (hB : B ≤ w.heap.size)
    (h : ∀ v' w', TO w' B v' ms → w.grownBy w' (some g0) → K (a.put dst v') w') :
    Oper.wp Tryz.prog ⟨dst, .call { callee := .builtin .append, args := #[s, x], argTypes := #[91, 91] }, ty, pos, aft, gd⟩ a w K Q := by
  by_cases hm : ms = []
  · subst hm
    subst hn
    obtain ⟨i0, hi, hz0, hz1, hz2⟩ := info_parts infoSt
    have hr : (Builtin.append_ #[91, 91] ty #[.slice (some ⟨g0, 0, none⟩) 0 0, .slice (some ⟨g, o, none⟩) 0 c]).run Tryz.prog w = .ok (.slice (some ⟨g0, 0, none⟩) 0 0) w :=
      run_append_nothing w _ _ ty _ i0 undSt hi _ 0 0 (Nat.le_refl _) _ (Src.ofSlice w undSt ⟨g, o, none⟩ 0 c [] (by simp) (fun j u hu => by simp at hu) (fun u hu => by simp at hu))
    unfold Oper.wp
    simp only [List.length_nil] at hx
    simp [execOp, resolve, invoke, builtin, hs, hx, hr, Result.andThen]
    exact h _ _ hown (World.grownBy.refl _ _)
  · exact wp_appSt (ls := []) hs hx hown hn hy hm (by simp; omega) hB fun v' w' h1 h2 => h v' w' (by simpa using h1) h2
end
theorem TO.lower {w : World} {B B' : Nat} {v : Value} {ls : List (List UInt8)} (h : TO w B v ls) (hB : B' ≤ B) : TO w B' v ls := by
  obtain ⟨h1, h2⟩ := h
  refine ⟨h1, ?_⟩
  rcases h2 with h2 | ⟨g, cap, cur, e, hg, r⟩
  · exact .inl h2
  · exact .inr ⟨g, cap, cur, e, Nat.le_trans hB hg, r⟩
theorem keep_row {w w' : World} {g : Nat} {t : TypeId} {cs : List Value} {row : Option Nat} (h : Blk w g t cs) (hg : w.grownBy w' row) (hne : some g ≠ row) : Blk w' g t cs := by
  unfold Blk
  rw [hg.block g h.lt hne]
  exact h
set_option maxRecDepth 100000 in
set_option maxHeartbeats 16000000 in
theorem parseR_walk (s : List UInt8) (w : World) (hs : s.length ≤ 1048576) : Calls Tryz.prog 42 #[.string (bA s)] w fun r w' => PsR s r ∧ Below w.heap.size w w' := by
  have HPc := hide (fun v => piecesT_any s v hs)
  obtain ⟨P, hP⟩ : ∃ P, splitS s = P := ⟨_, rfl⟩
  have hPn : P ≠ [] := by rw [← hP]; exact splitS_ne s
  have hPl : P.length ≤ 1048577 := by rw [← hP]; have := splitS_len s; omega
  have HPe : Hid (∀ x ∈ P, x.length ≤ 1048576) := hide (fun x hx => by rw [← hP] at hx; exact Nat.le_trans (splitS_each s x hx) hs)
  rw [hP] at HPc
  go_enter Tryz.func42, Tryz.ntmps42
  go_wp2_with (refine step_alloc zT rfl ?_)
  intro w0 g2 hg hle hb
  have G0 := hide hg
  have B0 := hide hb
  have LE := hide hle
  clear hg hb hle
  go_wp2_with fail
  refine (HPc.out _).mono ?_
  rintro r w1 ⟨v, rfl, hto, hb1⟩
  obtain ⟨gp, cp, rfl, hgB, hgl, hcap, hcm, hcell⟩ := hto.lies hPn
  have G1 := hide (G0.out.on hb1)
  have B1 := hide (on_below B0.out hb1)
  have C1 := hide hcell
  clear hto hb1 hcell HPc G0 B0
  by_cases h4 : P.length < 4
  · have h4' : (P.length : Int) < 4 := by omega
    have HNo : Hid (rqR s = none) := hide (by
      unfold rqR
      rw [hP]
      match P, h4 with
      | [], _ => rfl
      | [a], _ => rfl
      | [a, b], _ => rfl
      | [a, b, c], _ => rfl)
    go_upto_region 3 with fail
    go_wp2_with (refine step_storeA wT rfl rfl (vs := c4 0 0 0 0) rfl G1.out rfl (One.c4 0 0 0 0) rfl ?_)
    intro wz hgz hbutz
    have BE := hide (B1.out.trans (hbutz.below LE.out))
    go_wp2
    refine bodyPost_ret (results_wide2 rfl wT _ _ rfl hgz rfl) rfl ⟨.inr ⟨rfl, .inl HNo.out⟩, BE.out⟩
  · obtain ⟨p0, p1, p2, p3, rest, rfl⟩ : ∃ a b c d l, P = a :: b :: c :: d :: l := by
      match P, h4 with
      | [], h => exact absurd (by simp) h
      | [a], h => exact absurd (by simp) h
      | [a, b], h => exact absurd (by simp) h
      | [a, b, c], h => exact absurd (by simp) h
      | a :: b :: c :: d :: l, _ => exact ⟨a, b, c, d, l, rfl⟩
    have HR0 : Hid (rqR s = if p0 = tileW then (nmO (stz p1)).bind fun h => (nmO (stz p2)).bind fun l => if 1 ≤ h ∧ h ≤ 8 then rqT h l (p3 :: rest) else none else none) := hide (by unfold rqR; rw [hP])
    obtain ⟨NP, HNP⟩ : ∃ n, Hid ((p0 :: p1 :: p2 :: p3 :: rest).length = n) := ⟨_, hide rfl⟩
    rw [HNP.out] at h4 hPl hcap ⊢
    have h4' : ¬ (NP : Int) < 4 := by omega
    have c0 := C1.out 0 p0 rfl
    have x0 := stT_at gp NP cp 0 0 rfl (by omega)
    by_cases hp0 : p0 = tileW
    · have HR1 : Hid (rqR s = (nmO (stz p1)).bind fun h => (nmO (stz p2)).bind fun l => if 1 ≤ h ∧ h ≤ 8 then rqT h l (p3 :: rest) else none) := hide (by rw [HR0.out, if_pos hp0])
      have e0 : ((bA p0).toList == [116, 105, 108, 101]) = true := by have := beq_bA p0 tileW; rw [decide_eq_true hp0, tl_tile] at this; exact this
      clear hp0 HR0
      go_upto_region 4 with fail
      clear c0 x0 h4' e0
      go_wp2_with (refine step_alloc zT rfl ?_)
      intro w2 g5 hg5 hle5 hb5
      have G2 := hide (G1.out.on hb5)
      have B2 := hide (on_below B1.out hb5)
      have T2 := hide hg5
      have C2 : Hid (∀ (i : Nat) (l : List UInt8), (p0 :: p1 :: p2 :: p3 :: rest)[i]? = some l → w2.cell? ⟨gp, i, none⟩ = some (.string (bA l))) := hide (fun i l hl => cell_kept (C1.out i l hl) hb5)
      have L5 := hide (Nat.le_trans B1.out.size hle5)
      have hne25 : g2 ≠ g5 := by have := G1.out.lt; omega
      have hgp5 : gp ≠ g5 := by omega
      clear hg5 hle5 hb5 G1 B1 C1
      have c1 := C2.out 1 p1 rfl
      have x1 := stT_at gp NP cp 1 1 rfl (by omega)
      have HL1 := hide (plain_any p1 w2 (Nat.le_trans (HPe.out p1 (by simp)) (by decide)))
      go_wp2_with fail
      refine HL1.out.mono ?_
      rintro r w3 ⟨hb3, hr3⟩
      have G3 := hide (G2.out.on hb3)
      have B3 := hide (on_below B2.out hb3)
      have T3 := hide (T2.out.on hb3)
      have C3 : Hid (∀ (i : Nat) (l : List UInt8), (p0 :: p1 :: p2 :: p3 :: rest)[i]? = some l → w3.cell? ⟨gp, i, none⟩ = some (.string (bA l))) := hide (fun i l hl => cell_kept (C2.out i l hl) hb3)
      clear hb3 G2 B2 T2 C2 HL1 c1 x1
      have c2 := C3.out 2 p2 rfl
      have x2 := stT_at gp NP cp 2 2 rfl (by omega)
      have HL2 := hide (plain_any p2 w3 (Nat.le_trans (HPe.out p2 (by simp)) (by decide)))
      rcases hr3 with ⟨h, hh, rfl⟩ | ⟨hno, x, rfl⟩
      · have HH1 := hide hh
        clear hh
        go_wp2_with fail
        refine HL2.out.mono ?_
        rintro r w4 ⟨hb4, hr4⟩
        have G4 := hide (G3.out.on hb4)
        have B4 := hide (on_below B3.out hb4)
        have T4 := hide (T3.out.on hb4)
        have C4 : Hid (∀ (i : Nat) (l : List UInt8), (p0 :: p1 :: p2 :: p3 :: rest)[i]? = some l → w4.cell? ⟨gp, i, none⟩ = some (.string (bA l))) := hide (fun i l hl => cell_kept (C3.out i l hl) hb4)
        clear hb4 G3 B3 T3 C3 HL2 c2 x2
        rcases hr4 with ⟨l, hl, rfl⟩ | ⟨hno, x, rfl⟩
        · have HL1 := hide hl
          clear hl
          by_cases hH : 1 ≤ h ∧ h ≤ 8
          · have HRT : Hid (rqR s = rqT h l (p3 :: rest)) := hide (by rw [HR1.out, HH1.out, Option.bind_some, HL1.out, Option.bind_some, if_pos hH])
            have HHc := hide (fun v => heightR_yes h v ⟨hH.1, hH.2⟩)
            obtain ⟨Pw, hPw⟩ : ∃ P, 2 ^ h = P := ⟨_, rfl⟩
            have HFu := hide (fun v => full_any h Pw v ⟨hH.1, hH.2⟩ hPw)
            have HPw := hide hPw
            clear HR1 hPw
            go_upto_region 9 with (go_at_call 65; refine (HHc.out _).mono ?_; rintro r w' ⟨rfl, hv⟩; replace hv := hv.symm; subst hv)
            clear HHc
            have f0 := T4.out.free 0
            obtain ⟨t0, t1, t2, t3⟩ := T4.out.four
            have S4 : Hid (SL w4 gp 3 (p3 :: rest)) := hide (fun i l hl => by
              rw [Nat.add_comm]
              exact C4.out (i + 3) l hl)
            clear C4
            go_upto_region 10 with fail
            obtain ⟨w5, hv⟩ : ∃ v : World, v = w4.setCell ⟨g5, 0, none⟩ (.int .i64 (h : Int)) := ⟨_, rfl⟩
            have T5 : Hid (Blk w5 g5 43 (c4 (h : Int) 0 0 0)) := hide (by rw [hv]; exact T4.out.set 0 _)
            have hbut : But g5 w4 w5 := by rw [hv]; exact But.setCell _ _ _ _
            have G5 := hide (G4.out.but hbut hne25)
            have B5 := hide (B4.out.trans (hbut.below L5.out))
            have S5 := hide (S4.out.but hbut hgp5)
            rw [← hv]
            clear hv hbut T4 G4 B4 S4 t0 t1 t2 t3 f0
            obtain ⟨t0, t1, t2, t3⟩ := T5.out.four
            have f0 := T5.out.free 1
            go_upto_region 11 with fail
            obtain ⟨w6, hv⟩ : ∃ v : World, v = w5.setCell ⟨g5, 1, none⟩ (.int .i64 (l : Int)) := ⟨_, rfl⟩
            have T6 : Hid (Blk w6 g5 43 (c4 (h : Int) (l : Int) 0 0)) := hide (by rw [hv]; exact T5.out.set 1 _)
            have hbut : But g5 w5 w6 := by rw [hv]; exact But.setCell _ _ _ _
            have G6 := hide (G5.out.but hbut hne25)
            have B6 := hide (B5.out.trans (hbut.below L5.out))
            have S6 := hide (S5.out.but hbut hgp5)
            rw [← hv]
            clear hv hbut T5 G5 B5 S5 t0 t1 t2 t3 f0
            obtain ⟨t0, t1, t2, t3⟩ := T6.out.four
            have f0 := T6.out.free 3
            go_upto_region 12 with (go_at_call 36; refine (HFu.out _).mono ?_; rintro r w' ⟨rfl, hv⟩; replace hv := hv.symm; subst hv)
            obtain ⟨w7, hv⟩ : ∃ v : World, v = w6.setCell ⟨g5, 3, none⟩ (.int .i64 (Pw : Int)) := ⟨_, rfl⟩
            have T7 : Hid (Blk w7 g5 43 (c4 (h : Int) (l : Int) 0 (Pw : Int))) := hide (by rw [hv]; exact T6.out.set 3 _)
            have hbut : But g5 w6 w7 := by rw [hv]; exact But.setCell _ _ _ _
            have G7 := hide (G6.out.but hbut hne25)
            have B7 := hide (B6.out.trans (hbut.below L5.out))
            have S7 := hide (S6.out.but hbut hgp5)
            rw [← hv]
            clear hv hbut T6 G6 B6 S6 t0 t1 t2 t3 f0
            obtain ⟨t0, t1, t2, t3⟩ := T7.out.four
            have x12 := st_from gp 0 NP cp 3 3 rfl (by omega) hcap (by omega)
            rw [Nat.zero_add] at x12
            obtain ⟨NR, hNR⟩ : ∃ n, NP - 3 = n := ⟨_, rfl⟩
            obtain ⟨cr, hcr⟩ : ∃ n, cp - 3 = n := ⟨_, rfl⟩
            rw [hNR, hcr] at x12
            have HLR : Hid ((p3 :: rest).length = NR) := hide (by have := HNP.out; simp only [List.length_cons] at this ⊢; omega)
            have HRe : Hid (∀ x ∈ p3 :: rest, x.length ≤ 1048576) := hide (fun x hx => HPe.out x (by simp at hx ⊢; rcases hx with rfl | hx <;> simp [*]))
            have hNRb : 1 ≤ NR ∧ NR ≤ 1048574 := by omega
            have hNRc : NR ≤ cr := by omega
            clear HPe HNP hP hPn hNR hcr h4 HFu HH1 HL1 t0 t1 t2 t3 hcm
            generalize p3 :: rest = R at *
            go_upto_region 14 with fail
            have B7r := B7.out
            by_cases hn2 : NR < 2
            · have d2 : decide (2 ≤ (NR : Int)) = false := by simp; omega
              have d2b : decide (2 ≤ NR) = false := by simp; omega
              have d2c : decide ((NR : Int) ≥ 2) = false := by simp; omega
              go_quiet (fail)
              have HE : Hid (rqR s = rqQ h l Pw R) := hide (by
                rw [HRT.out, ← HPw.out]
                unfold rqT rqP
                rw [HLR.out, decide_eq_false (by omega)]
                simp)
              obtain ⟨V, hV⟩ : ∃ V : World, V = w7.drewN nq := ⟨_, rfl⟩
              have hbV : Below w7.heap.size w7 V := by rw [hV]; exact below_drews (Below.refl _ _) nq
              have G8 := hide (G7.out.on hbV)
              have T8 := hide (T7.out.on hbV)
              have B8 := hide (on_below B7.out hbV)
              have S8 := hide (S7.out.below hbV)
              rw [← hV]
              clear hV hbV G7 T7 B7 S7 B7r
              have HLN := HLR
              have HLE := HRe
              go_wp2_with fail
              go_loopw [14, 15] (fun d i wr => ∃ (j : Nat) (D : List UInt8), d = .string (bA D) ∧ i = .int .i64 (j : Int) ∧ j ≤ NR ∧ D.length ≤ 3 * j ∧ Hid (LD R j D) ∧ wr = V) (fun _ i _ => NR - (intOf i).toNat)
              case atStart => exact ⟨0, [], rfl, rfl, Nat.zero_le _, by simp, hide ⟨rfl, by simp⟩, rfl⟩
              case round =>
                obtain ⟨j, D, rfl, rfl, hj, hDl, HD, rfl⟩ := hrel
                by_cases hlt : j < NR
                · have hlt' : (j : Int) < (NR : Int) := by omega
                  obtain ⟨x, hx⟩ : ∃ x, R[j]? = some x := ⟨R[j]'(by rw [HLN.out]; exact hlt), List.getElem?_eq_getElem (by rw [HLN.out]; exact hlt)⟩
                  have HX := hide hx
                  have cx := S8.out j x hx
                  have xa := st_atO gp 3 NR cr j (j : Int) rfl hlt
                  have hxl := HLE.out x (List.mem_of_getElem? hx)
                  have hszx := bA_size x
                  try rw [Nat.zero_add] at cx
                  try rw [Nat.zero_add] at xa
                  clear hx
                  cases hxe : x with
                  | nil =>
                    subst hxe
                    have W1 : Hid (D ++ [] = D ∧ D.length + ([] : List UInt8).length ≤ 9000000) := hide ⟨by simp, by simp; omega⟩
                    have HN2 : Hid (LD R (j + 1) D) := hide ⟨by rw [flat_snoc HX.out, ← HD.out.1]; simp [rqX], take_snoc_all HX.out HD.out.2 (by simp [rqX])⟩
                    have hsz0 : (bA []).size = 0 := rfl
                    go_wp2_with (refine step_addW (p := D) (q := []) (r := D) rfl rfl rfl W1.out ?_)
                    exact ⟨⟨j + 1, D, rfl, by simp, hlt, by omega, HN2, trivial⟩, by simp only [intOf]; omega⟩
                  | cons a t =>
                    have hz : 0 < (bA x).size := by rw [hszx, hxe]; simp
                    have hz' : (0 : Int) < ((bA x).size : Int) := by omega
                    have hfa := first_of hxe hz
                    have hpos : 0 < x.length := by rw [hxe]; simp
                    by_cases ha : a = 120
                    · have e120 : (((((bA x)[0]'hz).toNat : Nat) : Int) == 120) = true := by rw [hfa, ha]; rfl
                      have x1 := slice_str x 1 1 rfl (by omega)
                      have hdr : x.drop 1 = t := by rw [hxe]; rfl
                      rw [hdr] at x1
                      have HYE : Hid (rqX x = t) := hide (by rw [hxe, ha]; rfl)
                      have hszt := bA_size t
                      have htl : t.length ≤ 1048576 := by have := congrArg List.length hxe; simp at this; omega
                      clear hxe ha hfa hdr
                      by_cases hx3 : 3 < t.length
                      · have HNo : Hid (rqR s = none) := hide (by
                          rw [HE.out]
                          unfold rqQ
                          rw [if_neg (fun h => absurd (h _ (List.mem_of_getElem? HX.out)) (by rw [HYE.out]; omega))])
                        have hx3' : (3 : Int) < (t.length : Int) := by omega
                        go_upto_region 28 with fail
                        go_wp2_with (refine step_storeA wT rfl rfl (vs := c4 0 0 0 0) rfl G8.out rfl (One.c4 0 0 0 0) rfl ?_)
                        intro wz hgz hbutz
                        have BE := hide (B8.out.trans (hbutz.below LE.out))
                        go_wp2
                        refine bodyPost_ret (results_wide2 rfl wT _ _ rfl hgz rfl) rfl ⟨.inr ⟨rfl, .inl HNo.out⟩, BE.out⟩
                      · have HN2 : Hid (LD R (j + 1) (D ++ t)) := hide ⟨by rw [flat_snoc HX.out, ← HD.out.1, HYE.out], take_snoc_all HX.out HD.out.2 (by rw [HYE.out]; omega)⟩
                        have hx3' : ¬ (3 : Int) < (t.length : Int) := by omega
                        obtain ⟨DD, hDD⟩ : ∃ z, D ++ t = z := ⟨_, rfl⟩
                        have W1 : Hid (D ++ t = DD ∧ D.length + t.length ≤ 9000000) := hide ⟨hDD, by omega⟩
                        rw [hDD] at HN2
                        have hdl : DD.length ≤ 3 * (j + 1) := by rw [← hDD, List.length_append]; omega
                        clear hDD
                        go_wp2_with (refine step_addW (p := D) (q := t) (r := DD) rfl rfl rfl W1.out ?_)
                        exact ⟨⟨j + 1, DD, rfl, by simp, hlt, hdl, HN2, trivial⟩, by simp only [intOf]; omega⟩
                    · have e120 : (((((bA x)[0]'hz).toNat : Nat) : Int) == 120) = false := by
                        rw [hfa]
                        simp only [beq_eq_false_iff_ne, ne_eq]
                        intro e
                        refine ha (UInt8.toNat_inj.1 ?_)
                        have : a.toNat = 120 := by omega
                        rw [this]; rfl
                      have HYE : Hid (rqX x = x) := hide (by
                        rw [hxe]
                        show (if a = 120 then t else a :: t) = _
                        rw [if_neg ha])
                      clear hxe ha hfa
                      by_cases hx3 : 3 < x.length
                      · have HNo : Hid (rqR s = none) := hide (by
                          rw [HE.out]
                          unfold rqQ
                          rw [if_neg (fun h => absurd (h _ (List.mem_of_getElem? HX.out)) (by rw [HYE.out]; omega))])
                        have hx3' : (3 : Int) < (x.length : Int) := by omega
                        go_upto_region 28 with fail
                        go_wp2_with (refine step_storeA wT rfl rfl (vs := c4 0 0 0 0) rfl G8.out rfl (One.c4 0 0 0 0) rfl ?_)
                        intro wz hgz hbutz
                        have BE := hide (B8.out.trans (hbutz.below LE.out))
                        go_wp2
                        refine bodyPost_ret (results_wide2 rfl wT _ _ rfl hgz rfl) rfl ⟨.inr ⟨rfl, .inl HNo.out⟩, BE.out⟩
                      · have HN2 : Hid (LD R (j + 1) (D ++ x)) := hide ⟨by rw [flat_snoc HX.out, ← HD.out.1, HYE.out], take_snoc_all HX.out HD.out.2 (by rw [HYE.out]; omega)⟩
                        have hx3' : ¬ (3 : Int) < (x.length : Int) := by omega
                        obtain ⟨DD, hDD⟩ : ∃ z, D ++ x = z := ⟨_, rfl⟩
                        have W1 : Hid (D ++ x = DD ∧ D.length + x.length ≤ 9000000) := hide ⟨hDD, by omega⟩
                        rw [hDD] at HN2
                        have hdl : DD.length ≤ 3 * (j + 1) := by rw [← hDD, List.length_append]; omega
                        clear hDD
                        go_wp2_with (refine step_addW (p := D) (q := x) (r := DD) rfl rfl rfl W1.out ?_)
                        exact ⟨⟨j + 1, DD, rfl, by simp, hlt, hdl, HN2, trivial⟩, by simp only [intOf]; omega⟩
                · have hge : ¬ (j : Int) < (NR : Int) := by omega
                  have HDA : Hid (D = R.flatMap rqX ∧ ∀ y ∈ R, (rqX y).length ≤ 3) := hide (by
                    have hd := HD.out
                    unfold LD at hd
                    rw [List.take_of_length_le (by rw [HLN.out]; omega)] at hd
                    exact hd)
                  have HL3 := hide (plain_any D wr (by omega))
                  clear HD
                  go_wp2_with fail
                  refine HL3.out.mono ?_
                  rintro r w9 ⟨hb9, hr9⟩
                  have G9 := hide (G8.out.on hb9)
                  have T9 := hide (T8.out.on hb9)
                  have B9 := hide (on_below B8.out hb9)
                  clear hb9 HL3 G8 T8 B8 S8 HLN HLE
                  rcases hr9 with ⟨ix, hix, rfl⟩ | ⟨hno, y, rfl⟩
                  · have HSm : Hid (rqR s = some (h, l, ix, Pw)) := hide (by
                      rw [HE.out]
                      unfold rqQ
                      rw [if_pos HDA.out.2, ← HDA.out.1, hix]
                      rfl)
                    clear hix HDA HE
                    have f2 := T9.out.free 2
                    obtain ⟨t0, t1, t2, t3⟩ := T9.out.four
                    go_upto_region 34 with fail
                    obtain ⟨wA, hv⟩ : ∃ v : World, v = w9.setCell ⟨g5, 2, none⟩ (.int .i64 (ix : Int)) := ⟨_, rfl⟩
                    have TA : Hid (Blk wA g5 43 (c4 (h : Int) (l : Int) (ix : Int) (Pw : Int))) := hide (by rw [hv]; exact T9.out.set 2 _)
                    have hbut : But g5 w9 wA := by rw [hv]; exact But.setCell _ _ _ _
                    have GA := hide (G9.out.but hbut hne25)
                    have BA' := hide (B9.out.trans (hbut.below L5.out))
                    rw [← hv]
                    clear hv hbut T9 G9 B9 t0 t1 t2 t3 f2
                    obtain ⟨pz, ez, hz, hzc⟩ := pathR_any (h : Int) (l : Int) (ix : Int) (Pw : Int)
                    have HPz := hide hzc
                    clear hzc
                    go_wp2_with (refine step_loadA wT rfl rfl TA.out rfl ?_)
                    refine (HPz.out _).mono ?_
                    rintro r wB ⟨rfl, hbB⟩
                    have GB := hide (GA.out.on hbB)
                    have TB := hide (TA.out.on hbB)
                    have BB := hide (on_below BA'.out hbB)
                    clear hbB GA TA BA' HPz
                    rcases hz with ⟨rfl, kz, rfl⟩ | ⟨rfl, kz, rfl⟩
                    · obtain ⟨pz, hpz⟩ : ∃ z, pathI (h : Int) (l : Int) (ix : Int) (Pw : Int) = z := ⟨_, rfl⟩
                      rw [hpz]
                      by_cases hps : pz = s
                      · have HOK : Hid (tOK (h : Int) (l : Int) (ix : Int) (Pw : Int) ∧ pathI (h : Int) (l : Int) (ix : Int) (Pw : Int) = s) := hide ⟨kz, hpz.trans hps⟩
                        have e0 : ((bA pz).toList == (bA s).toList) = true := by rw [beq_bA, decide_eq_true hps]
                        clear hps hpz kz
                        go_wp2_with (first | (refine step_loadA wT rfl rfl TB.out rfl ?_) | (refine step_storeA wT rfl rfl rfl GB.out rfl (One.c4 (h : Int) (l : Int) (ix : Int) (Pw : Int)) rfl ?_))
                        intro wz hgz hbutz
                        have BE := hide (BB.out.trans (hbutz.below LE.out))
                        go_wp2
                        refine bodyPost_ret (results_wide2 rfl wT _ _ rfl hgz rfl) rfl ⟨.inl ⟨h, l, ix, Pw, HSm.out, HOK.out.1, HOK.out.2, rfl⟩, BE.out⟩
                      · have HNt : Hid (¬ (tOK (h : Int) (l : Int) (ix : Int) (Pw : Int) ∧ pathI (h : Int) (l : Int) (ix : Int) (Pw : Int) = s)) := hide (fun k => hps (hpz.symm.trans k.2))
                        have e0 : ((bA pz).toList == (bA s).toList) = false := by rw [beq_bA, decide_eq_false hps]
                        clear hps hpz kz
                        go_upto_region 36 with fail
                        go_wp2_with (refine step_storeA wT rfl rfl (vs := c4 0 0 0 0) rfl GB.out rfl (One.c4 0 0 0 0) rfl ?_)
                        intro wz hgz hbutz
                        have BE := hide (BB.out.trans (hbutz.below LE.out))
                        go_wp2
                        refine bodyPost_ret (results_wide2 rfl wT _ _ rfl hgz rfl) rfl ⟨.inr ⟨rfl, .inr ⟨h, l, ix, _, HSm.out, HNt.out⟩⟩, BE.out⟩
                    · have HNt : Hid (¬ (tOK (h : Int) (l : Int) (ix : Int) (Pw : Int) ∧ pathI (h : Int) (l : Int) (ix : Int) (Pw : Int) = s)) := hide (fun k => kz k.1)
                      clear kz
                      go_upto_region 36 with fail
                      go_wp2_with (refine step_storeA wT rfl rfl (vs := c4 0 0 0 0) rfl GB.out rfl (One.c4 0 0 0 0) rfl ?_)
                      intro wz hgz hbutz
                      have BE := hide (BB.out.trans (hbutz.below LE.out))
                      go_wp2
                      refine bodyPost_ret (results_wide2 rfl wT _ _ rfl hgz rfl) rfl ⟨.inr ⟨rfl, .inr ⟨h, l, ix, _, HSm.out, HNt.out⟩⟩, BE.out⟩
                  · have HNo : Hid (rqR s = none) := hide (by
                      rw [HE.out]
                      unfold rqQ
                      rw [if_pos HDA.out.2, ← HDA.out.1, hno]
                      rfl)
                    clear hno HDA HE
                    go_upto_region 32 with fail
                    go_wp2_with (refine step_storeA wT rfl rfl (vs := c4 0 0 0 0) rfl G9.out rfl (One.c4 0 0 0 0) rfl ?_)
                    intro wz hgz hbutz
                    have BE := hide (B9.out.trans (hbutz.below LE.out))
                    go_wp2
                    refine bodyPost_ret (results_wide2 rfl wT _ _ rfl hgz rfl) rfl ⟨.inr ⟨rfl, .inl HNo.out⟩, BE.out⟩
            · obtain ⟨K2, hK2⟩ : ∃ k, NR - 2 = k := ⟨_, rfl⟩
              have kw : IntKind.i64.wrap ((NR : Int) - 2) = (K2 : Int) := by rw [IntKind.wrap_i64]; omega
              have ke : (NR : Int) - 2 = (K2 : Int) := by omega
              have hK2n : K2 < NR := by omega
              have hKn : K2 < R.length := by rw [HLR.out]; exact hK2n
              obtain ⟨x, hx⟩ : ∃ x, R[K2]? = some x := ⟨R[K2], List.getElem?_eq_getElem hKn⟩
              have HGX : Hid (R.getD (R.length - 2) [] = x) := hide (by rw [HLR.out, hK2, List.getD_eq_getElem?_getD, hx]; rfl)
              have cx := S7.out K2 x hx
              have xa := st_atO gp 3 NR cr K2 (K2 : Int) rfl hK2n
              have hxl := HRe.out x (List.mem_of_getElem? hx)
              have hszx := bA_size x
              obtain ⟨LX, hLX⟩ : ∃ n, x.length = n := ⟨_, rfl⟩
              rw [hLX] at hszx hxl
              have HLX := hide hLX
              have d2 : decide (2 ≤ (NR : Int)) = true := by simp; omega
              have d2b : decide (2 ≤ NR) = true := by simp; omega
              have d2c : decide ((NR : Int) ≥ 2) = true := by simp; omega
              clear hx hLX
              by_cases h2x : 2 < LX
              · obtain ⟨M2, hM2⟩ : ∃ m, LX - 2 = m := ⟨_, rfl⟩
                have mw : IntKind.i64.wrap ((LX : Int) - 2) = (M2 : Int) := by rw [IntKind.wrap_i64]; omega
                have me : (LX : Int) - 2 = (M2 : Int) := by omega
                have e2 : decide (2 < (LX : Int)) = true := by simp; omega
                have e2b : decide (2 < LX) = true := by simp; omega
                have e2c : decide ((LX : Int) > 2) = true := by simp; omega
                have xs := slice_str x M2 (M2 : Int) rfl (by rw [HLX.out]; omega)
                obtain ⟨y, hy⟩ : ∃ y, x.drop M2 = y := ⟨_, rfl⟩
                rw [hy] at xs
                have HYM : Hid (x.drop (x.length - 2) = y) := hide (by rw [HLX.out, hM2, hy])
                clear hy
                by_cases hm : y = [46, 112]
                · have em : ((bA y).toList == [46, 112]) = true := by have := beq_bA y [46, 112]; rw [decide_eq_true hm, tl_mark] at this; exact this
                  have HR2 : Hid (rqR s = (nmO (stz (R.getD (R.length - 1) []))).bind fun w => rqQ h l w (rqG R)) := hide (by
                    rw [HRT.out]
                    unfold rqT
                    rw [if_pos (show rqP R = true by unfold rqP; rw [HGX.out, HYM.out, HLX.out, HLR.out, decide_eq_true (by omega), decide_eq_true h2x, decide_eq_true hm]; rfl)])
                  have HRG : Hid (rqG R = R.take K2 ++ [x.take M2]) := hide (by unfold rqG; rw [HGX.out, HLX.out, HLR.out, hK2, hM2])
                  clear hm HYM HRT
                  go_quiet (fail)
                  obtain ⟨V, hV⟩ : ∃ V : World, V = w7.drewN nq := ⟨_, rfl⟩
                  have hbV : Below w7.heap.size w7 V := by rw [hV]; exact below_drews (Below.refl _ _) nq
                  have G8 := hide (G7.out.on hbV)
                  have T8 := hide (T7.out.on hbV)
                  have B8 := hide (on_below B7.out hbV)
                  have S8 := hide (S7.out.below hbV)
                  rw [← hV]
                  clear hV hbV G7 T7 B7 S7 B7r
                  clear kw xa cx d2 d2b d2c mw e2 e2b e2c xs em
                  obtain ⟨K1, hK1⟩ : ∃ k, NR - 1 = k := ⟨_, rfl⟩
                  have k1 : (NR : Int) - 1 = (K1 : Int) := by omega
                  have hK1n : K1 < NR := by omega
                  have hK1l : K1 < R.length := by rw [HLR.out]; exact hK1n
                  obtain ⟨z, hz⟩ : ∃ z, R[K1]? = some z := ⟨R[K1], List.getElem?_eq_getElem hK1l⟩
                  have HGZ : Hid (R.getD (R.length - 1) [] = z) := hide (by rw [HLR.out, hK1, List.getD_eq_getElem?_getD, hz]; rfl)
                  have cz := S8.out K1 z hz
                  have xz := st_atO gp 3 NR cr K1 (K1 : Int) rfl hK1n
                  have HLz := hide (plain_any z V (Nat.le_trans (HRe.out z (List.mem_of_getElem? hz)) (by decide)))
                  have hNRi : (NR : Int) ≤ 1048574 := by omega
                  clear hz
                  go_wp2_with fail
                  refine HLz.out.mono ?_
                  rintro r w9 ⟨hb9, hr9⟩
                  have G9 := hide (G8.out.on hb9)
                  have T9 := hide (T8.out.on hb9)
                  have B9 := hide (on_below B8.out hb9)
                  have S9 := hide (S8.out.below hb9)
                  clear hb9 G8 T8 B8 S8 HLz cz xz k1
                  rcases hr9 with ⟨wv, hwv, rfl⟩ | ⟨hno, y, rfl⟩
                  · have HE : Hid (rqR s = rqQ h l wv (rqG R)) := hide (by rw [HR2.out, HGZ.out, hwv]; rfl)
                    clear hwv HR2 HGZ
                    have f0 := T9.out.free 3
                    obtain ⟨t0, t1, t2, t3⟩ := T9.out.four
                    go_upto_region 19 with fail
                    obtain ⟨wA, hv⟩ : ∃ v : World, v = w9.setCell ⟨g5, 3, none⟩ (.int .i64 (wv : Int)) := ⟨_, rfl⟩
                    have TA : Hid (Blk wA g5 43 (c4 (h : Int) (l : Int) 0 (wv : Int))) := hide (by rw [hv]; exact T9.out.set 3 _)
                    have hbut : But g5 w9 wA := by rw [hv]; exact But.setCell _ _ _ _
                    have GA := hide (G9.out.but hbut hne25)
                    have BA := hide (B9.out.trans (hbut.below L5.out))
                    have SA := hide (S9.out.but hbut hgp5)
                    rw [← hv]
                    clear hv hbut T9 G9 B9 S9 t0 t1 t2 t3 f0
                    obtain ⟨t0, t1, t2, t3⟩ := TA.out.four
                    clear t0 t1 t2 t3
                    have Y0 := hide ((Below.refl wA.heap.size wA).drew)
                    have kw : IntKind.i64.wrap ((NR : Int) - 2) = (K2 : Int) := by rw [IntKind.wrap_i64]; omega
                    have mw : IntKind.i64.wrap ((LX : Int) - 2) = (M2 : Int) := by rw [IntKind.wrap_i64]; omega
                    have kk : IntKind.i64.wrap (K2 : Int) = (K2 : Int) := by rw [IntKind.wrap_i64]; omega
                    have mm : IntKind.i64.wrap (M2 : Int) = (M2 : Int) := by rw [IntKind.wrap_i64]; omega
                    have HXx : Hid (R[K2]? = some x) := hide (by
                      have := HGX.out
                      rw [HLR.out, hK2, List.getD_eq_getElem?_getD, List.getElem?_eq_getElem hKn] at this
                      rw [List.getElem?_eq_getElem hKn]
                      exact congrArg some this)
                    have CX : Hid (∀ v : World, Below wA.heap.size wA v → v.cell? ⟨gp, 3 + K2, none⟩ = some (.string (bA x))) := hide (fun v hv => (SA.out.below hv) K2 x HXx.out)
                    have q1 := st_to gp 3 NR cr K2 (by omega) (by omega) (by omega)
                    have q2 := st_atO gp 3 NR cr K2 (K2 : Int) rfl hK2n
                    have q3 := slice_to x M2 (M2 : Int) rfl (by rw [HLX.out]; omega)
                    obtain ⟨xm, hxm⟩ : ∃ z, x.take M2 = z := ⟨_, rfl⟩
                    rw [hxm] at q3 HRG
                    have HTK : Hid ((R.take K2).length = K2) := hide (by rw [List.length_take, HLR.out]; omega)
                    obtain ⟨RT, hRT⟩ : ∃ z, R.take K2 = z := ⟨_, rfl⟩
                    have SRT : Hid (∀ v : World, Below wA.heap.size wA v → SL v gp 3 RT) := hide (fun v hv i q hq => by
                      refine (SA.out.below hv) i q ?_
                      rw [← hRT, List.getElem?_take] at hq
                      split at hq
                      · exact hq
                      · cases hq)
                    rw [hRT] at HTK HRG
                    have HRTe : Hid (∀ z ∈ RT ++ [xm], z.length ≤ 1048576) := hide (fun z hz => by
                      rcases List.mem_append.1 hz with hz | hz
                      · rw [← hRT] at hz
                        exact HRe.out z (List.mem_of_mem_take hz)
                      · rw [show z = xm by simpa using hz, ← hxm, List.length_take, HLX.out]
                        omega)
                    clear hRT hxm
                    refine joinQ (fun v W => Hid (TO W wA.heap.size v (rqG R)) ∧ Hid (Below wA.heap.size wA W)) ?act ?tail (fun hjoin => ?_)
                    rotate_left
                    rotate_left
                    · refine wp_region_noPanic ?_
                      refine wp_region_held_drew (S := fun v : World => Below wA.heap.size wA v) (by kernel_rfl) Y0.out (fun hHeld => ?_)
                      refine takeH 1 112 (.slice (some ⟨gp, 3, none⟩) NR cr) hHeld rfl rfl (by kernel_rfl) (by kernel_rfl) (by kernel_rfl) (fun _ _ _ h => h) (Or.inl ⟨by rfl, fun w _ => by go_simp⟩) ?_
                      simp only [Act.put, List.setIfInBounds_toArray, List.set_cons_zero, List.set_cons_succ]
                      refine takeH 2 113 (.int .i64 (NR : Int)) hHeld rfl rfl (by kernel_rfl) (by kernel_rfl) (by kernel_rfl) (fun _ _ _ h => h) (Or.inl ⟨by rfl, fun w _ => by go_simp⟩) ?_
                      simp only [Act.put, List.setIfInBounds_toArray, List.set_cons_zero, List.set_cons_succ]
                      refine takeH 3 114 (.int .i64 (K2 : Int)) hHeld rfl rfl (by kernel_rfl) (by kernel_rfl) (by kernel_rfl) (fun _ _ _ h => h) (Or.inl ⟨by rfl, fun w _ => by go_simp⟩) ?_
                      simp only [Act.put, List.setIfInBounds_toArray, List.set_cons_zero, List.set_cons_succ]
                      refine takeH 4 115 (.slice (some ⟨gp, 3, none⟩) K2 cr) hHeld rfl rfl (by kernel_rfl) (by kernel_rfl) (by kernel_rfl) (fun _ _ _ h => h) (Or.inl ⟨by rfl, fun w _ => run_op rfl (q1 w)⟩) ?_
                      simp only [Act.put, List.setIfInBounds_toArray, List.set_cons_zero, List.set_cons_succ]
                      refine takeH 6 117 (.slice (some ⟨gp, 3, none⟩) NR cr) hHeld rfl rfl (by kernel_rfl) (by kernel_rfl) (by kernel_rfl) (fun _ _ _ h => h) (Or.inl ⟨by rfl, fun w _ => by go_simp⟩) ?_
                      simp only [Act.put, List.setIfInBounds_toArray, List.set_cons_zero, List.set_cons_succ]
                      refine takeH 7 118 (.int .i64 (NR : Int)) hHeld rfl rfl (by kernel_rfl) (by kernel_rfl) (by kernel_rfl) (fun _ _ _ h => h) (Or.inl ⟨by rfl, fun w _ => by go_simp⟩) ?_
                      simp only [Act.put, List.setIfInBounds_toArray, List.set_cons_zero, List.set_cons_succ]
                      refine takeH 8 119 (.int .i64 (K2 : Int)) hHeld rfl rfl (by kernel_rfl) (by kernel_rfl) (by kernel_rfl) (fun _ _ _ h => h) (Or.inl ⟨by rfl, fun w _ => by go_simp⟩) ?_
                      simp only [Act.put, List.setIfInBounds_toArray, List.set_cons_zero, List.set_cons_succ]
                      refine takeH 9 120 (.pointer (some ⟨gp, 3 + K2, none⟩)) hHeld rfl rfl (by kernel_rfl) (by kernel_rfl) (by kernel_rfl) (fun _ _ _ h => h) (Or.inl ⟨by rfl, fun w _ => run_op rfl (q2 w)⟩) ?_
                      simp only [Act.put, List.setIfInBounds_toArray, List.set_cons_zero, List.set_cons_succ]
                      refine takeH 10 121 (.string (bA x)) hHeld rfl rfl (by kernel_rfl) (by kernel_rfl) (by kernel_rfl) (fun _ _ _ h => h) (Or.inl ⟨by rfl, fun w hw => by have hw' : w.cell? ⟨gp, (3 + K2), none⟩ = some (.string (bA x)) := CX.out _ hw; go_simp⟩) ?_
                      simp only [Act.put, List.setIfInBounds_toArray, List.set_cons_zero, List.set_cons_succ]
                      refine takeH 11 122 (.slice (some ⟨gp, 3, none⟩) NR cr) hHeld rfl rfl (by kernel_rfl) (by kernel_rfl) (by kernel_rfl) (fun _ _ _ h => h) (Or.inl ⟨by rfl, fun w _ => by go_simp⟩) ?_
                      simp only [Act.put, List.setIfInBounds_toArray, List.set_cons_zero, List.set_cons_succ]
                      refine takeH 12 123 (.int .i64 (NR : Int)) hHeld rfl rfl (by kernel_rfl) (by kernel_rfl) (by kernel_rfl) (fun _ _ _ h => h) (Or.inl ⟨by rfl, fun w _ => by go_simp⟩) ?_
                      simp only [Act.put, List.setIfInBounds_toArray, List.set_cons_zero, List.set_cons_succ]
                      refine takeH 13 124 (.int .i64 (K2 : Int)) hHeld rfl rfl (by kernel_rfl) (by kernel_rfl) (by kernel_rfl) (fun _ _ _ h => h) (Or.inl ⟨by rfl, fun w _ => by go_simp⟩) ?_
                      simp only [Act.put, List.setIfInBounds_toArray, List.set_cons_zero, List.set_cons_succ]
                      refine takeH 14 125 (.pointer (some ⟨gp, 3 + K2, none⟩)) hHeld rfl rfl (by kernel_rfl) (by kernel_rfl) (by kernel_rfl) (fun _ _ _ h => h) (Or.inl ⟨by rfl, fun w _ => run_op rfl (q2 w)⟩) ?_
                      simp only [Act.put, List.setIfInBounds_toArray, List.set_cons_zero, List.set_cons_succ]
                      refine takeH 15 126 (.string (bA x)) hHeld rfl rfl (by kernel_rfl) (by kernel_rfl) (by kernel_rfl) (fun _ _ _ h => h) (Or.inl ⟨by rfl, fun w hw => by have hw' : w.cell? ⟨gp, (3 + K2), none⟩ = some (.string (bA x)) := CX.out _ hw; go_simp⟩) ?_
                      simp only [Act.put, List.setIfInBounds_toArray, List.set_cons_zero, List.set_cons_succ]
                      refine takeH 16 127 (.int .i64 (LX : Int)) hHeld rfl rfl (by kernel_rfl) (by kernel_rfl) (by kernel_rfl) (fun _ _ _ h => h) (Or.inl ⟨by rfl, fun w _ => by go_simp⟩) ?_
                      simp only [Act.put, List.setIfInBounds_toArray, List.set_cons_zero, List.set_cons_succ]
                      refine takeH 17 128 (.int .i64 (M2 : Int)) hHeld rfl rfl (by kernel_rfl) (by kernel_rfl) (by kernel_rfl) (fun _ _ _ h => h) (Or.inl ⟨by rfl, fun w _ => by go_simp⟩) ?_
                      simp only [Act.put, List.setIfInBounds_toArray, List.set_cons_zero, List.set_cons_succ]
                      refine takeH 18 129 (.string (bA xm)) hHeld rfl rfl (by kernel_rfl) (by kernel_rfl) (by kernel_rfl) (fun _ _ _ h => h) (Or.inl ⟨by rfl, fun w _ => run_op rfl (q3 w)⟩) ?_
                      simp only [Act.put, List.setIfInBounds_toArray, List.set_cons_zero, List.set_cons_succ]
                      refine wpAnyH_ready (rs := [0, 19]) (by kernel_rfl) (by simp) (AllReadyH.cons rfl (fun K hK => ?_) (AllReadyH.cons rfl (fun K hK => ?_) AllReadyH.nil))
                      · rw [if_pos (by rfl)]
                        refine wp_0st ?_
                        intro va g0 hto hlg0 hg0l hbn
                        have Y1 := hide (on_below Y0.out hbn)
                        have E0 := hide (hto.lower Y0.out.size)
                        have hg0b : wA.heap.size ≤ g0 := Nat.le_trans Y0.out.size hlg0
                        clear hto
                        refine hK.out _ _ Y1.out (fun hHeld => ?_)
                        clear hK K
                        try simp only [Act.put, List.setIfInBounds_toArray, List.set_cons_zero, List.set_cons_succ]
                        refine wpAnyH_ready (rs := [5, 19]) (by kernel_rfl) (by simp) (AllReadyH.cons rfl (fun K hK => ?_) (AllReadyH.cons rfl (fun K hK => ?_) AllReadyH.nil))
                        · rw [if_pos (by rfl)]
                          refine wpT_app0 (ms := RT) rfl rfl E0.out HTK.out (SRT.out _ Y1.out) (by rw [HTK.out]; omega) Y1.out.size ?_
                          intro v1 vb hto hgr
                          have Y2 := hide (Y1.out.grown hgr Y1.out.size (fun k hk => by cases hk; exact hg0b))
                          have E1 := hide hto
                          clear hto
                          refine hK.out _ _ Y2.out (fun hHeld => ?_)
                          clear hK K
                          try simp only [Act.put, List.setIfInBounds_toArray, List.set_cons_zero, List.set_cons_succ]
                          refine wpAnyH_ready (rs := [19]) (by kernel_rfl) (by simp) (AllReadyH.cons rfl (fun K hK => ?_) AllReadyH.nil)
                          rw [if_pos (by rfl)]
                          refine wp_oneSt (l := xm) rfl ?_
                          intro vc g1 hgn hln hbn
                          have Y3 := hide (on_below Y2.out hbn)
                          have F1 := hide hgn
                          clear hgn
                          have E2 := hide (E1.out.below hbn)
                          refine hK.out _ _ Y3.out (fun hHeld => ?_)
                          clear hK K
                          try simp only [Act.put, List.setIfInBounds_toArray, List.set_cons_zero, List.set_cons_succ]
                          refine wpAnyH_ready (rs := [20]) (by kernel_rfl) (by simp) (AllReadyH.cons rfl (fun K hK => ?_) AllReadyH.nil)
                          rw [if_pos (by rfl)]
                          refine wp_appSt (ms := [xm]) rfl rfl E2.out rfl (fun i m hm => by
                            match i, hm with
                            | 0, hm => simp at hm; subst hm; rw [F1.out.cell]; rfl
                            | i + 1, hm => simp at hm) (by simp) (by simp; have := HTK.out; omega) Y3.out.size ?_
                          intro v2 wz hto2 hgr2
                          have YZ := hide (Y3.out.grown hgr2 Y3.out.size (fun k hk => (E2.out.lt k hk).1))
                          rw [← HRG.out] at hto2
                          refine hK.out _ _ YZ.out (fun hHeld => ?_)
                          clear hK K
                          try simp only [Act.put, List.setIfInBounds_toArray, List.set_cons_zero, List.set_cons_succ]
                          refine takeH 21 10 (v2) hHeld rfl rfl (by kernel_rfl) (by kernel_rfl) (by kernel_rfl) (fun _ _ _ h => h) (Or.inl ⟨by rfl, fun w _ => by go_simp⟩) ?_
                          simp only [Act.put, List.setIfInBounds_toArray, List.set_cons_zero, List.set_cons_succ]
                          refine wpAnyH_done (by kernel_rfl) ?_ _
                          refine NoPanic.normal ?_
                          exact hjoin g0 v1 g1 v2 wz ⟨hide hto2, YZ⟩
                        · rw [if_pos (by rfl)]
                          refine wp_oneSt (l := xm) rfl ?_
                          intro vb g1 hgn hln hbn
                          have Y2 := hide (on_below Y1.out hbn)
                          have F1 := hide hgn
                          clear hgn
                          have E1' := hide (E0.out.below hbn)
                          have hne01 : g1 ≠ g0 := by omega
                          refine hK.out _ _ Y2.out (fun hHeld => ?_)
                          clear hK K
                          try simp only [Act.put, List.setIfInBounds_toArray, List.set_cons_zero, List.set_cons_succ]
                          refine wpAnyH_ready (rs := [5]) (by kernel_rfl) (by simp) (AllReadyH.cons rfl (fun K hK => ?_) AllReadyH.nil)
                          rw [if_pos (by rfl)]
                          refine wpT_app0 (ms := RT) rfl rfl E1'.out HTK.out (SRT.out _ Y2.out) (by rw [HTK.out]; omega) Y2.out.size ?_
                          intro v1 vc hto hgr
                          have Y3 := hide (Y2.out.grown hgr Y2.out.size (fun k hk => by cases hk; exact hg0b))
                          have E2 := hide hto
                          clear hto
                          have F2 := hide (keep_row F1.out hgr (fun e => hne01 (Option.some.inj e)))
                          refine hK.out _ _ Y3.out (fun hHeld => ?_)
                          clear hK K
                          try simp only [Act.put, List.setIfInBounds_toArray, List.set_cons_zero, List.set_cons_succ]
                          refine wpAnyH_ready (rs := [20]) (by kernel_rfl) (by simp) (AllReadyH.cons rfl (fun K hK => ?_) AllReadyH.nil)
                          rw [if_pos (by rfl)]
                          refine wp_appSt (ms := [xm]) rfl rfl E2.out rfl (fun i m hm => by
                            match i, hm with
                            | 0, hm => simp at hm; subst hm; rw [F2.out.cell]; rfl
                            | i + 1, hm => simp at hm) (by simp) (by simp; have := HTK.out; omega) Y3.out.size ?_
                          intro v2 wz hto2 hgr2
                          have YZ := hide (Y3.out.grown hgr2 Y3.out.size (fun k hk => (E2.out.lt k hk).1))
                          rw [← HRG.out] at hto2
                          refine hK.out _ _ YZ.out (fun hHeld => ?_)
                          clear hK K
                          try simp only [Act.put, List.setIfInBounds_toArray, List.set_cons_zero, List.set_cons_succ]
                          refine takeH 21 10 (v2) hHeld rfl rfl (by kernel_rfl) (by kernel_rfl) (by kernel_rfl) (fun _ _ _ h => h) (Or.inl ⟨by rfl, fun w _ => by go_simp⟩) ?_
                          simp only [Act.put, List.setIfInBounds_toArray, List.set_cons_zero, List.set_cons_succ]
                          refine wpAnyH_done (by kernel_rfl) ?_ _
                          refine NoPanic.normal ?_
                          exact hjoin g0 v1 g1 v2 wz ⟨hide hto2, YZ⟩
                      · rw [if_pos (by rfl)]
                        refine wp_oneSt (l := xm) rfl ?_
                        intro va g1 hgn hln hbn
                        have Y1 := hide (on_below Y0.out hbn)
                        have F1 := hide hgn
                        clear hgn
                        have hlg1 := F1.out.lt
                        refine hK.out _ _ Y1.out (fun hHeld => ?_)
                        clear hK K
                        try simp only [Act.put, List.setIfInBounds_toArray, List.set_cons_zero, List.set_cons_succ]
                        refine wpAnyH_ready (rs := [0]) (by kernel_rfl) (by simp) (AllReadyH.cons rfl (fun K hK => ?_) AllReadyH.nil)
                        rw [if_pos (by rfl)]
                        refine wp_0st ?_
                        intro vb g0 hto hlg0 hg0l hbn
                        have Y2 := hide (on_below Y1.out hbn)
                        have E0 := hide (hto.lower Y1.out.size)
                        have hg0b : wA.heap.size ≤ g0 := Nat.le_trans Y1.out.size hlg0
                        clear hto
                        have hne01 : g1 ≠ g0 := by omega
                        have F1' := hide (F1.out.on hbn)
                        refine hK.out _ _ Y2.out (fun hHeld => ?_)
                        clear hK K
                        try simp only [Act.put, List.setIfInBounds_toArray, List.set_cons_zero, List.set_cons_succ]
                        refine wpAnyH_ready (rs := [5]) (by kernel_rfl) (by simp) (AllReadyH.cons rfl (fun K hK => ?_) AllReadyH.nil)
                        rw [if_pos (by rfl)]
                        refine wpT_app0 (ms := RT) rfl rfl E0.out HTK.out (SRT.out _ Y2.out) (by rw [HTK.out]; omega) Y2.out.size ?_
                        intro v1 vc hto hgr
                        have Y3 := hide (Y2.out.grown hgr Y2.out.size (fun k hk => by cases hk; exact hg0b))
                        have E2 := hide hto
                        clear hto
                        have F2 := hide (keep_row F1'.out hgr (fun e => hne01 (Option.some.inj e)))
                        refine hK.out _ _ Y3.out (fun hHeld => ?_)
                        clear hK K
                        try simp only [Act.put, List.setIfInBounds_toArray, List.set_cons_zero, List.set_cons_succ]
                        refine wpAnyH_ready (rs := [20]) (by kernel_rfl) (by simp) (AllReadyH.cons rfl (fun K hK => ?_) AllReadyH.nil)
                        rw [if_pos (by rfl)]
                        refine wp_appSt (ms := [xm]) rfl rfl E2.out rfl (fun i m hm => by
                          match i, hm with
                          | 0, hm => simp at hm; subst hm; rw [F2.out.cell]; rfl
                          | i + 1, hm => simp at hm) (by simp) (by simp; have := HTK.out; omega) Y3.out.size ?_
                        intro v2 wz hto2 hgr2
                        have YZ := hide (Y3.out.grown hgr2 Y3.out.size (fun k hk => (E2.out.lt k hk).1))
                        rw [← HRG.out] at hto2
                        refine hK.out _ _ YZ.out (fun hHeld => ?_)
                        clear hK K
                        try simp only [Act.put, List.setIfInBounds_toArray, List.set_cons_zero, List.set_cons_succ]
                        refine takeH 21 10 (v2) hHeld rfl rfl (by kernel_rfl) (by kernel_rfl) (by kernel_rfl) (fun _ _ _ h => h) (Or.inl ⟨by rfl, fun w _ => by go_simp⟩) ?_
                        simp only [Act.put, List.setIfInBounds_toArray, List.set_cons_zero, List.set_cons_succ]
                        refine wpAnyH_done (by kernel_rfl) ?_ _
                        refine NoPanic.normal ?_
                        exact hjoin g0 v1 g1 v2 wz ⟨hide hto2, YZ⟩
                    · rintro g0 v1 g1 v2 W ⟨HTO, YW⟩
                      obtain ⟨gq, cq, rfl, hgq, hgql, hcq, _, hcellq⟩ := HTO.out.lies (by rw [HRG.out]; simp)
                      obtain ⟨NQ, hNQ⟩ : ∃ n, (rqG R).length = n := ⟨_, rfl⟩
                      have HLN : Hid ((rqG R).length = NQ) := hide hNQ
                      have hNQb : NQ ≤ 1048576 := by
                        rw [← hNQ, HRG.out, List.length_append, HTK.out]
                        simp
                        omega
                      rw [hNQ]
                      have HLE : Hid (∀ x ∈ rqG R, x.length ≤ 1048576) := hide (by rw [HRG.out]; exact HRTe.out)
                      have SQ : Hid (SL W gq 0 (rqG R)) := hide (fun i l hl => by rw [Nat.zero_add]; exact hcellq i l hl)
                      have GQ := hide (GA.out.on YW.out)
                      have TQ := hide (TA.out.on YW.out)
                      have BQ := hide (on_below BA.out YW.out)
                      clear hNQ hcellq HTO YW GA TA BA SA HRG HRTe SRT HTK CX HXx q1 q2 q3 kw mw kk mm ke me hszx HGX HLX HLR HRe
                      generalize rqG R = RG at *
                      go_wp2_with fail
                      go_loopw [14, 15] (fun d i wr => ∃ (j : Nat) (D : List UInt8), d = .string (bA D) ∧ i = .int .i64 (j : Int) ∧ j ≤ NQ ∧ D.length ≤ 3 * j ∧ Hid (LD RG j D) ∧ wr = W) (fun _ i _ => NQ - (intOf i).toNat)
                      case atStart => exact ⟨0, [], rfl, rfl, Nat.zero_le _, by simp, hide ⟨rfl, by simp⟩, rfl⟩
                      case round =>
                        obtain ⟨j, D, rfl, rfl, hj, hDl, HD, rfl⟩ := hrel
                        by_cases hlt : j < NQ
                        · have hlt' : (j : Int) < (NQ : Int) := by omega
                          obtain ⟨x, hx⟩ : ∃ x, RG[j]? = some x := ⟨RG[j]'(by rw [HLN.out]; exact hlt), List.getElem?_eq_getElem (by rw [HLN.out]; exact hlt)⟩
                          have HX := hide hx
                          have cx := SQ.out j x hx
                          have xa := st_atO gq 0 NQ cq j (j : Int) rfl hlt
                          have hxl := HLE.out x (List.mem_of_getElem? hx)
                          have hszx := bA_size x
                          try rw [Nat.zero_add] at cx
                          try rw [Nat.zero_add] at xa
                          clear hx
                          cases hxe : x with
                          | nil =>
                            subst hxe
                            have W1 : Hid (D ++ [] = D ∧ D.length + ([] : List UInt8).length ≤ 9000000) := hide ⟨by simp, by simp; omega⟩
                            have HN2 : Hid (LD RG (j + 1) D) := hide ⟨by rw [flat_snoc HX.out, ← HD.out.1]; simp [rqX], take_snoc_all HX.out HD.out.2 (by simp [rqX])⟩
                            have hsz0 : (bA []).size = 0 := rfl
                            go_wp2_with (refine step_addW (p := D) (q := []) (r := D) rfl rfl rfl W1.out ?_)
                            exact ⟨⟨j + 1, D, rfl, by simp, hlt, by omega, HN2, trivial⟩, by simp only [intOf]; omega⟩
                          | cons a t =>
                            have hz : 0 < (bA x).size := by rw [hszx, hxe]; simp
                            have hz' : (0 : Int) < ((bA x).size : Int) := by omega
                            have hfa := first_of hxe hz
                            have hpos : 0 < x.length := by rw [hxe]; simp
                            by_cases ha : a = 120
                            · have e120 : (((((bA x)[0]'hz).toNat : Nat) : Int) == 120) = true := by rw [hfa, ha]; rfl
                              have x1 := slice_str x 1 1 rfl (by omega)
                              have hdr : x.drop 1 = t := by rw [hxe]; rfl
                              rw [hdr] at x1
                              have HYE : Hid (rqX x = t) := hide (by rw [hxe, ha]; rfl)
                              have hszt := bA_size t
                              have htl : t.length ≤ 1048576 := by have := congrArg List.length hxe; simp at this; omega
                              clear hxe ha hfa hdr
                              by_cases hx3 : 3 < t.length
                              · have HNo : Hid (rqR s = none) := hide (by
                                  rw [HE.out]
                                  unfold rqQ
                                  rw [if_neg (fun h => absurd (h _ (List.mem_of_getElem? HX.out)) (by rw [HYE.out]; omega))])
                                have hx3' : (3 : Int) < (t.length : Int) := by omega
                                go_upto_region 28 with fail
                                go_wp2_with (refine step_storeA wT rfl rfl (vs := c4 0 0 0 0) rfl GQ.out rfl (One.c4 0 0 0 0) rfl ?_)
                                intro wz hgz hbutz
                                have BE := hide (BQ.out.trans (hbutz.below LE.out))
                                go_wp2
                                refine bodyPost_ret (results_wide2 rfl wT _ _ rfl hgz rfl) rfl ⟨.inr ⟨rfl, .inl HNo.out⟩, BE.out⟩
                              · have HN2 : Hid (LD RG (j + 1) (D ++ t)) := hide ⟨by rw [flat_snoc HX.out, ← HD.out.1, HYE.out], take_snoc_all HX.out HD.out.2 (by rw [HYE.out]; omega)⟩
                                have hx3' : ¬ (3 : Int) < (t.length : Int) := by omega
                                obtain ⟨DD, hDD⟩ : ∃ z, D ++ t = z := ⟨_, rfl⟩
                                have W1 : Hid (D ++ t = DD ∧ D.length + t.length ≤ 9000000) := hide ⟨hDD, by omega⟩
                                rw [hDD] at HN2
                                have hdl : DD.length ≤ 3 * (j + 1) := by rw [← hDD, List.length_append]; omega
                                clear hDD
                                go_wp2_with (refine step_addW (p := D) (q := t) (r := DD) rfl rfl rfl W1.out ?_)
                                exact ⟨⟨j + 1, DD, rfl, by simp, hlt, hdl, HN2, trivial⟩, by simp only [intOf]; omega⟩
                            · have e120 : (((((bA x)[0]'hz).toNat : Nat) : Int) == 120) = false := by
                                rw [hfa]
                                simp only [beq_eq_false_iff_ne, ne_eq]
                                intro e
                                refine ha (UInt8.toNat_inj.1 ?_)
                                have : a.toNat = 120 := by omega
                                rw [this]; rfl
                              have HYE : Hid (rqX x = x) := hide (by
                                rw [hxe]
                                show (if a = 120 then t else a :: t) = _
                                rw [if_neg ha])
                              clear hxe ha hfa
                              by_cases hx3 : 3 < x.length
                              · have HNo : Hid (rqR s = none) := hide (by
                                  rw [HE.out]
                                  unfold rqQ
                                  rw [if_neg (fun h => absurd (h _ (List.mem_of_getElem? HX.out)) (by rw [HYE.out]; omega))])
                                have hx3' : (3 : Int) < (x.length : Int) := by omega
                                go_upto_region 28 with fail
                                go_wp2_with (refine step_storeA wT rfl rfl (vs := c4 0 0 0 0) rfl GQ.out rfl (One.c4 0 0 0 0) rfl ?_)
                                intro wz hgz hbutz
                                have BE := hide (BQ.out.trans (hbutz.below LE.out))
                                go_wp2
                                refine bodyPost_ret (results_wide2 rfl wT _ _ rfl hgz rfl) rfl ⟨.inr ⟨rfl, .inl HNo.out⟩, BE.out⟩
                              · have HN2 : Hid (LD RG (j + 1) (D ++ x)) := hide ⟨by rw [flat_snoc HX.out, ← HD.out.1, HYE.out], take_snoc_all HX.out HD.out.2 (by rw [HYE.out]; omega)⟩
                                have hx3' : ¬ (3 : Int) < (x.length : Int) := by omega
                                obtain ⟨DD, hDD⟩ : ∃ z, D ++ x = z := ⟨_, rfl⟩
                                have W1 : Hid (D ++ x = DD ∧ D.length + x.length ≤ 9000000) := hide ⟨hDD, by omega⟩
                                rw [hDD] at HN2
                                have hdl : DD.length ≤ 3 * (j + 1) := by rw [← hDD, List.length_append]; omega
                                clear hDD
                                go_wp2_with (refine step_addW (p := D) (q := x) (r := DD) rfl rfl rfl W1.out ?_)
                                exact ⟨⟨j + 1, DD, rfl, by simp, hlt, hdl, HN2, trivial⟩, by simp only [intOf]; omega⟩
                        · have hge : ¬ (j : Int) < (NQ : Int) := by omega
                          have HDA : Hid (D = RG.flatMap rqX ∧ ∀ y ∈ RG, (rqX y).length ≤ 3) := hide (by
                            have hd := HD.out
                            unfold LD at hd
                            rw [List.take_of_length_le (by rw [HLN.out]; omega)] at hd
                            exact hd)
                          have HL3 := hide (plain_any D wr (by omega))
                          clear HD
                          go_wp2_with fail
                          refine HL3.out.mono ?_
                          rintro r w9 ⟨hb9, hr9⟩
                          have G9 := hide (GQ.out.on hb9)
                          have T9 := hide (TQ.out.on hb9)
                          have B9 := hide (on_below BQ.out hb9)
                          clear hb9 HL3 GQ TQ BQ SQ HLN HLE
                          rcases hr9 with ⟨ix, hix, rfl⟩ | ⟨hno, y, rfl⟩
                          · have HSm : Hid (rqR s = some (h, l, ix, wv)) := hide (by
                              rw [HE.out]
                              unfold rqQ
                              rw [if_pos HDA.out.2, ← HDA.out.1, hix]
                              rfl)
                            clear hix HDA HE
                            have f2 := T9.out.free 2
                            obtain ⟨t0, t1, t2, t3⟩ := T9.out.four
                            go_upto_region 34 with fail
                            obtain ⟨wA, hv⟩ : ∃ v : World, v = w9.setCell ⟨g5, 2, none⟩ (.int .i64 (ix : Int)) := ⟨_, rfl⟩
                            have TA : Hid (Blk wA g5 43 (c4 (h : Int) (l : Int) (ix : Int) (wv : Int))) := hide (by rw [hv]; exact T9.out.set 2 _)
                            have hbut : But g5 w9 wA := by rw [hv]; exact But.setCell _ _ _ _
                            have GA := hide (G9.out.but hbut hne25)
                            have BA' := hide (B9.out.trans (hbut.below L5.out))
                            rw [← hv]
                            clear hv hbut T9 G9 B9 t0 t1 t2 t3 f2
                            obtain ⟨pz, ez, hz, hzc⟩ := pathR_any (h : Int) (l : Int) (ix : Int) (wv : Int)
                            have HPz := hide hzc
                            clear hzc
                            go_wp2_with (refine step_loadA wT rfl rfl TA.out rfl ?_)
                            refine (HPz.out _).mono ?_
                            rintro r wB ⟨rfl, hbB⟩
                            have GB := hide (GA.out.on hbB)
                            have TB := hide (TA.out.on hbB)
                            have BB := hide (on_below BA'.out hbB)
                            clear hbB GA TA BA' HPz
                            rcases hz with ⟨rfl, kz, rfl⟩ | ⟨rfl, kz, rfl⟩
                            · obtain ⟨pz, hpz⟩ : ∃ z, pathI (h : Int) (l : Int) (ix : Int) (wv : Int) = z := ⟨_, rfl⟩
                              rw [hpz]
                              by_cases hps : pz = s
                              · have HOK : Hid (tOK (h : Int) (l : Int) (ix : Int) (wv : Int) ∧ pathI (h : Int) (l : Int) (ix : Int) (wv : Int) = s) := hide ⟨kz, hpz.trans hps⟩
                                have e0 : ((bA pz).toList == (bA s).toList) = true := by rw [beq_bA, decide_eq_true hps]
                                clear hps hpz kz
                                go_wp2_with (first | (refine step_loadA wT rfl rfl TB.out rfl ?_) | (refine step_storeA wT rfl rfl rfl GB.out rfl (One.c4 (h : Int) (l : Int) (ix : Int) (wv : Int)) rfl ?_))
                                intro wz hgz hbutz
                                have BE := hide (BB.out.trans (hbutz.below LE.out))
                                go_wp2
                                refine bodyPost_ret (results_wide2 rfl wT _ _ rfl hgz rfl) rfl ⟨.inl ⟨h, l, ix, wv, HSm.out, HOK.out.1, HOK.out.2, rfl⟩, BE.out⟩
                              · have HNt : Hid (¬ (tOK (h : Int) (l : Int) (ix : Int) (wv : Int) ∧ pathI (h : Int) (l : Int) (ix : Int) (wv : Int) = s)) := hide (fun k => hps (hpz.symm.trans k.2))
                                have e0 : ((bA pz).toList == (bA s).toList) = false := by rw [beq_bA, decide_eq_false hps]
                                clear hps hpz kz
                                go_upto_region 36 with fail
                                go_wp2_with (refine step_storeA wT rfl rfl (vs := c4 0 0 0 0) rfl GB.out rfl (One.c4 0 0 0 0) rfl ?_)
                                intro wz hgz hbutz
                                have BE := hide (BB.out.trans (hbutz.below LE.out))
                                go_wp2
                                refine bodyPost_ret (results_wide2 rfl wT _ _ rfl hgz rfl) rfl ⟨.inr ⟨rfl, .inr ⟨h, l, ix, _, HSm.out, HNt.out⟩⟩, BE.out⟩
                            · have HNt : Hid (¬ (tOK (h : Int) (l : Int) (ix : Int) (wv : Int) ∧ pathI (h : Int) (l : Int) (ix : Int) (wv : Int) = s)) := hide (fun k => kz k.1)
                              clear kz
                              go_upto_region 36 with fail
                              go_wp2_with (refine step_storeA wT rfl rfl (vs := c4 0 0 0 0) rfl GB.out rfl (One.c4 0 0 0 0) rfl ?_)
                              intro wz hgz hbutz
                              have BE := hide (BB.out.trans (hbutz.below LE.out))
                              go_wp2
                              refine bodyPost_ret (results_wide2 rfl wT _ _ rfl hgz rfl) rfl ⟨.inr ⟨rfl, .inr ⟨h, l, ix, _, HSm.out, HNt.out⟩⟩, BE.out⟩
                          · have HNo : Hid (rqR s = none) := hide (by
                              rw [HE.out]
                              unfold rqQ
                              rw [if_pos HDA.out.2, ← HDA.out.1, hno]
                              rfl)
                            clear hno HDA HE
                            go_upto_region 32 with fail
                            go_wp2_with (refine step_storeA wT rfl rfl (vs := c4 0 0 0 0) rfl G9.out rfl (One.c4 0 0 0 0) rfl ?_)
                            intro wz hgz hbutz
                            have BE := hide (B9.out.trans (hbutz.below LE.out))
                            go_wp2
                            refine bodyPost_ret (results_wide2 rfl wT _ _ rfl hgz rfl) rfl ⟨.inr ⟨rfl, .inl HNo.out⟩, BE.out⟩
                  · have HNo : Hid (rqR s = none) := hide (by rw [HR2.out, HGZ.out, hno]; rfl)
                    clear hno
                    go_upto_region 17 with fail
                    go_wp2_with (refine step_storeA wT rfl rfl (vs := c4 0 0 0 0) rfl G9.out rfl (One.c4 0 0 0 0) rfl ?_)
                    intro wz hgz hbutz
                    have BE := hide (B9.out.trans (hbutz.below LE.out))
                    go_wp2
                    refine bodyPost_ret (results_wide2 rfl wT _ _ rfl hgz rfl) rfl ⟨.inr ⟨rfl, .inl HNo.out⟩, BE.out⟩
                · have em : ((bA y).toList == [46, 112]) = false := by have := beq_bA y [46, 112]; rw [decide_eq_false hm, tl_mark] at this; exact this
                  have HE : Hid (rqR s = rqQ h l Pw R) := hide (by
                    rw [HRT.out, ← HPw.out]
                    unfold rqT rqP
                    rw [HGX.out, HYM.out, decide_eq_false hm]
                    simp)
                  clear hm
                  go_quiet (fail)
                  obtain ⟨V, hV⟩ : ∃ V : World, V = w7.drewN nq := ⟨_, rfl⟩
                  have hbV : Below w7.heap.size w7 V := by rw [hV]; exact below_drews (Below.refl _ _) nq
                  have G8 := hide (G7.out.on hbV)
                  have T8 := hide (T7.out.on hbV)
                  have B8 := hide (on_below B7.out hbV)
                  have S8 := hide (S7.out.below hbV)
                  rw [← hV]
                  clear hV hbV G7 T7 B7 S7 B7r
                  have HLN := HLR
                  have HLE := HRe
                  clear kw ke xa cx hszx d2 d2b d2c mw me e2 e2b e2c xs em
                  go_wp2_with fail
                  go_loopw [14, 15] (fun d i wr => ∃ (j : Nat) (D : List UInt8), d = .string (bA D) ∧ i = .int .i64 (j : Int) ∧ j ≤ NR ∧ D.length ≤ 3 * j ∧ Hid (LD R j D) ∧ wr = V) (fun _ i _ => NR - (intOf i).toNat)
                  case atStart => exact ⟨0, [], rfl, rfl, Nat.zero_le _, by simp, hide ⟨rfl, by simp⟩, rfl⟩
                  case round =>
                    obtain ⟨j, D, rfl, rfl, hj, hDl, HD, rfl⟩ := hrel
                    by_cases hlt : j < NR
                    · have hlt' : (j : Int) < (NR : Int) := by omega
                      obtain ⟨x, hx⟩ : ∃ x, R[j]? = some x := ⟨R[j]'(by rw [HLN.out]; exact hlt), List.getElem?_eq_getElem (by rw [HLN.out]; exact hlt)⟩
                      have HX := hide hx
                      have cx := S8.out j x hx
                      have xa := st_atO gp 3 NR cr j (j : Int) rfl hlt
                      have hxl := HLE.out x (List.mem_of_getElem? hx)
                      have hszx := bA_size x
                      try rw [Nat.zero_add] at cx
                      try rw [Nat.zero_add] at xa
                      clear hx
                      cases hxe : x with
                      | nil =>
                        subst hxe
                        have W1 : Hid (D ++ [] = D ∧ D.length + ([] : List UInt8).length ≤ 9000000) := hide ⟨by simp, by simp; omega⟩
                        have HN2 : Hid (LD R (j + 1) D) := hide ⟨by rw [flat_snoc HX.out, ← HD.out.1]; simp [rqX], take_snoc_all HX.out HD.out.2 (by simp [rqX])⟩
                        have hsz0 : (bA []).size = 0 := rfl
                        go_wp2_with (refine step_addW (p := D) (q := []) (r := D) rfl rfl rfl W1.out ?_)
                        exact ⟨⟨j + 1, D, rfl, by simp, hlt, by omega, HN2, trivial⟩, by simp only [intOf]; omega⟩
                      | cons a t =>
                        have hz : 0 < (bA x).size := by rw [hszx, hxe]; simp
                        have hz' : (0 : Int) < ((bA x).size : Int) := by omega
                        have hfa := first_of hxe hz
                        have hpos : 0 < x.length := by rw [hxe]; simp
                        by_cases ha : a = 120
                        · have e120 : (((((bA x)[0]'hz).toNat : Nat) : Int) == 120) = true := by rw [hfa, ha]; rfl
                          have x1 := slice_str x 1 1 rfl (by omega)
                          have hdr : x.drop 1 = t := by rw [hxe]; rfl
                          rw [hdr] at x1
                          have HYE : Hid (rqX x = t) := hide (by rw [hxe, ha]; rfl)
                          have hszt := bA_size t
                          have htl : t.length ≤ 1048576 := by have := congrArg List.length hxe; simp at this; omega
                          clear hxe ha hfa hdr
                          by_cases hx3 : 3 < t.length
                          · have HNo : Hid (rqR s = none) := hide (by
                              rw [HE.out]
                              unfold rqQ
                              rw [if_neg (fun h => absurd (h _ (List.mem_of_getElem? HX.out)) (by rw [HYE.out]; omega))])
                            have hx3' : (3 : Int) < (t.length : Int) := by omega
                            go_upto_region 28 with fail
                            go_wp2_with (refine step_storeA wT rfl rfl (vs := c4 0 0 0 0) rfl G8.out rfl (One.c4 0 0 0 0) rfl ?_)
                            intro wz hgz hbutz
                            have BE := hide (B8.out.trans (hbutz.below LE.out))
                            go_wp2
                            refine bodyPost_ret (results_wide2 rfl wT _ _ rfl hgz rfl) rfl ⟨.inr ⟨rfl, .inl HNo.out⟩, BE.out⟩
                          · have HN2 : Hid (LD R (j + 1) (D ++ t)) := hide ⟨by rw [flat_snoc HX.out, ← HD.out.1, HYE.out], take_snoc_all HX.out HD.out.2 (by rw [HYE.out]; omega)⟩
                            have hx3' : ¬ (3 : Int) < (t.length : Int) := by omega
                            obtain ⟨DD, hDD⟩ : ∃ z, D ++ t = z := ⟨_, rfl⟩
                            have W1 : Hid (D ++ t = DD ∧ D.length + t.length ≤ 9000000) := hide ⟨hDD, by omega⟩
                            rw [hDD] at HN2
                            have hdl : DD.length ≤ 3 * (j + 1) := by rw [← hDD, List.length_append]; omega
                            clear hDD
                            go_wp2_with (refine step_addW (p := D) (q := t) (r := DD) rfl rfl rfl W1.out ?_)
                            exact ⟨⟨j + 1, DD, rfl, by simp, hlt, hdl, HN2, trivial⟩, by simp only [intOf]; omega⟩
                        · have e120 : (((((bA x)[0]'hz).toNat : Nat) : Int) == 120) = false := by
                            rw [hfa]
                            simp only [beq_eq_false_iff_ne, ne_eq]
                            intro e
                            refine ha (UInt8.toNat_inj.1 ?_)
                            have : a.toNat = 120 := by omega
                            rw [this]; rfl
                          have HYE : Hid (rqX x = x) := hide (by
                            rw [hxe]
                            show (if a = 120 then t else a :: t) = _
                            rw [if_neg ha])
                          clear hxe ha hfa
                          by_cases hx3 : 3 < x.length
                          · have HNo : Hid (rqR s = none) := hide (by
                              rw [HE.out]
                              unfold rqQ
                              rw [if_neg (fun h => absurd (h _ (List.mem_of_getElem? HX.out)) (by rw [HYE.out]; omega))])
                            have hx3' : (3 : Int) < (x.length : Int) := by omega
                            go_upto_region 28 with fail
                            go_wp2_with (refine step_storeA wT rfl rfl (vs := c4 0 0 0 0) rfl G8.out rfl (One.c4 0 0 0 0) rfl ?_)
                            intro wz hgz hbutz
                            have BE := hide (B8.out.trans (hbutz.below LE.out))
                            go_wp2
                            refine bodyPost_ret (results_wide2 rfl wT _ _ rfl hgz rfl) rfl ⟨.inr ⟨rfl, .inl HNo.out⟩, BE.out⟩
                          · have HN2 : Hid (LD R (j + 1) (D ++ x)) := hide ⟨by rw [flat_snoc HX.out, ← HD.out.1, HYE.out], take_snoc_all HX.out HD.out.2 (by rw [HYE.out]; omega)⟩
                            have hx3' : ¬ (3 : Int) < (x.length : Int) := by omega
                            obtain ⟨DD, hDD⟩ : ∃ z, D ++ x = z := ⟨_, rfl⟩
                            have W1 : Hid (D ++ x = DD ∧ D.length + x.length ≤ 9000000) := hide ⟨hDD, by omega⟩
                            rw [hDD] at HN2
                            have hdl : DD.length ≤ 3 * (j + 1) := by rw [← hDD, List.length_append]; omega
                            clear hDD
                            go_wp2_with (refine step_addW (p := D) (q := x) (r := DD) rfl rfl rfl W1.out ?_)
                            exact ⟨⟨j + 1, DD, rfl, by simp, hlt, hdl, HN2, trivial⟩, by simp only [intOf]; omega⟩
                    · have hge : ¬ (j : Int) < (NR : Int) := by omega
                      have HDA : Hid (D = R.flatMap rqX ∧ ∀ y ∈ R, (rqX y).length ≤ 3) := hide (by
                        have hd := HD.out
                        unfold LD at hd
                        rw [List.take_of_length_le (by rw [HLN.out]; omega)] at hd
                        exact hd)
                      have HL3 := hide (plain_any D wr (by omega))
                      clear HD
                      go_wp2_with fail
                      refine HL3.out.mono ?_
                      rintro r w9 ⟨hb9, hr9⟩
                      have G9 := hide (G8.out.on hb9)
                      have T9 := hide (T8.out.on hb9)
                      have B9 := hide (on_below B8.out hb9)
                      clear hb9 HL3 G8 T8 B8 S8 HLN HLE
                      rcases hr9 with ⟨ix, hix, rfl⟩ | ⟨hno, y, rfl⟩
                      · have HSm : Hid (rqR s = some (h, l, ix, Pw)) := hide (by
                          rw [HE.out]
                          unfold rqQ
                          rw [if_pos HDA.out.2, ← HDA.out.1, hix]
                          rfl)
                        clear hix HDA HE
                        have f2 := T9.out.free 2
                        obtain ⟨t0, t1, t2, t3⟩ := T9.out.four
                        go_upto_region 34 with fail
                        obtain ⟨wA, hv⟩ : ∃ v : World, v = w9.setCell ⟨g5, 2, none⟩ (.int .i64 (ix : Int)) := ⟨_, rfl⟩
                        have TA : Hid (Blk wA g5 43 (c4 (h : Int) (l : Int) (ix : Int) (Pw : Int))) := hide (by rw [hv]; exact T9.out.set 2 _)
                        have hbut : But g5 w9 wA := by rw [hv]; exact But.setCell _ _ _ _
                        have GA := hide (G9.out.but hbut hne25)
                        have BA' := hide (B9.out.trans (hbut.below L5.out))
                        rw [← hv]
                        clear hv hbut T9 G9 B9 t0 t1 t2 t3 f2
                        obtain ⟨pz, ez, hz, hzc⟩ := pathR_any (h : Int) (l : Int) (ix : Int) (Pw : Int)
                        have HPz := hide hzc
                        clear hzc
                        go_wp2_with (refine step_loadA wT rfl rfl TA.out rfl ?_)
                        refine (HPz.out _).mono ?_
                        rintro r wB ⟨rfl, hbB⟩
                        have GB := hide (GA.out.on hbB)
                        have TB := hide (TA.out.on hbB)
                        have BB := hide (on_below BA'.out hbB)
                        clear hbB GA TA BA' HPz
                        rcases hz with ⟨rfl, kz, rfl⟩ | ⟨rfl, kz, rfl⟩
                        · obtain ⟨pz, hpz⟩ : ∃ z, pathI (h : Int) (l : Int) (ix : Int) (Pw : Int) = z := ⟨_, rfl⟩
                          rw [hpz]
                          by_cases hps : pz = s
                          · have HOK : Hid (tOK (h : Int) (l : Int) (ix : Int) (Pw : Int) ∧ pathI (h : Int) (l : Int) (ix : Int) (Pw : Int) = s) := hide ⟨kz, hpz.trans hps⟩
                            have e0 : ((bA pz).toList == (bA s).toList) = true := by rw [beq_bA, decide_eq_true hps]
                            clear hps hpz kz
                            go_wp2_with (first | (refine step_loadA wT rfl rfl TB.out rfl ?_) | (refine step_storeA wT rfl rfl rfl GB.out rfl (One.c4 (h : Int) (l : Int) (ix : Int) (Pw : Int)) rfl ?_))
                            intro wz hgz hbutz
                            have BE := hide (BB.out.trans (hbutz.below LE.out))
                            go_wp2
                            refine bodyPost_ret (results_wide2 rfl wT _ _ rfl hgz rfl) rfl ⟨.inl ⟨h, l, ix, Pw, HSm.out, HOK.out.1, HOK.out.2, rfl⟩, BE.out⟩
                          · have HNt : Hid (¬ (tOK (h : Int) (l : Int) (ix : Int) (Pw : Int) ∧ pathI (h : Int) (l : Int) (ix : Int) (Pw : Int) = s)) := hide (fun k => hps (hpz.symm.trans k.2))
                            have e0 : ((bA pz).toList == (bA s).toList) = false := by rw [beq_bA, decide_eq_false hps]
                            clear hps hpz kz
                            go_upto_region 36 with fail
                            go_wp2_with (refine step_storeA wT rfl rfl (vs := c4 0 0 0 0) rfl GB.out rfl (One.c4 0 0 0 0) rfl ?_)
                            intro wz hgz hbutz
                            have BE := hide (BB.out.trans (hbutz.below LE.out))
                            go_wp2
                            refine bodyPost_ret (results_wide2 rfl wT _ _ rfl hgz rfl) rfl ⟨.inr ⟨rfl, .inr ⟨h, l, ix, _, HSm.out, HNt.out⟩⟩, BE.out⟩
                        · have HNt : Hid (¬ (tOK (h : Int) (l : Int) (ix : Int) (Pw : Int) ∧ pathI (h : Int) (l : Int) (ix : Int) (Pw : Int) = s)) := hide (fun k => kz k.1)
                          clear kz
                          go_upto_region 36 with fail
                          go_wp2_with (refine step_storeA wT rfl rfl (vs := c4 0 0 0 0) rfl GB.out rfl (One.c4 0 0 0 0) rfl ?_)
                          intro wz hgz hbutz
                          have BE := hide (BB.out.trans (hbutz.below LE.out))
                          go_wp2
                          refine bodyPost_ret (results_wide2 rfl wT _ _ rfl hgz rfl) rfl ⟨.inr ⟨rfl, .inr ⟨h, l, ix, _, HSm.out, HNt.out⟩⟩, BE.out⟩
                      · have HNo : Hid (rqR s = none) := hide (by
                          rw [HE.out]
                          unfold rqQ
                          rw [if_pos HDA.out.2, ← HDA.out.1, hno]
                          rfl)
                        clear hno HDA HE
                        go_upto_region 32 with fail
                        go_wp2_with (refine step_storeA wT rfl rfl (vs := c4 0 0 0 0) rfl G9.out rfl (One.c4 0 0 0 0) rfl ?_)
                        intro wz hgz hbutz
                        have BE := hide (B9.out.trans (hbutz.below LE.out))
                        go_wp2
                        refine bodyPost_ret (results_wide2 rfl wT _ _ rfl hgz rfl) rfl ⟨.inr ⟨rfl, .inl HNo.out⟩, BE.out⟩
              · have e2 : decide (2 < (LX : Int)) = false := by simp; omega
                have e2b : decide (2 < LX) = false := by simp; omega
                have e2c : decide ((LX : Int) > 2) = false := by simp; omega
                have HE : Hid (rqR s = rqQ h l Pw R) := hide (by
                  rw [HRT.out, ← HPw.out]
                  unfold rqT rqP
                  rw [HGX.out, HLX.out, decide_eq_false h2x]
                  simp)
                go_quiet (fail)
                obtain ⟨V, hV⟩ : ∃ V : World, V = w7.drewN nq := ⟨_, rfl⟩
                have hbV : Below w7.heap.size w7 V := by rw [hV]; exact below_drews (Below.refl _ _) nq
                have G8 := hide (G7.out.on hbV)
                have T8 := hide (T7.out.on hbV)
                have B8 := hide (on_below B7.out hbV)
                have S8 := hide (S7.out.below hbV)
                rw [← hV]
                clear hV hbV G7 T7 B7 S7 B7r
                have HLN := HLR
                have HLE := HRe
                clear kw ke xa cx hszx d2 d2b d2c e2 e2b e2c
                go_wp2_with fail
                go_loopw [14, 15] (fun d i wr => ∃ (j : Nat) (D : List UInt8), d = .string (bA D) ∧ i = .int .i64 (j : Int) ∧ j ≤ NR ∧ D.length ≤ 3 * j ∧ Hid (LD R j D) ∧ wr = V) (fun _ i _ => NR - (intOf i).toNat)
                case atStart => exact ⟨0, [], rfl, rfl, Nat.zero_le _, by simp, hide ⟨rfl, by simp⟩, rfl⟩
                case round =>
                  obtain ⟨j, D, rfl, rfl, hj, hDl, HD, rfl⟩ := hrel
                  by_cases hlt : j < NR
                  · have hlt' : (j : Int) < (NR : Int) := by omega
                    obtain ⟨x, hx⟩ : ∃ x, R[j]? = some x := ⟨R[j]'(by rw [HLN.out]; exact hlt), List.getElem?_eq_getElem (by rw [HLN.out]; exact hlt)⟩
                    have HX := hide hx
                    have cx := S8.out j x hx
                    have xa := st_atO gp 3 NR cr j (j : Int) rfl hlt
                    have hxl := HLE.out x (List.mem_of_getElem? hx)
                    have hszx := bA_size x
                    try rw [Nat.zero_add] at cx
                    try rw [Nat.zero_add] at xa
                    clear hx
                    cases hxe : x with
                    | nil =>
                      subst hxe
                      have W1 : Hid (D ++ [] = D ∧ D.length + ([] : List UInt8).length ≤ 9000000) := hide ⟨by simp, by simp; omega⟩
                      have HN2 : Hid (LD R (j + 1) D) := hide ⟨by rw [flat_snoc HX.out, ← HD.out.1]; simp [rqX], take_snoc_all HX.out HD.out.2 (by simp [rqX])⟩
                      have hsz0 : (bA []).size = 0 := rfl
                      go_wp2_with (refine step_addW (p := D) (q := []) (r := D) rfl rfl rfl W1.out ?_)
                      exact ⟨⟨j + 1, D, rfl, by simp, hlt, by omega, HN2, trivial⟩, by simp only [intOf]; omega⟩
                    | cons a t =>
                      have hz : 0 < (bA x).size := by rw [hszx, hxe]; simp
                      have hz' : (0 : Int) < ((bA x).size : Int) := by omega
                      have hfa := first_of hxe hz
                      have hpos : 0 < x.length := by rw [hxe]; simp
                      by_cases ha : a = 120
                      · have e120 : (((((bA x)[0]'hz).toNat : Nat) : Int) == 120) = true := by rw [hfa, ha]; rfl
                        have x1 := slice_str x 1 1 rfl (by omega)
                        have hdr : x.drop 1 = t := by rw [hxe]; rfl
                        rw [hdr] at x1
                        have HYE : Hid (rqX x = t) := hide (by rw [hxe, ha]; rfl)
                        have hszt := bA_size t
                        have htl : t.length ≤ 1048576 := by have := congrArg List.length hxe; simp at this; omega
                        clear hxe ha hfa hdr
                        by_cases hx3 : 3 < t.length
                        · have HNo : Hid (rqR s = none) := hide (by
                            rw [HE.out]
                            unfold rqQ
                            rw [if_neg (fun h => absurd (h _ (List.mem_of_getElem? HX.out)) (by rw [HYE.out]; omega))])
                          have hx3' : (3 : Int) < (t.length : Int) := by omega
                          go_upto_region 28 with fail
                          go_wp2_with (refine step_storeA wT rfl rfl (vs := c4 0 0 0 0) rfl G8.out rfl (One.c4 0 0 0 0) rfl ?_)
                          intro wz hgz hbutz
                          have BE := hide (B8.out.trans (hbutz.below LE.out))
                          go_wp2
                          refine bodyPost_ret (results_wide2 rfl wT _ _ rfl hgz rfl) rfl ⟨.inr ⟨rfl, .inl HNo.out⟩, BE.out⟩
                        · have HN2 : Hid (LD R (j + 1) (D ++ t)) := hide ⟨by rw [flat_snoc HX.out, ← HD.out.1, HYE.out], take_snoc_all HX.out HD.out.2 (by rw [HYE.out]; omega)⟩
                          have hx3' : ¬ (3 : Int) < (t.length : Int) := by omega
                          obtain ⟨DD, hDD⟩ : ∃ z, D ++ t = z := ⟨_, rfl⟩
                          have W1 : Hid (D ++ t = DD ∧ D.length + t.length ≤ 9000000) := hide ⟨hDD, by omega⟩
                          rw [hDD] at HN2
                          have hdl : DD.length ≤ 3 * (j + 1) := by rw [← hDD, List.length_append]; omega
                          clear hDD
                          go_wp2_with (refine step_addW (p := D) (q := t) (r := DD) rfl rfl rfl W1.out ?_)
                          exact ⟨⟨j + 1, DD, rfl, by simp, hlt, hdl, HN2, trivial⟩, by simp only [intOf]; omega⟩
                      · have e120 : (((((bA x)[0]'hz).toNat : Nat) : Int) == 120) = false := by
                          rw [hfa]
                          simp only [beq_eq_false_iff_ne, ne_eq]
                          intro e
                          refine ha (UInt8.toNat_inj.1 ?_)
                          have : a.toNat = 120 := by omega
                          rw [this]; rfl
                        have HYE : Hid (rqX x = x) := hide (by
                          rw [hxe]
                          show (if a = 120 then t else a :: t) = _
                          rw [if_neg ha])
                        clear hxe ha hfa
                        by_cases hx3 : 3 < x.length
                        · have HNo : Hid (rqR s = none) := hide (by
                            rw [HE.out]
                            unfold rqQ
                            rw [if_neg (fun h => absurd (h _ (List.mem_of_getElem? HX.out)) (by rw [HYE.out]; omega))])
                          have hx3' : (3 : Int) < (x.length : Int) := by omega
                          go_upto_region 28 with fail
                          go_wp2_with (refine step_storeA wT rfl rfl (vs := c4 0 0 0 0) rfl G8.out rfl (One.c4 0 0 0 0) rfl ?_)
                          intro wz hgz hbutz
                          have BE := hide (B8.out.trans (hbutz.below LE.out))
                          go_wp2
                          refine bodyPost_ret (results_wide2 rfl wT _ _ rfl hgz rfl) rfl ⟨.inr ⟨rfl, .inl HNo.out⟩, BE.out⟩
                        · have HN2 : Hid (LD R (j + 1) (D ++ x)) := hide ⟨by rw [flat_snoc HX.out, ← HD.out.1, HYE.out], take_snoc_all HX.out HD.out.2 (by rw [HYE.out]; omega)⟩
                          have hx3' : ¬ (3 : Int) < (x.length : Int) := by omega
                          obtain ⟨DD, hDD⟩ : ∃ z, D ++ x = z := ⟨_, rfl⟩
                          have W1 : Hid (D ++ x = DD ∧ D.length + x.length ≤ 9000000) := hide ⟨hDD, by omega⟩
                          rw [hDD] at HN2
                          have hdl : DD.length ≤ 3 * (j + 1) := by rw [← hDD, List.length_append]; omega
                          clear hDD
                          go_wp2_with (refine step_addW (p := D) (q := x) (r := DD) rfl rfl rfl W1.out ?_)
                          exact ⟨⟨j + 1, DD, rfl, by simp, hlt, hdl, HN2, trivial⟩, by simp only [intOf]; omega⟩
                  · have hge : ¬ (j : Int) < (NR : Int) := by omega
                    have HDA : Hid (D = R.flatMap rqX ∧ ∀ y ∈ R, (rqX y).length ≤ 3) := hide (by
                      have hd := HD.out
                      unfold LD at hd
                      rw [List.take_of_length_le (by rw [HLN.out]; omega)] at hd
                      exact hd)
                    have HL3 := hide (plain_any D wr (by omega))
                    clear HD
                    go_wp2_with fail
                    refine HL3.out.mono ?_
                    rintro r w9 ⟨hb9, hr9⟩
                    have G9 := hide (G8.out.on hb9)
                    have T9 := hide (T8.out.on hb9)
                    have B9 := hide (on_below B8.out hb9)
                    clear hb9 HL3 G8 T8 B8 S8 HLN HLE
                    rcases hr9 with ⟨ix, hix, rfl⟩ | ⟨hno, y, rfl⟩
                    · have HSm : Hid (rqR s = some (h, l, ix, Pw)) := hide (by
                        rw [HE.out]
                        unfold rqQ
                        rw [if_pos HDA.out.2, ← HDA.out.1, hix]
                        rfl)
                      clear hix HDA HE
                      have f2 := T9.out.free 2
                      obtain ⟨t0, t1, t2, t3⟩ := T9.out.four
                      go_upto_region 34 with fail
                      obtain ⟨wA, hv⟩ : ∃ v : World, v = w9.setCell ⟨g5, 2, none⟩ (.int .i64 (ix : Int)) := ⟨_, rfl⟩
                      have TA : Hid (Blk wA g5 43 (c4 (h : Int) (l : Int) (ix : Int) (Pw : Int))) := hide (by rw [hv]; exact T9.out.set 2 _)
                      have hbut : But g5 w9 wA := by rw [hv]; exact But.setCell _ _ _ _
                      have GA := hide (G9.out.but hbut hne25)
                      have BA' := hide (B9.out.trans (hbut.below L5.out))
                      rw [← hv]
                      clear hv hbut T9 G9 B9 t0 t1 t2 t3 f2
                      obtain ⟨pz, ez, hz, hzc⟩ := pathR_any (h : Int) (l : Int) (ix : Int) (Pw : Int)
                      have HPz := hide hzc
                      clear hzc
                      go_wp2_with (refine step_loadA wT rfl rfl TA.out rfl ?_)
                      refine (HPz.out _).mono ?_
                      rintro r wB ⟨rfl, hbB⟩
                      have GB := hide (GA.out.on hbB)
                      have TB := hide (TA.out.on hbB)
                      have BB := hide (on_below BA'.out hbB)
                      clear hbB GA TA BA' HPz
                      rcases hz with ⟨rfl, kz, rfl⟩ | ⟨rfl, kz, rfl⟩
                      · obtain ⟨pz, hpz⟩ : ∃ z, pathI (h : Int) (l : Int) (ix : Int) (Pw : Int) = z := ⟨_, rfl⟩
                        rw [hpz]
                        by_cases hps : pz = s
                        · have HOK : Hid (tOK (h : Int) (l : Int) (ix : Int) (Pw : Int) ∧ pathI (h : Int) (l : Int) (ix : Int) (Pw : Int) = s) := hide ⟨kz, hpz.trans hps⟩
                          have e0 : ((bA pz).toList == (bA s).toList) = true := by rw [beq_bA, decide_eq_true hps]
                          clear hps hpz kz
                          go_wp2_with (first | (refine step_loadA wT rfl rfl TB.out rfl ?_) | (refine step_storeA wT rfl rfl rfl GB.out rfl (One.c4 (h : Int) (l : Int) (ix : Int) (Pw : Int)) rfl ?_))
                          intro wz hgz hbutz
                          have BE := hide (BB.out.trans (hbutz.below LE.out))
                          go_wp2
                          refine bodyPost_ret (results_wide2 rfl wT _ _ rfl hgz rfl) rfl ⟨.inl ⟨h, l, ix, Pw, HSm.out, HOK.out.1, HOK.out.2, rfl⟩, BE.out⟩
                        · have HNt : Hid (¬ (tOK (h : Int) (l : Int) (ix : Int) (Pw : Int) ∧ pathI (h : Int) (l : Int) (ix : Int) (Pw : Int) = s)) := hide (fun k => hps (hpz.symm.trans k.2))
                          have e0 : ((bA pz).toList == (bA s).toList) = false := by rw [beq_bA, decide_eq_false hps]
                          clear hps hpz kz
                          go_upto_region 36 with fail
                          go_wp2_with (refine step_storeA wT rfl rfl (vs := c4 0 0 0 0) rfl GB.out rfl (One.c4 0 0 0 0) rfl ?_)
                          intro wz hgz hbutz
                          have BE := hide (BB.out.trans (hbutz.below LE.out))
                          go_wp2
                          refine bodyPost_ret (results_wide2 rfl wT _ _ rfl hgz rfl) rfl ⟨.inr ⟨rfl, .inr ⟨h, l, ix, _, HSm.out, HNt.out⟩⟩, BE.out⟩
                      · have HNt : Hid (¬ (tOK (h : Int) (l : Int) (ix : Int) (Pw : Int) ∧ pathI (h : Int) (l : Int) (ix : Int) (Pw : Int) = s)) := hide (fun k => kz k.1)
                        clear kz
                        go_upto_region 36 with fail
                        go_wp2_with (refine step_storeA wT rfl rfl (vs := c4 0 0 0 0) rfl GB.out rfl (One.c4 0 0 0 0) rfl ?_)
                        intro wz hgz hbutz
                        have BE := hide (BB.out.trans (hbutz.below LE.out))
                        go_wp2
                        refine bodyPost_ret (results_wide2 rfl wT _ _ rfl hgz rfl) rfl ⟨.inr ⟨rfl, .inr ⟨h, l, ix, _, HSm.out, HNt.out⟩⟩, BE.out⟩
                    · have HNo : Hid (rqR s = none) := hide (by
                        rw [HE.out]
                        unfold rqQ
                        rw [if_pos HDA.out.2, ← HDA.out.1, hno]
                        rfl)
                      clear hno HDA HE
                      go_upto_region 32 with fail
                      go_wp2_with (refine step_storeA wT rfl rfl (vs := c4 0 0 0 0) rfl G9.out rfl (One.c4 0 0 0 0) rfl ?_)
                      intro wz hgz hbutz
                      have BE := hide (B9.out.trans (hbutz.below LE.out))
                      go_wp2
                      refine bodyPost_ret (results_wide2 rfl wT _ _ rfl hgz rfl) rfl ⟨.inr ⟨rfl, .inl HNo.out⟩, BE.out⟩
          · have HNo : Hid (rqR s = none) := hide (by rw [HR1.out, HH1.out, Option.bind_some, HL1.out, Option.bind_some, if_neg hH])
            have HHc := hide (fun v => heightR_no (h : Int) v (by omega))
            go_upto_region 8 with (go_at_call 65; refine (HHc.out _).mono ?_; rintro r w' ⟨rfl, hv⟩; replace hv := hv.symm; subst hv)
            go_wp2_with (refine step_storeA wT rfl rfl (vs := c4 0 0 0 0) rfl G4.out rfl (One.c4 0 0 0 0) rfl ?_)
            intro wz hgz hbutz
            have BE := hide (B4.out.trans (hbutz.below LE.out))
            go_wp2
            refine bodyPost_ret (results_wide2 rfl wT _ _ rfl hgz rfl) rfl ⟨.inr ⟨rfl, .inl HNo.out⟩, BE.out⟩
        · have HNo : Hid (rqR s = none) := hide (by rw [HR1.out, HH1.out, Option.bind_some, hno]; rfl)
          clear hno
          go_upto_region 8 with fail
          go_wp2_with (refine step_storeA wT rfl rfl (vs := c4 0 0 0 0) rfl G4.out rfl (One.c4 0 0 0 0) rfl ?_)
          intro wz hgz hbutz
          have BE := hide (B4.out.trans (hbutz.below LE.out))
          go_wp2
          refine bodyPost_ret (results_wide2 rfl wT _ _ rfl hgz rfl) rfl ⟨.inr ⟨rfl, .inl HNo.out⟩, BE.out⟩
      · have HNo : Hid (rqR s = none) := hide (by rw [HR1.out, hno]; rfl)
        clear hno
        go_wp2_with fail
        refine HL2.out.mono ?_
        rintro r w4 ⟨hb4, hr4⟩
        have G4 := hide (G3.out.on hb4)
        have B4 := hide (on_below B3.out hb4)
        have T4 := hide (T3.out.on hb4)
        have C4 : Hid (∀ (i : Nat) (l : List UInt8), (p0 :: p1 :: p2 :: p3 :: rest)[i]? = some l → w4.cell? ⟨gp, i, none⟩ = some (.string (bA l))) := hide (fun i l hl => cell_kept (C3.out i l hl) hb4)
        clear hb4 G3 B3 T3 C3 HL2 c2 x2
        rcases hr4 with ⟨l, hl, rfl⟩ | ⟨hno, y, rfl⟩
        · clear hl
          go_upto_region 8 with fail
          go_wp2_with (refine step_storeA wT rfl rfl (vs := c4 0 0 0 0) rfl G4.out rfl (One.c4 0 0 0 0) rfl ?_)
          intro wz hgz hbutz
          have BE := hide (B4.out.trans (hbutz.below LE.out))
          go_wp2
          refine bodyPost_ret (results_wide2 rfl wT _ _ rfl hgz rfl) rfl ⟨.inr ⟨rfl, .inl HNo.out⟩, BE.out⟩
        · clear hno
          go_upto_region 8 with fail
          go_wp2_with (refine step_storeA wT rfl rfl (vs := c4 0 0 0 0) rfl G4.out rfl (One.c4 0 0 0 0) rfl ?_)
          intro wz hgz hbutz
          have BE := hide (B4.out.trans (hbutz.below LE.out))
          go_wp2
          refine bodyPost_ret (results_wide2 rfl wT _ _ rfl hgz rfl) rfl ⟨.inr ⟨rfl, .inl HNo.out⟩, BE.out⟩
    · have HNo : Hid (rqR s = none) := hide (by rw [HR0.out, if_neg hp0])
      have e0 : ((bA p0).toList == [116, 105, 108, 101]) = false := by have := beq_bA p0 tileW; rw [decide_eq_false hp0, tl_tile] at this; exact this
      go_upto_region 3 with fail
      go_wp2_with (refine step_storeA wT rfl rfl (vs := c4 0 0 0 0) rfl G1.out rfl (One.c4 0 0 0 0) rfl ?_)
      intro wz hgz hbutz
      have BE := hide (B1.out.trans (hbutz.below LE.out))
      go_wp2
      refine bodyPost_ret (results_wide2 rfl wT _ _ rfl hgz rfl) rfl ⟨.inr ⟨rfl, .inl HNo.out⟩, BE.out⟩
/-- What the document's Parse tells of any text. -/
theorem parseR_any (s : List UInt8) (hs : s.length ≤ 1048576) : ∃ h l i n e : Int, PrR s h l i n e ∧ ∀ w : World, Calls Tryz.prog 42 #[.string (bA s)] w fun r w' => r = .returned (.tuple #[.agg (c4 h l i n).toArray, .int .i64 e]) ∧ Below w.heap.size w w' := by
  by_cases hk : ∃ h l i n, tOK h l i n ∧ pathI h l i n = s
  · obtain ⟨a, b, c, d, k, e⟩ := hk
    refine ⟨a, b, c, d, 0, .inl ⟨rfl, k, e⟩, fun w => (parseR_walk s w hs).mono fun r w' ⟨hr, hb⟩ => ⟨?_, hb⟩⟩
    rcases hr with ⟨h, l, i, n, h1, h2, h3, rfl⟩ | ⟨rfl, h1 | ⟨h, l, i, n, h1, h2⟩⟩
    · obtain ⟨rfl, rfl, rfl, rfl⟩ := rq_some h1 k e
      rfl
    · exact absurd ⟨_, _, _, _, k, e⟩ (rq_none h1)
    · obtain ⟨rfl, rfl, rfl, rfl⟩ := rq_some h1 k e
      exact absurd ⟨k, e⟩ h2
  · refine ⟨0, 0, 0, 0, 100, .inr ⟨rfl, rfl, rfl, rfl, rfl, hk⟩, fun w => (parseR_walk s w hs).mono fun r w' ⟨hr, hb⟩ => ⟨?_, hb⟩⟩
    rcases hr with ⟨h, l, i, n, h1, h2, h3, rfl⟩ | ⟨rfl, _⟩
    · exact absurd ⟨_, _, _, _, h2, h3⟩ hk
    · rfl
end Go.Proofs.YtlgcjdgcgnlcaaaGreatDoor
