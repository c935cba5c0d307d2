/-
  Same: two disks' files held against each other.
-/
import Derived.Test.YtpocadbhajacaaaGreatDoorKmi
import Derived.Test.YtpocadbhajacaaaGreatDoorShE
import Derived.Lib.Bytes
namespace Go.Proofs.YtpocadbhajacaaaGreatDoor
open Go.RowKit Go.Maps
set_option linter.unusedVariables false

theorem str_injQ {xs ys : List Int} (hx : isB xs) (hy : isB ys) (h : str xs = str ys) : xs = ys := by
  have e := congrArg (fun s : ByteArray => s.data.toList) h
  simp only [str, strOfNums_data] at e
  have key : ∀ zs : List Int, isB zs → (zs.map fun n => UInt8.ofNat n.toNat).map (fun c => (c.toNat : Int)) = zs := by
    intro zs hz
    rw [List.map_map]
    conv => rhs; rw [← List.map_id zs]
    apply List.map_congr_left
    intro z hzz
    have := hz z hzz
    simp only [Function.comp, UInt8.toNat_ofNat', id]
    omega
  rw [← key xs hx, ← key ys hy, e]
theorem str_beq {xs ys : List Int} (bx : isB xs) (by' : isB ys) : ((str xs).toList == (str ys).toList) = decide (xs = ys) := by
  have e1 : (str xs).toList = Lib.bytesOf xs := Lib.strOfNums_toList xs
  have e2 : (str ys).toList = Lib.bytesOf ys := Lib.strOfNums_toList ys
  rw [e1, e2]
  by_cases h : xs = ys
  · subst h; simp
  · rw [decide_eq_false h]
    refine beq_false_of_ne (fun h2 => h (str_injQ bx by' ?_))
    apply ByteArray.ext
    exact congrArg List.toArray h2
theorem run_eqStr {dst : Option Tmp} {ty : TypeId} {pos : String} {aft : Array Edge} {gd : Option (Nat × Bool)} {a : Act} {w : World} {x y : Operand} {xs ys : List Int} (hx : a.eval x = .string (str xs)) (hy : a.eval y = .string (str ys)) (bx : isB xs) (by' : isB ys) :
    (execOp a.eval ⟨dst, .binOp .eql 9 x y 9, ty, pos, aft, gd⟩).run Tryz.prog w = .ok (.value (.bool (decide (xs = ys)))) w := by
  have e := str_beq bx by'
  unfold execOp
  simp only [hx, hy]
  simp [go_sem]
  exact e
section
variable {dst : Option Tmp} {ty : TypeId} {pos : String} {aft : Array Edge} {gd : Option (Nat × Bool)} {ops : Array Oper} {rest : List Oper} {a : Act} {w : World} {K : Act → World → Prop} {Q : Exit → Act → World → Prop}
theorem step_eqStr {x y : Operand} {xs ys : List Int} (hw : Region.wanted ⟨dst, .binOp .eql 9 x y 9, ty, pos, aft, gd⟩ (yielded ops a.tmps) = true) (hx : a.eval x = .string (str xs)) (hy : a.eval y = .string (str ys)) (bx : isB xs) (by' : isB ys)
    (h : wpList Tryz.prog ops Q rest (a.put dst (.bool (decide (xs = ys)))) w) : wpList Tryz.prog ops Q (⟨dst, .binOp .eql 9 x y 9, ty, pos, aft, gd⟩ :: rest) a w :=
  step_run hw _ w (run_eqStr hx hy bx by') h
end
set_option maxRecDepth 100000 in
theorem bytesEq_any (a : Option Addr) (l c : Nat) (xs : List Int) (b : Option Addr) (m d : Nat) (ys : List Int) (w : World) (hx : Sl w a l c xs) (hy : Sl w b m d ys) :
    Calls Tryz.prog 59 #[.slice a l c, .slice b m d] w fun r w' => r = .returned (.bool (decide (xs = ys))) ∧ w' = w := by
  have HX := hide hx
  have HY := hide hy
  clear hx hy
  go_enter Tryz.func59, Tryz.ntmps59
  go_wp2_with (first | (refine step_toStr rfl rfl HX.out ?_) | (refine step_toStr rfl rfl HY.out ?_) | (refine step_eqStr rfl rfl rfl HX.out.hbyte HY.out.hbyte ?_))
  go_ret
  exact ⟨rfl, rfl⟩

/-! ### two lists without doubles -/
theorem sub_len {α : Type} : ∀ (a b : List α), a.Nodup → (∀ x ∈ a, x ∈ b) → a.length ≤ b.length
  | [], _, _, _ => Nat.zero_le _
  | x :: r, b, h, hs => by
    obtain ⟨s, t, rfl⟩ := List.append_of_mem (hs x (by simp))
    rw [List.nodup_cons] at h
    have := sub_len r (s ++ t) h.2 (fun y hy => by
      have h1 := hs y (by simp [hy])
      rcases List.mem_append.1 h1 with h1 | h1
      · exact List.mem_append.2 (.inl h1)
      · rcases List.mem_cons.1 h1 with rfl | h1
        · exact absurd hy h.1
        · exact List.mem_append.2 (.inr h1))
    simp at this ⊢
    omega
theorem sub_lt {α : Type} (a b : List α) (h : a.Nodup) (hs : ∀ x ∈ a, x ∈ b) {y : α} (hy : y ∈ b) (hn : y ∉ a) : a.length < b.length := by
  have := sub_len (y :: a) b (List.nodup_cons.2 ⟨hn, h⟩) (fun x hx => by
    rcases List.mem_cons.1 hx with rfl | hx
    · exact hy
    · exact hs x hx)
  simp at this
  omega

/-! ### files as data -/
theorem Own.uniq {w : World} {B : Nat} {v : Value} {xs ys : List Int} (h : Own w B v xs) (h' : Own w B v ys) : xs = ys := by
  have key : u8s xs = u8s ys := by
    obtain ⟨h1, h2⟩ := h
    obtain ⟨h1', h2'⟩ := h'
    rcases h2 with ⟨rfl, e⟩ | ⟨g, cap, cur, rfl, hg, hh, r1, r2, r3, r4⟩
    · rcases h2' with ⟨_, e'⟩ | ⟨g', cap', cur', e', _⟩
      · rw [List.eq_nil_of_length_eq_zero e, List.eq_nil_of_length_eq_zero e']
      · cases e'
    · rcases h2' with ⟨e', _⟩ | ⟨g', cap', cur', e', hg', hh', r1', r2', r3', r4'⟩
      · cases e'
      · injection e' with e1 e2 e3
        injection e1 with e1
        injection e1 with e1
        subst e1
        rw [hh] at hh'
        injection hh' with hh'
        injection hh' with hh'
        subst hh'
        rw [← r4, ← r4', e2]
  have := congrArg (List.map fun v => intOf v) key
  simpa [u8s, intOf, Function.comp_def] using this
def encB (xs : List Int) : DataW Unit := .slice (xs.map fun x => .lit (.int .u8 x)) []
def decB : DataW Unit → List Int
  | .slice es _ => es.map fun | .lit (.int _ x) => x | _ => 0
  | _ => []
theorem dec_enc (xs : List Int) : decB (encB xs) = xs := by
  simp [decB, encB, Function.comp_def]
/-- How a world's slices are read as data: none but those that hold bytes. -/
theorem reads_ex (w : World) : ∃ R : Value → Option (DataW Unit × List MemPlace), (∀ v xs, Own w 0 v xs → isB xs → xs.length ≤ 1099511000000 → R v = some (encB xs, [])) ∧ ∀ v z, R v = some z → ∃ xs, Own w 0 v xs ∧ isB xs ∧ xs.length ≤ 1099511000000 ∧ z = (encB xs, []) := by
  refine ⟨fun v => @dite _ (∃ xs, Own w 0 v xs ∧ isB xs ∧ xs.length ≤ 1099511000000) (Classical.propDecidable _) (fun h => some (encB (Classical.choose h), [])) (fun _ => none), fun v xs h1 h2 h3 => ?_, fun v z hz => ?_⟩
  · have hx : ∃ xs, Own w 0 v xs ∧ isB xs ∧ xs.length ≤ 1099511000000 := ⟨xs, h1, h2, h3⟩
    have h4 := Classical.choose_spec hx
    simp only [dif_pos hx]
    rw [h4.1.uniq h1]
  · by_cases hx : ∃ xs, Own w 0 v xs ∧ isB xs ∧ xs.length ≤ 1099511000000
    · simp only [dif_pos hx, Option.some.injEq] at hz
      have h4 := Classical.choose_spec hx
      exact ⟨_, h4.1, h4.2.1, h4.2.2, hz.symm⟩
    · simp only [dif_neg hx] at hz
      cases hz
/-- A file as an entry of the datum. -/
def ent (f : (ByteArray → Option (List Int))) (x : ByteArray × Value) : Lit × DataW Unit := (.string x.1.data.toList, encB (fl f x.1))
theorem FilAt.owns {w : World} {m : Nat} {fm : List (ByteArray × Value)} {f : (ByteArray → Option (List Int))} (h : FilAt w m fm f) (hl : ∀ n, (fl f n).length ≤ 1099511000000) (hfew : fm.length ≤ 1099511000000) {R : Value → Option (DataW Unit × List MemPlace)} (hR : ∀ v xs, Own w 0 v xs → isB xs → xs.length ≤ 1099511000000 → R v = some (encB xs, [])) :
    ∃ L : List (Lit × DataW Unit), w.ownsMap Tryz.prog 9 R m fm.length (.map L) ∧ L.Perm (fm.map (ent f)) := by
  obtain ⟨es, clock, hb, hst, he⟩ := h.map.ex
  have hlen : es.size = fm.length := by
    have := congrArg List.length he
    simpa using this
  have hrd : ∀ e ∈ es.toList, ∃ x ∈ fm, e.key = .string x.1 ∧ e.val = x.2 := fun e hm => by
    have h1 : (e.key, e.val) ∈ fm.map (fun x => (Value.string x.1, x.2)) := by rw [← he]; exact List.mem_map_of_mem hm
    obtain ⟨x, hx, e1⟩ := List.mem_map.1 h1
    rw [Prod.mk.injEq] at e1
    exact ⟨x, hx, e1.1.symm, e1.2.symm⟩
  have hrx : ∀ e ∈ es.toList, ∀ x ∈ fm, e.key = .string x.1 → e.val = x.2 → WideElems.rd Tryz.prog 9 R e = some (ent f x) := fun e _ x hx e1 e2 => by
    have hv := mfind_at h.map.one hx
    obtain ⟨o1, o2⟩ := h.own x.1 x.2 hv
    unfold WideElems.rd
    rw [e1, e2, key_ofS (h.map.wf x hx), hR x.2 _ o1 o2 (hl x.1)]
    rfl
  refine ⟨(es.toList.map (WideElems.rg Tryz.prog 9 R)).foldr DataW.insert [], ⟨es, clock, hb, ⟨by unfold maxLen; omega, hst, fun e hm => ?_⟩, Nat.le_of_eq hlen, rfl⟩, ?_⟩
  · obtain ⟨x, hx, e1, e2⟩ := hrd e hm
    exact ⟨_, hrx e hm x hx e1 e2⟩
  · refine (WideShapes.sorted_perm _).trans (List.Perm.of_eq ?_)
    apply List.ext_getElem?
    intro j
    rw [List.getElem?_map, List.getElem?_map]
    cases hj : es.toList[j]? with
    | none =>
      have h1 : es.toList.length ≤ j := List.getElem?_eq_none_iff.1 hj
      have : fm[j]? = none := List.getElem?_eq_none_iff.2 (by simp at h1; omega)
      rw [this]
      rfl
    | some e =>
      have h4 : (es.toList.map (fun e => (e.key, e.val)))[j]? = some (e.key, e.val) := by rw [List.getElem?_map, hj]; rfl
      rw [he, List.getElem?_map] at h4
      obtain ⟨x, hx, e1⟩ := Option.map_eq_some_iff.1 h4
      rw [Prod.mk.injEq] at e1
      rw [hx]
      show some (WideElems.rg Tryz.prog 9 R e) = some (ent f x)
      rw [WideElems.rg, hrx e (List.mem_of_getElem? hj) x (List.mem_of_getElem? hx) e1.1.symm e1.2.symm]
      rfl

theorem name_inj {n t : ByteArray} (h : n.data.toList = t.data.toList) : n = t := ByteArray.ext (Array.toList_inj.1 h)
theorem FilAt.mem {w : World} {m : Nat} {fm : List (ByteArray × Value)} {f : (ByteArray → Option (List Int))} (h : FilAt w m fm f) {n : ByteArray} {xs : List Int} (hn : f n = some xs) : ∃ v, (n, v) ∈ fm ∧ fl f n = xs := by
  obtain ⟨v, hv, _⟩ := h.get hn
  exact ⟨v, mfind_mem hv, by simp [fl, hn]⟩
theorem FilAt.some {w : World} {m : Nat} {fm : List (ByteArray × Value)} {f : (ByteArray → Option (List Int))} (h : FilAt w m fm f) {x : ByteArray × Value} (hx : x ∈ fm) : f x.1 = some (fl f x.1) := by
  have h1 := h.iff x.1
  rw [mfind_at h.map.one hx] at h1
  cases hf : f x.1 with
  | none => rw [hf] at h1; cases h1
  | some y => simp [fl, hf]
def eqd (x y : DataW Unit) : Bool := decide (decB x = decB y)
theorem same_data {w w' : World} {m m' : Nat} {fm fm' : List (ByteArray × Value)} {f f' : (ByteArray → Option (List Int))} (h : FilAt w m fm f) (h' : FilAt w' m' fm' f') {L L' : List (Lit × DataW Unit)} (hL : L.Perm (fm.map (ent f))) (hL' : L'.Perm (fm'.map (ent f'))) :
    Lib.equalFuncD eqd (.map L) (.map L') = true ↔ f = f' := by
  have hk : ∀ x : ByteArray × Value, WideAt.IsKeyLit (ent f' x).1 := fun x => trivial
  have hap : L'.Pairwise (fun p q => p.1 ≠ q.1) := by
    have h1 : (fm'.map (ent f')).Pairwise (fun p q => p.1 ≠ q.1) := by
      rw [List.pairwise_map]
      have h2 := h'.map.one
      rw [List.Nodup, List.pairwise_map] at h2
      exact h2.imp (fun hne e => hne (name_inj (by injection e)))
    exact (hL'.pairwise_iff (fun hne e => hne e.symm)).2 h1
  have hsz : Maps.size (.map L : DataW Unit) = fm.length := by rw [Maps.size_eq, hL.length_eq, List.length_map]
  have hsz' : Maps.size (.map L' : DataW Unit) = fm'.length := by rw [Maps.size_eq, hL'.length_eq, List.length_map]
  -- an entry is good just if the other has that file
  have good : ∀ x ∈ fm, Lib.goodD eqd (.map L') (ent f x) = true ↔ f' x.1 = some (fl f x.1) := by
    intro x hx
    unfold Lib.goodD
    constructor
    · intro hg
      rw [Bool.and_eq_true] at hg
      obtain ⟨p, hp, hs⟩ := List.any_eq_true.1 (show L'.any (fun p => p.1.sameKey (ent f x).1) = true from hg.1)
      obtain ⟨y, hy, rfl⟩ := List.mem_map.1 (hL'.mem_iff.1 hp)
      have e1 := WideAt.sameKey_eq hs
      have e2 : y.1 = x.1 := name_inj (by injection e1)
      have e3 : (DataW.map L').atKey (ent f x).1 .nil = encB (fl f' y.1) := WideAt.atKey_mem .nil trivial hap (by
        have : ent f' y = ((ent f x).1, encB (fl f' y.1)) := by rw [← e1]; rfl
        rw [← this]; exact hp)
      have h4 := hg.2
      rw [e3] at h4
      have h5 : decB (ent f x).2 = decB (encB (fl f' y.1)) := of_decide_eq_true h4
      have h6 : fl f x.1 = fl f' y.1 := by rw [← dec_enc (fl f x.1), ← dec_enc (fl f' y.1)]; exact h5
      rw [← e2, h'.some hy, ← h6, e2]
    · intro hf
      obtain ⟨v, hv, hfl⟩ := h'.mem hf
      have hp : ent f' (x.1, v) ∈ L' := hL'.mem_iff.2 (List.mem_map_of_mem hv)
      have e1 : ent f' (x.1, v) = ((ent f x).1, encB (fl f x.1)) := by
        show (_, encB (fl f' x.1)) = _
        rw [hfl]
        rfl
      rw [e1] at hp
      rw [Bool.and_eq_true]
      refine ⟨List.any_eq_true.2 ⟨_, hp, WideAt.sameKey_self (by exact trivial)⟩, ?_⟩
      rw [WideAt.atKey_mem .nil (by exact trivial) hap hp]
      exact decide_eq_true rfl
  have sub : (∀ x ∈ fm, f' x.1 = some (fl f x.1)) → ∀ n ∈ fm.map (·.1), n ∈ fm'.map (·.1) := by
    intro hall n hn
    obtain ⟨x, hx, rfl⟩ := List.mem_map.1 hn
    obtain ⟨v, hv, _⟩ := h'.mem (hall x hx)
    exact List.mem_map.2 ⟨_, hv, rfl⟩
  unfold Lib.equalFuncD
  rw [Bool.and_eq_true, decide_eq_true_eq, hsz, hsz']
  constructor
  · rintro ⟨h1, h2⟩
    have hall : ∀ x ∈ fm, f' x.1 = some (fl f x.1) := fun x hx => (good x hx).1 (List.all_eq_true.1 h2 _ (hL.mem_iff.2 (List.mem_map_of_mem hx)))
    funext n
    cases hf : f n with
    | some xs =>
      obtain ⟨v, hv, hfl⟩ := h.mem hf
      have := hall _ hv
      simp only at this
      rw [this, hfl]
    | none =>
      cases hf' : f' n with
      | none => rfl
      | some ys =>
        obtain ⟨v, hv, _⟩ := h'.mem hf'
        have hn1 : n ∉ fm.map (·.1) := fun hn => by
          obtain ⟨x, hx, e⟩ := List.mem_map.1 hn
          have := h.some hx
          rw [e, hf] at this
          cases this
        have := sub_lt _ _ h.map.one (sub hall) (y := n) (List.mem_map.2 ⟨_, hv, rfl⟩) hn1
        simp at this
        omega
  · rintro rfl
    have hall : ∀ x ∈ fm, f x.1 = some (fl f x.1) := fun x hx => h.some hx
    have hall' : ∀ n ∈ fm'.map (·.1), n ∈ fm.map (·.1) := fun n hn => by
      obtain ⟨x, hx, rfl⟩ := List.mem_map.1 hn
      obtain ⟨v, hv, _⟩ := h.mem (h'.some hx)
      exact List.mem_map.2 ⟨_, hv, rfl⟩
    have l1 := sub_len _ _ h.map.one (sub hall)
    have l2 := sub_len _ _ h'.map.one hall'
    simp at l1 l2
    refine ⟨by omega, List.all_eq_true.2 fun p hp => ?_⟩
    obtain ⟨x, hx, rfl⟩ := List.mem_map.1 (hL.mem_iff.1 hp)
    exact (good x hx).2 (hall x hx)

theorem DkAt.bounds {w : World} {d s : Nat} {rs : List Rw} {D : Dm} (h : DkAt w d s rs D) (hw : wt rs ≤ 1099511000000) : (∀ n, (fl (play rs) n).length ≤ 1099511000000) ∧ D.fm.length ≤ 1099511000000 :=
  ⟨fun n => Nat.le_trans (play_wt rs n) hw, by have h1 := h.few; have h2 := len_wt rs; omega⟩
/-- The library's maps.EqualFunc with bytes.Equal, at two disks' files. -/
theorem eqFunc_any (d d' s s' : Nat) (rs rs' : List Rw) (D D' : Dm) (w : World) (h : DkAt w d s rs D) (h' : DkAt w d' s' rs' D') (hw : wt rs ≤ 1099511000000) (hw' : wt rs' ≤ 1099511000000) :
    Calls Tryz.prog 58 #[.map (some D.m), .map (some D'.m), .func (.func 59) #[] #[]] w fun e w' => ∃ b, e = .returned (.bool b) ∧ (b = true ↔ play rs = play rs') ∧ Below w.heap.size w w' := by
  obtain ⟨R, hR1, hR2⟩ := reads_ex w
  obtain ⟨L, hL, hp⟩ := h.fil.owns (h.bounds hw).1 (h.bounds hw).2 hR1
  obtain ⟨L', hL', hp'⟩ := h'.fil.owns (h'.bounds hw').1 (h'.bounds hw').2 hR1
  have := AnyEq.maps_EqualFunc Tryz.lEq (string_keyed undS) R R eqd 59 #[] D.m D'.m _ _ (.map L) (.map L') w (enters_of Tryz.func59 (by kernel_rfl) rfl) hL hL' (.slice none 0 0) (fun w => zeroSl w) (encB []) [] (hR1 _ _ (Own.nil _ _) (fun x hx => by cases hx) (by simp)) (fun W x y xd yd xp yp hg hx hy => by
    obtain ⟨xs, ox, bx, lx, ex⟩ := hR2 x _ hx
    obtain ⟨ys, oy, by', ly, ey⟩ := hR2 y _ hy
    obtain ⟨ax, cx, rfl, sx⟩ := ox.sl' bx (by omega)
    obtain ⟨ay, cy, rfl, sy⟩ := oy.sl' by' (by omega)
    injection ex with ex1 _
    injection ey with ey1 _
    subst ex1 ey1
    have hbel : Below w.heap.size w W := Below.of_grown hg (Nat.le_refl _) (fun k e => by cases e)
    refine (bytesEq_any ax _ cx xs ay _ cy ys W (sx.below hbel) (sy.below hbel)).mono ?_
    rintro e w2 ⟨rfl, rfl⟩
    refine ⟨?_, World.grownBy.refl _ _⟩
    rw [eqd, dec_enc, dec_enc])
  refine this.mono ?_
  rintro e w2 ⟨rfl, hg⟩
  exact ⟨_, rfl, same_data h.fil h'.fil hp hp', Below.of_grown hg (Nat.le_refl _) (fun k e => by cases e)⟩
theorem bool_of (p : Prop) : ∃ b : Bool, b = true ↔ p := by
  by_cases h : p
  · exact ⟨true, by simp [h]⟩
  · exact ⟨false, by simp [h]⟩
set_option maxRecDepth 100000 in
theorem same_any (d d' s s' : Nat) (rs rs' : List Rw) (D D' : Dm) (b : Bool) (w : World) (h : DkAt w d s rs D) (h' : DkAt w d' s' rs' D') (hw : wt rs ≤ 1099511000000) (hw' : wt rs' ≤ 1099511000000) (hb : b = true ↔ play rs = play rs') :
    Calls Tryz.prog 23 #[.pointer (some ⟨d, 0, none⟩), .pointer (some ⟨d', 0, none⟩)] w fun e w' => e = .returned (.bool b) ∧ Below w.heap.size w w' := by
  have CQ : Hid (∀ u : Sub w, Calls Tryz.prog 58 #[.map (some D.m), .map (some D'.m), .func (.func 59) #[] #[]] u.v fun e w' => e = .returned (.bool b) ∧ Below u.v.heap.size u.v w') := hide (fun u =>
    (eqFunc_any d d' s s' rs rs' D D' u.v (h.below u.bel) (h'.below u.bel) hw hw').mono (by
      rintro e w2 ⟨b2, rfl, hb2, hbel⟩
      have e1 : b2 = b := by
        cases b <;> cases b2
        · rfl
        · exact absurd (hb.2 (hb2.1 rfl)) (by simp)
        · exact absurd (hb2.2 (hb.1 rfl)) (by simp)
        · rfl
      rw [e1]
      exact ⟨rfl, hbel⟩))
  obtain ⟨c0, c1, _, hp⟩ := h.made
  obtain ⟨c0', c1', _, hp'⟩ := h'.made
  have HC0 := hide c0
  have HC0' := hide c0'
  clear c0 c0' hb h h'
  go_enter Tryz.func23, Tryz.ntmps23
  go_wp2_with fail
  have hne := Sub.one w
  have c1s : ∀ u : Sub w, u.v.cell? ⟨d, 1, none⟩ = some (.map (some D.m)) := fun u => Sub.cell c1 u
  have c1s' : ∀ u : Sub w, u.v.cell? ⟨d', 1, none⟩ = some (.map (some D'.m)) := fun u => Sub.cell c1' u
  clear c1 c1'
  refine wp_region_sub (by kernel_rfl) (by kernel_rfl) ?_
  repeat (go_big_quiet_step (fail))
  go_big_quiet_step ((go_at_call 55; exact sub_call ((made_ok _ _ _ (Sub.cell HC0.out _) hp).mono fun _ _ h => ⟨h.1, by rw [h.2]; exact Below.refl _ _⟩)))
  repeat (go_big_quiet_step (fail))
  go_big_quiet_step ((go_at_call 55; exact sub_call ((made_ok _ _ _ (Sub.cell HC0'.out _) hp').mono fun _ _ h => ⟨h.1, by rw [h.2]; exact Below.refl _ _⟩)))
  repeat (go_big_quiet_step (fail))
  go_big_quiet_step ((go_at_call 58; exact sub_call (CQ.out _)))
  repeat (go_big_quiet_step (fail))
  refine wpQuiet_nil ?_
  rintro _ ⟨⟨W, hW⟩, rfl⟩
  go_wp2
  go_ret
  exact ⟨rfl, hW⟩

end Go.Proofs.YtpocadbhajacaaaGreatDoor
