/-
  Texts one behind the other: Jpo Fkr Jkr Jld Jle Jpc Jrq Jop Joq Jcl Jro Jli Jsm.
-/
import Derived.Test.YtninkkdbcgadpaaGreatDoorPkB
import Derived.Test.YtninkkdbcgadpaaGreatDoorIs
import Derived.Test.YtninkkdbcgadpaaGreatDoorOu
import Derived.Test.YtninkkdbcgadpaaGreatDoorKqm0

/-
  What Open does, without any program: the generations of a disk, files removed.
-/
namespace Go.Proofs.YtninkkdbcgadpaaGreatDoor
open Go.RowKit Go.Shelf
set_option linter.unusedVariables false
set_option linter.unusedSimpArgs false
set_option maxRecDepth 100000

theorem Gens.uniq {f : ByteArray → Option (List Int)} {a b : List Nat} (h : Gens f a) (h' : Gens f b) : a = b := by
  have hp : a.Perm b := perm_of_mem (h.srt.imp (fun {x y} hxy => Nat.ne_of_lt hxy)) (h'.srt.imp (fun {x y} hxy => Nat.ne_of_lt hxy)) (fun x => (h.mem x).trans (h'.mem x).symm)
  exact hp.eq_of_pairwise (le := fun x y => x < y) (fun x y _ _ h1 h2 => by omega) h.srt h'.srt
theorem gens_names : ∀ ns : List ByteArray, ∃ fs : List Nat, fs.Nodup ∧ fs.length ≤ ns.length ∧ ∀ g, g ∈ fs ↔ (1 ≤ g ∧ g ≤ 2147483647 ∧ jN g ∈ ns)
  | [] => ⟨[], List.nodup_nil, Nat.le_refl _, fun g => by simp⟩
  | x :: ns => by
    obtain ⟨fs, h1, h0, h2⟩ := gens_names ns
    obtain ⟨g, hg⟩ := gn_ex x
    by_cases hin : x ∈ ns
    · refine ⟨fs, h1, by simp; omega, fun k => (h2 k).trans ⟨fun ⟨a, b, c⟩ => ⟨a, b, by simp [c]⟩, fun ⟨a, b, c⟩ => ⟨a, b, ?_⟩⟩⟩
      rcases List.mem_cons.1 c with c | c
      · rw [c]; exact hin
      · exact c
    · rcases hg with ⟨a, b, c⟩ | ⟨a, b⟩
      · refine ⟨g :: fs, List.nodup_cons.2 ⟨fun hf => hin (by rw [c]; exact ((h2 g).1 hf).2.2), h1⟩, by simp; omega, fun k => ?_⟩
        rw [List.mem_cons, h2]
        constructor
        · rintro (rfl | ⟨q1, q2, q3⟩)
          · exact ⟨a, b, by simp [c]⟩
          · exact ⟨q1, q2, by simp [q3]⟩
        · rintro ⟨q1, q2, q3⟩
          rcases List.mem_cons.1 q3 with q3 | q3
          · left; exact jN_inj (q3.trans c)
          · right; exact ⟨q1, q2, q3⟩
      · refine ⟨fs, h1, by simp; omega, fun k => (h2 k).trans ⟨fun ⟨q1, q2, q3⟩ => ⟨q1, q2, by simp [q3]⟩, fun ⟨q1, q2, q3⟩ => ⟨q1, q2, ?_⟩⟩⟩
        rcases List.mem_cons.1 q3 with q3 | q3
        · exact absurd q3.symm (b k q1 q2)
        · exact q3
theorem gens_ex (rs : List Rw) : ∃ gl, Gens (play rs) gl := by
  obtain ⟨ls, hl⟩ := fl_play rs
  obtain ⟨fs, h1, _, h2⟩ := gens_names (ls.map (·.1))
  obtain ⟨gs, hr, _⟩ := rise_ex fs
  exact ⟨gs, gens_of hl hr h1 h2⟩
theorem snoc_ind {α : Type} {p : List α → Prop} (h0 : p []) (h1 : ∀ t x, p t → p (t ++ [x])) : ∀ t, p t := fun t => by
  have key : ∀ l : List α, p l.reverse := fun l => by
    induction l with
    | nil => exact h0
    | cons x l ih => rw [List.reverse_cons]; exact h1 _ _ ih
  have h := key t.reverse
  rwa [List.reverse_reverse] at h
/-- Files of generations removed, one behind the other. -/
def rmAll (rs : List Rw) (t : List Nat) : List Rw := t.foldl (fun r g => rmS r (jN g)) rs
theorem rmAll_snoc (rs : List Rw) (t : List Nat) (g : Nat) : rmAll rs (t ++ [g]) = rmS (rmAll rs t) (jN g) := by simp [rmAll]
theorem rmAll_wt (rs : List Rw) : ∀ t : List Nat, wt (rmAll rs t) ≤ wt rs + t.length := by
  refine snoc_ind (by simp [rmAll]) (fun t g ih => ?_)
  · rw [rmAll_snoc]
    have : ∀ r n, wt (rmS r n) ≤ wt r + 1 := fun r n => by
      unfold rmS
      split
      · rw [wt_app]; simp [wt, rRm]
      · omega
    have := this (rmAll rs t) (jN g)
    simp
    omega
theorem rmAll_play (rs : List Rw) : ∀ t : List Nat, t.Nodup → (∀ g ∈ t, g ≤ 2147483647 ∧ (play rs (jN g)).isSome = true) → (∀ g ∈ t, play (rmAll rs t) (jN g) = none) ∧ ∀ n, (∀ g ∈ t, n ≠ jN g) → play (rmAll rs t) n = play rs n := by
  refine snoc_ind (fun _ _ => ⟨(fun g hg => by cases hg), fun n _ => rfl⟩) (fun t g ih => ?_)
  · intro hn hx
    have hn' := List.nodup_append.1 hn
    obtain ⟨i1, i2⟩ := ih hn'.1 (fun k hk => hx k (by simp [hk]))
    obtain ⟨x1, x2⟩ := hx g (by simp)
    have hgt : ∀ k ∈ t, g ≠ k := fun k hk e => hn'.2.2 k hk g (by simp) e.symm
    have e1 : play (rmAll rs t) (jN g) = play rs (jN g) := i2 _ (fun k hk => jN_ne (hgt k hk))
    obtain ⟨y, hy⟩ := Option.isSome_iff_exists.1 x2
    have hf : fE (rmAll rs t) (jN g) = 0 := fE_some (jN_nm x1) (e1.trans hy)
    rw [rmAll_snoc, play_rm hf]
    refine ⟨fun k hk => ?_, fun n hne => ?_⟩
    · rcases List.mem_append.1 hk with hk | hk
      · rw [upd_ne _ _ (jN_ne (hgt k hk).symm)]
        exact i1 k hk
      · simp at hk
        rw [hk, upd_same]
    · rw [upd_ne _ _ (hne g (by simp))]
      exact i2 n (fun k hk => hne k (by simp [hk]))
theorem rmAll_fE (rs : List Rw) (t : List Nat) (g : Nat) (hn : (t ++ [g]).Nodup) (hx : ∀ k ∈ t ++ [g], k ≤ 2147483647 ∧ (play rs (jN k)).isSome = true) : fE (rmAll rs t) (jN g) = 0 := by
  have hn' := List.nodup_append.1 hn
  obtain ⟨i1, i2⟩ := rmAll_play rs t hn'.1 (fun k hk => hx k (by simp [hk]))
  obtain ⟨x1, x2⟩ := hx g (by simp)
  obtain ⟨y, hy⟩ := Option.isSome_iff_exists.1 x2
  exact fE_some (jN_nm x1) ((i2 _ (fun k hk => jN_ne (fun e => hn'.2.2 k hk g (by simp) e.symm))).trans hy)
/-- What Open leaves of the files: those of the least generation, cut to what is whole. -/
def opS (rs : List Rw) (g : Nat) (t : List Nat) (n : Nat) : List Rw := cuS (rmAll rs t) (jN g) (n : Int)
theorem open_pure {rs : List Rw} {g : Nat} {t : List Nat} (h : Gens (play rs) (g :: t)) {xs : List Int} (hp : play rs (jN g) = some xs) {n : Nat} (hn : n ≤ xs.length) :
    cuE (rmAll rs t) (jN g) (n : Int) = 0 ∧ play (rmAll rs t) (jN g) = some xs ∧ Gens (play (opS rs g t n)) [g] ∧ play (opS rs g t n) (jN g) = some (xs.take n) ∧ ∀ m, (∀ k ∈ g :: t, m ≠ jN k) → play (opS rs g t n) m = play rs m := by
  have hnd : (g :: t).Nodup := h.srt.imp (fun {x y} hxy => Nat.ne_of_lt hxy)
  have hg := (h.mem g).1 (by simp)
  have hgt : g ∉ t := (List.nodup_cons.1 hnd).1
  obtain ⟨i1, i2⟩ := rmAll_play rs t (List.nodup_cons.1 hnd).2 (fun k hk => by
    have := (h.mem k).1 (by simp [hk])
    exact ⟨this.2.1, this.2.2⟩)
  have e1 : play (rmAll rs t) (jN g) = some xs := (i2 _ (fun k hk => jN_ne (fun e => hgt (by rw [e]; exact hk)))).trans hp
  have nm := jN_nm hg.2.1
  have f0 := fE_some nm e1
  have l0 : fl (play (rmAll rs t)) (jN g) = xs := by simp [fl, e1]
  have c0 : cuE (rmAll rs t) (jN g) (n : Int) = 0 := by
    unfold cuE
    rw [f0, l0, if_pos rfl, if_neg (by omega)]
  have key : play (opS rs g t n) (jN g) = some (xs.take n) ∧ ∀ m, m ≠ jN g → play (opS rs g t n) m = play (rmAll rs t) m := by
    rcases play_cu c0 with h1 | ⟨h1, h2⟩
    · unfold opS
      rw [h1, l0]
      exact ⟨by rw [upd_same]; simp, fun m hm => upd_ne _ _ hm⟩
    · unfold opS
      rw [h1]
      rw [l0] at h2
      exact ⟨by rw [e1, List.take_of_length_le (by omega)], fun m hm => rfl⟩
  refine ⟨c0, e1, Gens.mk1 hg.1 hg.2.1 key.1 (fun k k1 k2 hk => ?_), key.1, fun m hm => ?_⟩
  · rw [key.2 _ (jN_ne hk)]
    by_cases hkt : k ∈ t
    · exact i1 k hkt
    · rw [i2 _ (fun q hq => jN_ne (fun e => hkt (by rw [e]; exact hq)))]
      cases hf : play rs (jN k) with
      | none => rfl
      | some y =>
        have := (h.mem k).2 ⟨k1, k2, by rw [hf]; rfl⟩
        rcases List.mem_cons.1 this with e | e
        · exact absurd e hk
        · exact absurd e hkt
  · rw [key.2 m (hm g (by simp)), i2 m (fun k hk => hm k (by simp [hk]))]
theorem wt_opS (rs : List Rw) (g : Nat) (t : List Nat) (n : Nat) : wt (opS rs g t n) ≤ wt rs + t.length + 1 := by
  have := rmAll_wt rs t
  unfold opS cuS
  split
  · rw [wt_app]
    simp [wt, rCu]
    have e : (List.map (fun r => r.b.length + 1) (rmAll rs t)).sum = wt (rmAll rs t) := rfl
    have e2 : (List.map (fun r => r.b.length + 1) rs).sum = wt rs := rfl
    omega
  · omega

end Go.Proofs.YtninkkdbcgadpaaGreatDoor

/-
  A region that draws its order and only reads, inside a round of a range over a function (the text of Km, for seats that keep other things).
-/

namespace Go.Proofs.YtninkkdbcgadpaaGreatDoor
open Go.RowKit Go.Shelf
set_option linter.unusedVariables false

/-- A region that draws its order and only reads, inside a round: one walk serves every order. -/
def noDefer (o : Oper) : Bool := match o.op with
  | .defer _ => false
  | _ => true
section
variable {F : Fence} {n : Nat} {P : Program} {ops : Array Oper} {md : Region.Mode} {C : World → Prop}
theorem wpOpIn_of_qOp (hF : WideF F) (hd : ops.all noDefer = true) {i : Nat} {a : Act} {K : Act → Prop} {K' : Act → World → Prop} {Q' : Exit → Act → World → Prop} {w : World} (hC : C w) (h : ∀ a w', C w' → K a → K' a w') (hh : qOp P ops C i K a) : wpOpIn F n P ops Q' i K' a w := by
  unfold qOp at hh
  unfold wpOpIn
  split
  · rename_i ho; simp only [ho] at hh; exact h _ _ hC hh
  · rename_i o ho
    simp only [ho] at hh
    split
    · rename_i hw
      simp only [hw, if_true] at hh
      refine lift_op hF (fun c hc => ?_) (Oper.wp_of_quiet hC h hh)
      have h1 := Array.all_eq_true.1 hd
      obtain ⟨hi, he⟩ := Array.getElem?_eq_some_iff.1 ho
      have h2 := h1 i hi
      rw [he] at h2
      simp [noDefer, hc] at h2
    · rename_i hw; simp only [hw] at hh; exact ⟨fun f _ => hF.fn f, h _ _ hC hh⟩
theorem wpAnyIn_of_quiet (hF : WideF F) (hd : ops.all noDefer = true) {Q : Act → Prop} {Q' : Exit → Act → World → Prop} (hQ : ∀ a w, C w → Q a → Q' .normal a w) : ∀ (fuel : Nat) (listed : Array Bool) (a : Act) (w : World), C w →
    wpAnyQ P md ops C Q fuel listed a → wpAnyIn F n P md ops Q' fuel listed a w
  | 0, _, _, _, hw, h => ⟨h.1, hQ _ _ hw h.2⟩
  | fuel + 1, _, _, _, hw, h => ⟨fun h0 => hQ _ _ hw (h.1 h0), fun i hi => wpOpIn_of_qOp hF hd hw (fun a' w' hw' => wpAnyIn_of_quiet hF hd hQ fuel _ a' w' hw') (h.2 i hi)⟩
theorem wpIn_region_round {l : List Oper} {id : Nat} {Q : Exit → Act → World → Prop} {a : Act} {w : World} (hF : WideF F) (hm : P.follows .mixedOrders = true) (hB : Region.lexB .any l.toArray = true) (hd : l.toArray.all noDefer = true)
    (h : wpQuiet P l.toArray (fun w' => ∃ n, w' = w.drewN n) (fun a' => ∀ w', (∃ n, w' = w.drewN n) → Q .normal a' w') l a) : (Code.region id l.toArray true).wpIn F n P Q a w := by
  simp only [Region.lexB, Bool.and_eq_true] at hB
  refine wpIn_region_any hm (wpAnyIn_of_quiet hF hd (C := fun w' => ∃ n, w' = w.drewN n) (Q := fun a' => ∀ w', (∃ n, w' = w.drewN n) → Q .normal a' w') (fun _ w' hw' h => h w' hw') _ _ _ _ ⟨1, rfl⟩ ?_)
  have := wpAnyQ_lex (P := P) (C := fun w' => ∃ n, w' = w.drewN n) (md := .any) hB.1 l 0 (Array.replicate l.toArray.size false) a (by simp) (by simpa using hB.2) h
  simpa using this
end

end Go.Proofs.YtninkkdbcgadpaaGreatDoor

/-
  A region that draws its order inside a round of a range over a function: walked by hand, as outside (as Kr), and what is held only till a given operation comes (as Ou).
-/
namespace Go.Proofs.YtninkkdbcgadpaaGreatDoor
open Go.RowKit Go.Shelf
set_option linter.unusedVariables false

section
variable {F : Fence} {n : Nat} {P : Program} {ops : Array Oper} {md : Region.Mode}
theorem wpOpIn_of_wpOp (hF : WideF F) (hd : ops.all noDefer = true) {i : Nat} {a : Act} {K K' : Act → World → Prop} {Q : Exit → Act → World → Prop} {w : World} (hL : ¬ LetsOut Q) (h : ∀ a w', K a w' → K' a w') (hh : wpOp P ops Q i K a w) : wpOpIn F n P ops Q i K' a w := by
  unfold wpOp at hh
  unfold wpOpIn
  split
  · rename_i ho; simp only [ho] at hh; exact h _ _ hh
  · rename_i o ho
    simp only [ho] at hh
    split
    · rename_i hw
      simp only [hw, if_true] at hh
      rcases hh with hh | ⟨_, hh⟩
      · refine lift_op hF (fun c hc => ?_) (Oper.wp_mono h hh)
        have h1 := Array.all_eq_true.1 hd
        obtain ⟨hi, he⟩ := Array.getElem?_eq_some_iff.1 ho
        have h2 := h1 i hi
        rw [he] at h2
        simp [noDefer, hc] at h2
      · exact absurd hh hL
    · rename_i hw; simp only [hw] at hh; exact ⟨fun f _ => hF.fn f, h _ _ hh⟩
theorem wpAnyIn_of_any (hF : WideF F) (hd : ops.all noDefer = true) {Q : Exit → Act → World → Prop} (hL : ¬ LetsOut Q) : ∀ (fuel : Nat) (listed : Array Bool) (a : Act) (w : World), wpAny P md ops Q fuel listed a w → wpAnyIn F n P md ops Q fuel listed a w
  | 0, _, _, _, h => h
  | fuel + 1, _, _, _, h => ⟨h.1, fun i hi => wpOpIn_of_wpOp hF hd hL (fun a' w' h' => wpAnyIn_of_any hF hd hL fuel _ a' w' h') (h.2 i hi)⟩
/-- Only the normal way out. -/
def Only (R : Act → World → Prop) : Exit → Act → World → Prop
  | .normal, a, w => R a w
  | _, _, _ => False
theorem Only.imp {Q : Exit → Act → World → Prop} : ∀ (e : Exit) (a : Act) (w : World), Only (fun a w => Q .normal a w) e a w → Q e a w := fun e a w h => by
  cases e <;> first | exact h | exact (h : False).elim
theorem Only.normal {Q : Exit → Act → World → Prop} {a : Act} {w : World} (h : Q .normal a w) : Only (fun a w => Q .normal a w) .normal a w := h
theorem Only.out (R : Act → World → Prop) : ¬ LetsOut (Only R) := by rintro ⟨a, w, h⟩; exact h
theorem wpIn_region_held {S : World → Prop} {id : Nat} {Q : Exit → Act → World → Prop} {a : Act} {w : World} (hF : WideF F) (hm : P.follows .mixedOrders = true) (hd : ops.all noDefer = true) (hS : S w.drew)
    (h : S w.drew → wpAnyH P .any ops (Only (fun a w => Q .normal a w)) S ops.size (Array.replicate ops.size false) a w.drew) : (Code.region id ops true).wpIn F n P Q a w :=
  Code.wpIn_mono Only.imp (wpIn_region_any hm (wpAnyIn_of_any hF hd (Only.out _) _ _ _ _ (wpAny_of_held _ _ _ _ (h hS))))
theorem wpIn_region_U {S : World → Prop} {q id : Nat} {Q : Exit → Act → World → Prop} {a : Act} {w : World} (hF : WideF F) (hm : P.follows .mixedOrders = true) (hd : ops.all noDefer = true)
    (h : wpAnyU P .any ops (Only (fun a w => Q .normal a w)) S q ops.size (Array.replicate ops.size false) a w.drew) : (Code.region id ops true).wpIn F n P Q a w :=
  Code.wpIn_mono Only.imp (wpIn_region_any hm (wpAnyIn_of_any hF hd (Only.out _) _ _ _ _ (wpAny_of_U _ _ _ _ h)))
end

end Go.Proofs.YtninkkdbcgadpaaGreatDoor

/-
  load: what stands through it.
-/
namespace Go.Proofs.YtninkkdbcgadpaaGreatDoor
open Go.RowKit Go.Shelf
set_option linter.unusedVariables false
set_option linter.unusedSimpArgs false
set_option maxRecDepth 100000

/-- A journal that has no leaves yet. -/
def jm0 : Jm := ⟨.slice none 0 0, []⟩
/-- What stands in load behind n frames. -/
structure LI (w W : World) (B b1 b2 b3 d j s : Nat) (rs : List Rw) (D : Dm) (g : Nat) (wh : Int) (ds : List (List Int)) (M : Jm) : Prop where
  c1 : Blk W b1 30 [.pointer (some ⟨j, 0, none⟩)]
  c2 : Blk W b2 3 [.int .i64 wh]
  c3 : Blk W b3 31 [.int .i64 0]
  l1 : w.heap.size ≤ b1 ∧ b1 < B
  l2 : w.heap.size ≤ b2 ∧ b2 < B
  l3 : w.heap.size ≤ b3 ∧ b3 < B
  pj : PJ W d j s rs D g ds M
  mo : ∀ k, M.own j k ∨ M.ro k → k = j ∨ B ≤ k
  jl : j < w.heap.size
  dl : ∀ k, D.own d k ∨ D.ro k → k < w.heap.size
  ch : Chs (fun k => k = j) w W
  sz : B ≤ W.heap.size
  ff : 0 < w.heap.size ∧ 0 ≠ j
section
variable {w W W' : World} {B b1 b2 b3 d j s : Nat} {rs : List Rw} {D : Dm} {g : Nat} {wh : Int} {ds : List (List Int)} {M : Jm}
theorem LI.on (h : LI w W B b1 b2 b3 d j s rs D g wh ds M) (hb : Below W.heap.size W W') : LI w W' B b1 b2 b3 d j s rs D g wh ds M :=
  ⟨h.c1.on hb, h.c2.on hb, h.c3.on hb, h.l1, h.l2, h.l3, h.pj.below hb, h.mo, h.jl, h.dl, h.ch.thenBelow hb, Nat.le_trans h.sz hb.size, h.ff⟩
theorem LI.kept {row : Option Nat} (h : LI w W B b1 b2 b3 d j s rs D g wh ds M) (hg : W.grownBy W' row) (hr : ∀ r, row = some r → w.heap.size ≤ r ∧ ∃ o : Obj, W.heap[r]? = some o ∧ o.isCells = false) : LI w W' B b1 b2 b3 d j s rs D g wh ds M := by
  have hk := CK.of_grown hg (fun r e => (hr r e).2)
  refine ⟨h.c1.ck hk, h.c2.ck hk, h.c3.ck hk, h.l1, h.l2, h.l3, h.pj.same (fun k hF => ?_), h.mo, h.jl, h.dl, h.ch.thenGrown hg (fun g e => .inr (hr g e).1), Nat.le_trans h.sz hk.size, h.ff⟩
  rcases hF with hF | hF | hF | hF
  · exact hg.block k (h.pj.dk.lt (.inl hF)) (fun e => by have h1 := (hr k e.symm).1; have h2 := h.dl k (.inl hF); omega)
  · exact hg.block k (h.pj.dk.lt (.inr hF)) (fun e => by have h1 := (hr k e.symm).1; have h2 := h.dl k (.inr hF); omega)
  · obtain ⟨t, cs, hc, _⟩ := h.pj.jn.kindO hF
    exact (hc.ck hk).trans hc.symm
  · obtain ⟨cs, hc⟩ := h.pj.jn.kindR hF
    exact (hc.ck hk).trans hc.symm
theorem kt_nj {W : World} {j d : Nat} {g : Int} {lv : Value} (hk : KT W) (hj : Blk W j 50 (jnC (some ⟨d, 0, none⟩) g lv)) : 0 ≠ j := fun e => by
  have h1 := hk 0 (by decide)
  have h2 : W.cell? ⟨j, 0, none⟩ = some (.pointer (some ⟨d, 0, none⟩)) := by rw [hj.cell]; rfl
  subst e
  rw [h1] at h2
  cases h2
theorem pt_nj {W : World} {j d : Nat} {g : Int} {lv : Value} (hk : PT W) (hj : Blk W j 50 (jnC (some ⟨d, 0, none⟩) g lv)) : 1 ≠ j := fun e => by
  have h1 := hk.cell gPT 0 (by rw [Lib.pow10Tab_length]; decide)
  have h2 : W.cell? ⟨j, 0, none⟩ = some (.pointer (some ⟨d, 0, none⟩)) := by rw [hj.cell]; rfl
  subst e
  rw [h1] at h2
  cases h2
theorem TT.chj {w W : World} {j d : Nat} {g : Int} {lv : Value} (h : TT w) (hj : Blk w j 50 (jnC (some ⟨d, 0, none⟩) g lv)) (hc : Chs (fun k => k = j) w W) : TT W :=
  ⟨h.kt.same (hc.block _ h.kt.lt (kt_nj h.kt hj)), h.pt.same (hc.block _ h.pt.lt (pt_nj h.pt hj))⟩
/-- One frame more. -/
theorem LI.push {w3 w5 w6 w7 : World} {v : Value} {xs : List Int} {g' cap : Nat} {wh' : Int} (h : LI w W B b1 b2 b3 d j s rs D g wh ds M) (h3 : w3 = W.setCell ⟨b2, 0, none⟩ (.int .i64 wh')) (hb : Below w3.heap.size w3 w5) {n0 : Nat} (hn0 : B ≤ n0) (hv : Own w5 n0 v xs) (hx : isB xs ∧ xs.length ≤ 65535) (hnd : ∀ k, v.ownBlock = some k → ¬ D.own d k)
    (hrow : OwnV 39 w6 0 (.slice (some ⟨g', 0, none⟩) (M.vs.length + 1) cap) (M.vs ++ [v])) (hgr : w5.grownBy w6 M.lv.ownBlock) (hat : M.lv.ownBlock = some g' ∨ w5.heap.size ≤ g') (hst : w7 = w6.setCell ⟨j, 2, none⟩ (.slice (some ⟨g', 0, none⟩) (M.vs.length + 1) cap)) :
    (∃ M', LI w w7 B b1 b2 b3 d j s rs D g wh' (ds ++ [xs]) M') ∧ KG W w7 ∧ KeepsOthers W w7 := by
  have b23 : But b2 W w3 := by rw [h3]; exact But.setCell W b2 0 _
  have c2' : Blk w3 b2 3 [.int .i64 wh'] := by rw [h3]; exact h.c2.set 0 _
  have n2d : ∀ k, JF d j D M k → k ≠ b2 := fun k hk e => by
    subst e
    rcases hk with hk | hk | hk | hk
    · have h1 := h.dl _ (.inl hk); have h2 := h.l2; omega
    · have h1 := h.dl _ (.inr hk); have h2 := h.l2; omega
    · obtain ⟨t, cs, hc, ht⟩ := h.pj.jn.kindO hk
      exact hc.apart h.c2 (by rcases ht with rfl | rfl <;> decide) rfl
    · obtain ⟨cs, hc⟩ := h.pj.jn.kindR hk
      exact hc.apart h.c2 (by decide) rfl
  have p3 : PJ w3 d j s rs D g ds M := h.pj.same (fun k hk => b23.block k (n2d k hk))
  have hjb2 : j ≠ b2 := n2d j (.inr (.inr (.inl (.inl rfl))))
  have s3 : w3.heap.size = W.heap.size := b23.size
  have l1 := h.l1
  have l2 := h.l2
  have l3 := h.l3
  have hjl := h.jl
  have hwB : w.heap.size ≤ B := by omega
  have hlv : ∀ k, M.lv.ownBlock = some k → B ≤ k := fun k hk => by
    rcases h.mo k (.inl (.inr hk)) with e | e
    · subst e
      obtain ⟨cs, hc⟩ := h.pj.jn.row.blk hk
      exact absurd rfl (h.pj.jn.blk.apart hc (by decide))
    · exact e
  have hbut : But j w6 w7 := by rw [hst]; exact But.setCell w6 j 2 _
  have var : ∀ b, w.heap.size ≤ b → b < B → w7.heap[b]? = w3.heap[b]? := fun b hb1 hb2 => by
    have hs := h.sz
    have hs5 := hb.size
    rw [hbut.block b (by omega), hgr.block b (by omega) (fun e => by have := hlv b e.symm; omega), hb.block b (by omega)]
  have p5 := p3.below hb
  obtain ⟨M', q1, q2, q3, _⟩ := p3.push2 hb hv hnd hx hrow hgr hat hst
  have hs := h.sz
  have q3' : ∀ k, M'.own j k ∨ M'.ro k → k = j ∨ B ≤ k := fun k hk => by
    rcases q3 k hk with h | h | h | h
    · exact (‹LI w W B b1 b2 b3 d j s rs D g wh ds M›).mo k (.inl h)
    · exact (‹LI w W B b1 b2 b3 d j s rs D g wh ds M›).mo k (.inr h)
    · exact .inr (Nat.le_trans hn0 (hv.lt k h))
    · exact .inr (by omega)
  have ch37 : Chs (fun k => k = j) w w7 := by
    refine ⟨?_, ?_, ?_, ?_, fun k hk hn => ?_⟩
    · rw [hbut.os, hgr.os, hb.os, b23.os, h.ch.os]
    · rw [hbut.tape, hgr.tape, hb.tape, b23.tape, h.ch.tape]
    · rw [hbut.output, hgr.output, hb.output, b23.output, h.ch.output]
    · have h1 := h.ch.size
      have h2 := hb.size
      have h3 := hgr.size
      rw [hbut.size]
      omega
    · have h1 := h.ch.size
      have h2 := hb.size
      rw [hbut.block k hn, hgr.block k (by omega) (fun e => by have := hlv k e.symm; omega), hb.block k (by omega), b23.block k (by omega), h.ch.block k hk hn]
  have ff := h.ff
  have hj5 : Blk w5 j 50 (jnC (some ⟨d, 0, none⟩) (g : Int) M.lv) := p5.jn.blk
  have hj6 : Blk w6 j 50 (jnC (some ⟨d, 0, none⟩) (g : Int) M.lv) := hj5.same (hgr.block j hj5.lt (fun e => by
    obtain ⟨cs, hc⟩ := p5.jn.row.blk e.symm
    exact hj5.apart hc (by decide) rfl))
  refine ⟨⟨M', ⟨h.c1.same ((var b1 l1.1 l1.2).trans (b23.block b1 (fun e => h.c1.apart (e ▸ h.c2) (by decide) rfl))), c2'.same (var b2 l2.1 l2.2), h.c3.same ((var b3 l3.1 l3.2).trans (b23.block b3 (fun e => h.c3.apart (e ▸ h.c2) (by decide) rfl))), l1, l2, l3, q1, q3', hjl, h.dl, ch37, by
    have h2 := hb.size
    have h3 := hgr.size
    rw [hbut.size]
    omega, ff⟩⟩, ?_, ?_⟩
  · refine (KG.but b23 h.c2 (by decide) (by omega)).trans ((KG.below hb).trans ((KG.grown hgr (fun k e => ⟨?_, ?_⟩)).trans (KG.but hbut hj6 (by decide) ff.2)))
    · obtain ⟨cs, hc⟩ := p5.jn.row.blk e
      exact ⟨_, cs, hc, by decide⟩
    · have := hlv k e
      have := h.ch.size
      omega
  · refine (keepsO_but b23 h.c2).trans ((keepsO_below hb).trans ((keepsO_grown hgr (fun k e => ?_)).trans (keepsO_but hbut hj6)))
    obtain ⟨cs, hc⟩ := p5.jn.row.blk e
    exact ⟨_, cs, hc⟩
end

end Go.Proofs.YtninkkdbcgadpaaGreatDoor

/-
  The walk of load.
-/
namespace Go.Proofs.YtninkkdbcgadpaaGreatDoor
open Go.RowKit Go.Shelf
set_option linter.unusedVariables false
set_option linter.unusedSimpArgs false
set_option maxRecDepth 100000

/-- The variables of load, as they are made. -/
def lo3 (w : World) (j : Nat) : World := ((w.alloc (.cells #[.pointer (some ⟨j, 0, none⟩)] 30)).alloc (.cells #[.int .i64 0] 3)).alloc (.cells #[.int .i64 0] 31)
theorem lo3_bel (w : World) (j : Nat) : Below w.heap.size w (lo3 w j) := (((Below.refl _ _).alloc (Nat.le_refl _) _).alloc (by simp) _).alloc (by simp; omega) _
theorem lo3_size (w : World) (j : Nat) : (lo3 w j).heap.size = w.heap.size + 3 := by simp [lo3]
theorem lo3_li {w : World} {d j s : Nat} {rs : List Rw} {D : Dm} {g : Nat} (h : PJ w d j s rs D g [] jm0) (ht : KT w) : LI w (lo3 w j) (w.heap.size + 3) w.heap.size (w.heap.size + 1) (w.heap.size + 1 + 1) d j s rs D g 0 [] jm0 := by
  have s1 : (w.alloc (.cells #[.pointer (some ⟨j, 0, none⟩)] 30)).heap.size = w.heap.size + 1 := World.size_alloc _ _
  have s2 : ((w.alloc (.cells #[.pointer (some ⟨j, 0, none⟩)] 30)).alloc (.cells #[.int .i64 0] 3)).heap.size = w.heap.size + 1 + 1 := by rw [World.size_alloc, s1]
  have a1 := Blk.made w 30 [.pointer (some ⟨j, 0, none⟩)]
  have a2 := Blk.made (w.alloc (.cells #[.pointer (some ⟨j, 0, none⟩)] 30)) 3 [.int .i64 0]
  have a3 := Blk.made ((w.alloc (.cells #[.pointer (some ⟨j, 0, none⟩)] 30)).alloc (.cells #[.int .i64 0] 3)) 31 [.int .i64 0]
  rw [s1] at a2
  rw [s2] at a3
  have nx : ∀ (v : World) (o : Obj), Below v.heap.size v (v.alloc o) := fun v o => (Below.refl _ _).alloc (Nat.le_refl _) _
  refine ⟨(a1.on (nx _ _)).on (nx _ _), a2.on (nx _ _), a3, by omega, by omega, by omega, h.below (lo3_bel w j), fun k hk => ?_, h.jn.blk.lt, fun k hk => h.dk.lt hk, Chs.of_below _ (lo3_bel w j), by rw [lo3_size]; exact Nat.le_refl _, ht.lt, kt_nj ht h.jn.blk⟩
  rcases hk with (rfl | hk) | ⟨v, hv, _⟩
  · exact .inl rfl
  · cases hk
  · cases hv
/-- What a frame that is too long leaves. -/
structure LX (w W : World) (B b2 b3 j : Nat) : Prop where
  c2 : Blk W b2 3 [.int .i64 0]
  c3 : Blk W b3 31 [.int .i64 130]
  ch : Chs (fun k => k = j) w W
theorem LX.kept {w W W' : World} {B b2 b3 j : Nat} {row : Option Nat} (h : LX w W B b2 b3 j) (hg : W.grownBy W' row) (hr : ∀ r, row = some r → w.heap.size ≤ r ∧ ∃ o : Obj, W.heap[r]? = some o ∧ o.isCells = false) : LX w W' B b2 b3 j :=
  ⟨h.c2.ck (CK.of_grown hg (fun r e => (hr r e).2)), h.c3.ck (CK.of_grown hg (fun r e => (hr r e).2)), h.ch.thenGrown hg (fun g e => .inr (hr g e).1)⟩
/-- All leaves are short enough. -/
def Shrt (L : List (Int × List Int)) : Prop := ∀ y ∈ L, y.2.length ≤ 65535
set_option maxHeartbeats 4000000 in
theorem load_any (d j s : Nat) (rs : List Rw) (D : Dm) (g : Nat) (w : World) (h : PJ w d j s rs D g [] jm0) (ht : TT w) (hg : g ≤ 2147483647) (xs : List Int) (L : List (Int × List Int)) (P : Nat → Nat) (E : Int) (hp : play rs (jN g) = some xs) (hib : isB xs) (hxl : xs.length ≤ 8000000) (hfr : Frs xs L P E) (hwt : wt rs ≤ 1099511000000) :
    Calls Tryz.prog 34 #[.pointer (some ⟨j, 0, none⟩)] w fun e w' => Chs (fun k => k = j) w w' ∧
      ((Shrt L ∧ e = .returned (.tuple #[.int .i64 (P L.length : Int), .int .i64 0]) ∧ ∃ M', PJ w' d j s rs D g (L.map (·.2)) M' ∧ ∀ k, M'.own j k ∨ M'.ro k → k = j ∨ w.heap.size ≤ k) ∨ (¬ Shrt L ∧ e = .returned (.tuple #[.int .i64 0, .int .i64 130]))) := by
  obtain ⟨Z, HZ⟩ : ∃ Z, Hid (P L.length = Z) := ⟨_, hide rfl⟩
  rw [HZ.out]
  have HH := hide h
  have HT := hide ht
  have HX := hide hib
  have HFR := hide hfr
  have hnm := jN_nm hg
  have SZ : Hid (∀ W, DkAt W d s rs D → Calls Tryz.prog 66 #[.pointer (some ⟨d, 0, none⟩), .string (jN g)] W fun e w' => e = .returned (.tuple #[.int .i64 (xs.length : Int), .int .i64 0]) ∧ w' = W) := hide (fun W hW => by
    have := size_any d s rs D W hW (jN g)
    rwa [fE_some hnm hp, show fl (play rs) (jN g) = xs by simp [fl, hp], if_pos rfl] at this)
  have RD : Hid (∀ W, DkAt W d s rs D → Calls Tryz.prog 46 #[.pointer (some ⟨d, 0, none⟩), .string (jN g), .int .i64 0, .int .i64 (xs.length : Int)] W fun e w' => ∃ v, e = .returned (.tuple #[v, .int .i64 0]) ∧ Own w' W.heap.size v xs ∧ Below W.heap.size W w') := hide (fun W hW => by
    have e0 := fE_some hnm hp
    have e1 : fl (play rs) (jN g) = xs := by simp [fl, hp]
    have e2 : rqE rs (jN g) 0 (xs.length : Int) = 0 := by
      unfold rqE
      rw [e0, e1, if_pos rfl, if_neg (by omega)]
    have e3 : rqB rs (jN g) 0 (xs.length : Int) = xs := by
      unfold rqB
      rw [e2, e1, if_pos rfl]
      simp
    have := read_any d s rs D W hW (jN g) 0 (xs.length : Int) hwt
    rwa [e2, e3] at this)
  obtain ⟨A, HA⟩ : ∃ A, Hid (jN g = A) := ⟨_, hide rfl⟩
  rw [HA.out] at SZ RD
  have NM : Hid (∀ W, TT W → Calls Tryz.prog 37 #[.int .i64 (g : Int)] W fun r w' => r = .returned (.string A) ∧ Below W.heap.size W w') := hide (fun W hW => by rw [← HA.out]; exact name_any g W hg hW.pt)
  obtain ⟨len, HLEN⟩ : ∃ len, Hid (xs.length = len) := ⟨_, hide rfl⟩
  rw [HLEN.out] at SZ RD hxl
  have hx8 := hxl
  replace hxl : len ≤ 16777216 := by omega
  clear h ht hp hib hfr hwt hnm
  refine (callsIn_wide (n := 3)).1 ?_
  refine callsIn_of_wp_marks Tryz.func34 rfl trivial ?_ rfl
  refine wpIn_wide.2 ?_
  simp only [Tryz.ntmps34, List.size_toArray, List.length_cons, List.length_nil, Nat.reduceAdd, Nat.reduceSub, Array.replicate_succ, Array.replicate_zero, List.push_toArray, List.append_toArray, List.nil_append, List.cons_append]
  have F0 := hide (lo3_li HH.out HT.out.kt)
  have T0 := hide (HT.out.on (lo3_bel w j))
  have d0 : (lo3 w j).cell? ⟨w.heap.size, 0, none⟩ = some (.pointer (some ⟨j, 0, none⟩)) := by rw [F0.out.c1.cell]; rfl
  have j0 := F0.out.pj.jn.c0
  have j1 := F0.out.pj.jn.c1
  unfold lo3 at F0 T0 d0 j0 j1
  go_wp2_with fail
  revert F0 T0 d0 j0 j1
  generalize ((w.alloc (.cells #[.pointer (some ⟨j, 0, none⟩)] 30)).alloc (.cells #[.int .i64 0] 3)).alloc (.cells #[.int .i64 0] 31) = W0
  obtain ⟨B, hB⟩ : ∃ B, w.heap.size + 3 = B := ⟨_, rfl⟩
  obtain ⟨b3, hb3⟩ : ∃ b3, w.heap.size + 1 + 1 = b3 := ⟨_, rfl⟩
  obtain ⟨b2, hb2⟩ : ∃ b2, w.heap.size + 1 = b2 := ⟨_, rfl⟩
  rw [hB, hb3, hb2]
  clear hb3 hb2
  intro F0 T0 d0 j0 j1
  have hwB : w.heap.size ≤ B := by omega
  clear hB
  clear d0 j0 j1
  refine (NM.out W0 T0.out).mono ?_
  rintro _ W1 ⟨rfl, hb1⟩
  have F1 := hide (F0.out.on hb1)
  clear hb1 F0 T0 NM
  have d1 : W1.cell? ⟨w.heap.size, 0, none⟩ = some (.pointer (some ⟨j, 0, none⟩)) := by rw [F1.out.c1.cell]; rfl
  have d3 : W1.cell? ⟨b3, 0, none⟩ = some (.int .i64 0) := by rw [F1.out.c3.cell]; rfl
  have f3 := F1.out.c3.free 0
  have i3 := set_id F1.out.c3 (i := 0) rfl
  have j0 := F1.out.pj.jn.c0
  go_wp2_with fail
  refine (SZ.out W1 F1.out.pj.dk).mono ?_
  rintro _ W1 ⟨rfl, rfl⟩
  go_wp2_with fail
  refine (RD.out W1 F1.out.pj.dk).mono ?_
  rintro _ W2 ⟨v, rfl, hov, hb2⟩
  have F2 := hide (F1.out.on hb2)
  obtain ⟨va, vc, rfl, hsv⟩ := hov.sl' HX.out (by rw [HLEN.out]; omega)
  rw [HLEN.out] at hsv
  rw [HLEN.out]
  have SV := hide hsv
  clear hov hsv hb2 d1 d3 f3 i3 j0 F1 SZ RD
  have d3 : W2.cell? ⟨b3, 0, none⟩ = some (.int .i64 0) := by rw [F2.out.c3.cell]; rfl
  have f3 := F2.out.c3.free 0
  have i3 := set_id F2.out.c3 (i := 0) rfl
  go_wp2_with fail
  refine (allF_any _ _ _ _).mono ?_
  rintro _ W3 ⟨bx, rfl, hbx, hlx, hb3'⟩
  have F3 := hide (F2.out.on hb3')
  have T3 := hide (HT.out.chj HH.out.jn.blk F3.out.ch)
  have HSQ := hide (all_seqG va len vc xs L P E bx W3 (SV.out.below hb3') hxl HFR.out T3.out.kt hbx)
  clear d3 f3 i3 hbx hlx hb3' F2 SV
  have hBW : B ≤ W3.heap.size := F3.out.sz
  have hwW : w.heap.size ≤ W3.heap.size := by omega
  go_wp2_with fail
  refine (wpIn_wide (n := 3)).1 ?_
  refine rangeR rfl (by decide) (gf := 94) (lb := #[.pointer (some ⟨bx, 0, none⟩)]) rfl trivial (enters_of Tryz.func94 (by kernel_rfl) rfl)
    HSQ.out KG.trans (fun x W l o o' hl h hc => KG.book W l o o' h hc) (fun _ => rfl) (fun pre x => rf_own _ _ _ pre x)
    (fun pre W => Shrt (L.take pre.length) ∧ ∃ M, LI w W B w.heap.size b2 b3 d j s rs D g (P pre.length : Int) ((L.take pre.length).map (·.2)) M) (fun c pre W => c = .ret ∧ ¬ Shrt L ∧ LX w W B b2 b3 j)
    (fun _ A C row h hg hr => ⟨h.1, by
      obtain ⟨M, hM⟩ := h.2
      exact ⟨M, hM.kept hg (fun r e => ⟨by have := (hr r e).1; omega, (hr r e).2⟩)⟩⟩)
    (fun c _ A C row h hg hr => ⟨h.1, h.2.1, h.2.2.kept hg (fun r e => ⟨by have := (hr r e).1; omega, (hr r e).2⟩)⟩) ⟨(fun y hy => by simp at hy), jm0, by simpa [HFR.out.p0] using F3.out⟩ ?act ?assign ?body ?done ?stop
  case assign =>
    rintro l x W K hK
    have hsem := Oper.semAt_some
    simp only [encF]
    gi_wp2
    exact hK
  case body =>
    rintro l pre ⟨nx, v, y⟩ W ⟨hsh, M, hM⟩ ⟨h1, h2, h3, h4⟩
    have hsem := Oper.semAt_some
    obtain ⟨i, HI⟩ : ∃ i, Hid (pre.length = i) := ⟨_, hide rfl⟩
    have HP1 : Hid ((pre ++ [(nx, v, y)]).length = i + 1) := hide (by rw [List.length_append, HI.out]; rfl)
    rw [HI.out] at hsh hM h1 h3
    have hnx : nx = (P (i + 1) : Int) := by
      have := (HFR.out.step i h1).2.2
      rw [← h3] at this
      exact this
    have HNX := hide hnx
    clear hnx
    have hyd : (L.getD i (0, [])).2 = y := by rw [← h3]; rfl
    have hib : isB y := by rw [← hyd]; exact (HFR.out.data HX.out i h1).1
    have hyl : y.length ≤ 16777216 := by rw [← hyd]; exact Nat.le_trans (HFR.out.data HX.out i h1).2 (by rw [HLEN.out]; exact hxl)
    replace h4 : Own W W3.heap.size v y := h4
    obtain ⟨ya, yc, ev, sv⟩ := h4.sl' hib (by omega)
    subst ev
    have HM := hide hM
    have HV := hide h4
    have HTS : Hid (L.take (i + 1) = L.take i ++ [L.getD i (0, [])]) := hide (take_snocL L i h1)
    have d2 : W.cell? ⟨b2, 0, none⟩ = some (.int .i64 (P i : Int)) := by rw [hM.c2.cell]; rfl
    have d3 : W.cell? ⟨b3, 0, none⟩ = some (.int .i64 0) := by rw [hM.c3.cell]; rfl
    have f2 := hM.c2.free 0
    have f3 := hM.c3.free 0
    have n23 : b2 ≠ b3 := hM.c2.apart hM.c3 (by decide)
    obtain ⟨ny, HNY⟩ : ∃ ny, Hid (y.length = ny) := ⟨_, hide rfl⟩
    rw [HNY.out] at HV sv hyl HP1
    rw [HNY.out]
    by_cases hbig : 65535 < ny
    · have hbig' : (65535 : Int) < (ny : Int) := by omega
      have HNS : Hid (¬ Shrt L) := hide (fun hs => by
        have := hs (L.getD i (0, [])) (by
          simp only [List.getD, List.getElem?_eq_getElem h1, Option.getD_some]
          exact List.getElem_mem h1)
        rw [hyd, HNY.out] at this
        omega)
      clear hM h2 h3 h4 sv hsh
      gi_wp2
      have u2 := But.setCell W b2 0 (.int .i64 0)
      have u3 := But.setCell (W.setCell ⟨b2, 0, none⟩ (.int .i64 0)) b3 0 (.int .i64 130)
      have x2 : Blk (W.setCell ⟨b2, 0, none⟩ (.int .i64 0)) b2 3 [.int .i64 0] := HM.out.c2.set 0 _
      have x3 : Blk (W.setCell ⟨b2, 0, none⟩ (.int .i64 0)) b3 31 [.int .i64 0] := HM.out.c3.but u2 n23.symm
      refine ⟨((keepsO_but u2 HM.out.c2).trans (keepsO_but u3 x3)).from _, rfl, HNS.out, ⟨x2.but u3 n23, x3.set 0 _, ?_⟩⟩
      exact (HM.out.ch.thenBut u2 (.inr HM.out.l2.1)).thenBut u3 (.inr HM.out.l3.1)
    · have hbig' : ¬ (65535 : Int) < (ny : Int) := by omega
      have HSH : Hid (Shrt (L.take (i + 1))) := hide (fun z hz => by
        rw [HTS.out] at hz
        rcases List.mem_append.1 hz with hz | hz
        · exact hsh z hz
        · simp only [List.mem_singleton] at hz
          rw [hz, hyd, HNY.out]
          omega)
      have HDS : Hid ((L.take (i + 1)).map (·.2) = (L.take i).map (·.2) ++ [y]) := hide (by rw [HTS.out, List.map_append, List.map_singleton, hyd])
      have HIB : Hid (isB y ∧ y.length ≤ 65535) := hide ⟨hib, by rw [HNY.out]; omega⟩
      have u2 := But.setCell W b2 0 (.int .i64 nx)
      have x1 : Blk (W.setCell ⟨b2, 0, none⟩ (.int .i64 nx)) w.heap.size 30 [.pointer (some ⟨j, 0, none⟩)] := hM.c1.but u2 (fun e => hM.c1.apart (e ▸ hM.c2) (by decide) rfl)
      have xj : Blk (W.setCell ⟨b2, 0, none⟩ (.int .i64 nx)) j 50 (jnC (some ⟨d, 0, none⟩) (g : Int) M.lv) := hM.pj.jn.blk.but u2 (hM.pj.jn.blk.apart hM.c2 (by decide))
      have HV2 : Hid (Own (W.setCell ⟨b2, 0, none⟩ (.int .i64 nx)) W3.heap.size (.slice ya ny yc) y) := hide (HV.out.same (fun k hk => by
        obtain ⟨cs, hc⟩ := HV.out.lies hk
        exact u2.block k (hc.apart hM.c2 (by decide))))
      have HRW : Hid (OwnV 39 (W.setCell ⟨b2, 0, none⟩ (.int .i64 nx)) 0 M.lv M.vs) := hide (hM.pj.jn.row.same (fun k hk => by
        obtain ⟨cs, hc⟩ := hM.pj.jn.row.blk hk
        exact u2.block k (hc.apart hM.c2 (by decide))))
      have HVL : Hid (M.vs.length ≤ 1048576) := hide (by
        rw [hM.pj.jn.vlen, List.length_map, List.length_take]
        have h1' := HFR.out.few HX.out
        rw [HLEN.out] at h1'
        omega)
      have HND : Hid (∀ k, (Value.slice ya ny yc).ownBlock = some k → ¬ D.own d k) := hide (fun k hk hd => by
        have h1' := HV.out.lt k hk
        have h2' := hM.dl k (.inl hd)
        omega)
      have HX1 := hide x1
      have HXJ := hide xj
      clear hM h2 h3 h4 sv hsh d3 f3 u2 x1 xj
      gi_wp2_with fail
      revert HX1 HXJ HV2 HRW
      generalize hW5 : W.setCell ⟨b2, 0, none⟩ (.int .i64 nx) = W5
      have HW5 := hide hW5
      clear hW5
      intro HV2 HRW HX1 HXJ
      obtain ⟨b1, HB1⟩ : ∃ b1, Hid (w.heap.size = b1) := ⟨_, hide rfl⟩
      rw [HB1.out] at HX1
      rw [HB1.out]
      refine wpIn_region_U (q := 10) (S := fun v : World => v.cell? ⟨b1, 0, none⟩ = some (.pointer (some ⟨j, 0, none⟩)) ∧ Blk v j 50 (jnC (some ⟨d, 0, none⟩) (g : Int) M.lv)) (WideF.round l) (by kernel_rfl) (by kernel_rfl) ?_
      have BD := hide (Below.refl W5.heap.size W5).drew
      have hHeld : W5.drew.cell? ⟨b1, 0, none⟩ = some (.pointer (some ⟨j, 0, none⟩)) ∧ Blk W5.drew j 50 (jnC (some ⟨d, 0, none⟩) (g : Int) M.lv) := ⟨by rw [(HX1.out.on BD.out).cell]; rfl, HXJ.out.on BD.out⟩
      refine takeU 10 0 47 (.pointer (some ⟨j, 0, none⟩)) hHeld rfl rfl (by kernel_rfl) (by kernel_rfl) (by kernel_rfl) (by kernel_rfl) (by kernel_rfl) (by kernel_rfl) (fun _ _ _ h => h) (Or.inl ⟨by rfl, fun w hw => by have hw' : w.cell? ⟨b1, 0, none⟩ = some (.pointer (some ⟨j, 0, none⟩)) := (fun hw => hw.1) hw; go_simp⟩) ?_
      simp only [Act.put, List.setIfInBounds_toArray, List.set_cons_zero, List.set_cons_succ]
      refine takeU 10 1 48 (.pointer (some ⟨j, 0, none⟩)) hHeld rfl rfl (by kernel_rfl) (by kernel_rfl) (by kernel_rfl) (by kernel_rfl) (by kernel_rfl) (by kernel_rfl) (fun _ _ _ h => h) (Or.inl ⟨by rfl, fun w hw => by have hw' : w.cell? ⟨b1, 0, none⟩ = some (.pointer (some ⟨j, 0, none⟩)) := (fun hw => hw.1) hw; go_simp⟩) ?_
      simp only [Act.put, List.setIfInBounds_toArray, List.set_cons_zero, List.set_cons_succ]
      refine takeU 10 2 49 (.pointer (some ⟨j, 0, none⟩)) hHeld rfl rfl (by kernel_rfl) (by kernel_rfl) (by kernel_rfl) (by kernel_rfl) (by kernel_rfl) (by kernel_rfl) (fun _ _ _ h => h) (Or.inl ⟨by rfl, fun w _ => by go_simp⟩) ?_
      simp only [Act.put, List.setIfInBounds_toArray, List.set_cons_zero, List.set_cons_succ]
      refine takeU 10 3 50 (.pointer (some ⟨j, 2, none⟩)) hHeld rfl rfl (by kernel_rfl) (by kernel_rfl) (by kernel_rfl) (by kernel_rfl) (by kernel_rfl) (by kernel_rfl) (fun _ _ _ h => h) (Or.inl ⟨by rfl, fun w _ => by go_simp⟩) ?_
      simp only [Act.put, List.setIfInBounds_toArray, List.set_cons_zero, List.set_cons_succ]
      refine takeU 10 4 51 (M.lv) hHeld rfl rfl (by kernel_rfl) (by kernel_rfl) (by kernel_rfl) (by kernel_rfl) (by kernel_rfl) (by kernel_rfl) (fun _ _ _ h => h) (Or.inl ⟨by rfl, fun w hw => by have hw' : w.cell? ⟨j, 2, none⟩ = some (M.lv) := (fun hw => by rw [Blk.cell hw.2]; rfl) hw; go_simp⟩) ?_
      simp only [Act.put, List.setIfInBounds_toArray, List.set_cons_zero, List.set_cons_succ]
      refine takeU 10 5 52 (.slice ya ny yc) hHeld rfl rfl (by kernel_rfl) (by kernel_rfl) (by kernel_rfl) (by kernel_rfl) (by kernel_rfl) (by kernel_rfl) (fun _ _ _ h => h) (Or.inl ⟨by rfl, fun w _ => by go_simp⟩) ?_
      simp only [Act.put, List.setIfInBounds_toArray, List.set_cons_zero, List.set_cons_succ]
      refine wpAnyU_ready (rs := [6]) (by kernel_rfl) (by simp) (AllReadyU.cons rfl (fun K hK => ?_) AllReadyU.nil)
      rw [if_pos (by rfl)]
      refine wp_one1 (u := .slice ya ny yc) tinB rfl rfl ?_
      intro w5 g5 hg5 hle5 hb5
      have B5 := hide (on_below BD.out hb5)
      have G5 := hide hg5
      clear hb5 hg5 hle5 hHeld
      refine hK.out _ _ (fun _ => (show w5.cell? ⟨b1, 0, none⟩ = some (.pointer (some ⟨j, 0, none⟩)) ∧ Blk w5 j 50 (jnC (some ⟨d, 0, none⟩) (g : Int) M.lv) from ⟨by rw [(HX1.out.on B5.out).cell]; rfl, HXJ.out.on B5.out⟩)) ?_
      have hHeld := (show w5.cell? ⟨b1, 0, none⟩ = some (.pointer (some ⟨j, 0, none⟩)) ∧ Blk w5 j 50 (jnC (some ⟨d, 0, none⟩) (g : Int) M.lv) from ⟨by rw [(HX1.out.on B5.out).cell]; rfl, HXJ.out.on B5.out⟩)
      clear hK K
      try simp only [Act.put, List.setIfInBounds_toArray, List.set_cons_zero, List.set_cons_succ]
      refine wpAnyU_ready (rs := [7]) (by kernel_rfl) (by simp) (AllReadyU.cons rfl (fun K hK => ?_) AllReadyU.nil)
      rw [if_pos (by rfl)]
      refine wp_app1 (u := .slice ya ny yc) tinB rfl rfl rfl (HRW.out.below B5.out) G5.out HVL.out (Nat.zero_le _) ?_
      intro g' cap w6 hrow hgr hat
      have hj6 : Blk w6 j 50 (jnC (some ⟨d, 0, none⟩) (g : Int) M.lv) := (HXJ.out.on B5.out).same (hgr.block j (HXJ.out.on B5.out).lt (fun e => by
        obtain ⟨cs, hc⟩ := (HRW.out.below B5.out).blk e.symm
        exact (HXJ.out.on B5.out).apart hc (by decide) rfl))
      have hv6 : w6.cell? ⟨b1, 0, none⟩ = some (.pointer (some ⟨j, 0, none⟩)) := by
        have hx5 := HX1.out.on B5.out
        have := hx5.same (w' := w6) (hgr.block _ hx5.lt (fun e => by
          obtain ⟨cs, hc⟩ := (HRW.out.below B5.out).blk e.symm
          exact hx5.apart hc (by decide) rfl))
        rw [this.cell]
        rfl
      have HFIN := hide (HM.out.push HW5.out.symm B5.out hBW (HV2.out.below B5.out) HIB.out HND.out hrow hgr hat rfl)
      have c6 : w6.cell? ⟨j, 2, none⟩ = some M.lv := by rw [hj6.cell]; rfl
      have f6 := hj6.free 2
      clear hrow hgr hat hHeld
      refine hK.out _ _ (fun _ => (And.intro hv6 hj6)) ?_
      have hHeld := (And.intro hv6 hj6)
      clear hK K
      try simp only [Act.put, List.setIfInBounds_toArray, List.set_cons_zero, List.set_cons_succ]
      clear hj6 hv6
      refine wpAnyU_ready (rs := [8]) (by kernel_rfl) (by simp) (AllReadyU.cons rfl (fun K hK => ?_) AllReadyU.nil)
      rw [if_pos (by rfl)]
      go_simp
      refine hK.out _ _ (fun _ => hHeld) ?_
      have hHeld := hHeld
      clear hK K
      try simp only [Act.put, List.setIfInBounds_toArray, List.set_cons_zero, List.set_cons_succ]
      refine wpAnyU_ready (rs := [9]) (by kernel_rfl) (by simp) (AllReadyU.cons rfl (fun K hK => ?_) AllReadyU.nil)
      rw [if_pos (by rfl)]
      go_simp
      refine hK.out _ _ (fun _ => hHeld) ?_
      have hHeld := hHeld
      clear hK K
      try simp only [Act.put, List.setIfInBounds_toArray, List.set_cons_zero, List.set_cons_succ]
      refine wpAnyU_ready (rs := [10]) (by kernel_rfl) (by simp) (AllReadyU.cons rfl (fun K hK => ?_) AllReadyU.nil)
      rw [if_pos (by rfl)]
      go_simp
      refine hK.out _ _ (fun h => absurd h (by decide)) ?_
      clear hK K
      refine wpAnyU_done (by kernel_rfl) ?_ _
      refine Only.normal ?_
      clear hHeld c6 f6
      gi_wp2
      refine ⟨HFIN.out.2.2.from _, HFIN.out.2.1, ?_⟩
      show Shrt (L.take (pre ++ [(nx, Value.slice ya ny yc, y)]).length) ∧ ∃ M, LI w _ B w.heap.size b2 b3 d j s rs D g (P (pre ++ [(nx, Value.slice ya ny yc, y)]).length : Int) ((L.take (pre ++ [(nx, Value.slice ya ny yc, y)]).length).map (·.2)) M
      rw [HP1.out, HDS.out, ← HNX.out]
      exact ⟨HSH.out, HFIN.out.1⟩
  case stop =>
    rintro Dk c pre W hD hSp ⟨rfl, hns, hX⟩ hK2
    have HNS := hide hns
    have HXX := hide hX
    have HDK := hide hK2
    clear hns hX hK2 hSp
    gi_wp2
    refine ⟨by simp, .inl ⟨_, _, rfl, run_takeDeferred HDK.out, ?_⟩⟩
    have hk := CK.put (.deferred none) HDK.out rfl
    have e2 : (W.putObj Dk (.deferred none)).cell? ⟨b2, 0, none⟩ = some (.int .i64 0) := by rw [(HXX.out.c2.ck hk).cell]; rfl
    have e3 : (W.putObj Dk (.deferred none)).cell? ⟨b3, 0, none⟩ = some (.int .i64 130) := by rw [(HXX.out.c3.ck hk).cell]; rfl
    refine ⟨.tuple #[.int .i64 0, .int .i64 130], by simp [results, Tryz.f34, go_sem, e2, e3], ?_, .inr ⟨HNS.out, rfl⟩⟩
    exact HXX.out.ch.thenGrown (grownBy_putObj' W Dk _) (fun g e => .inr (by cases e; omega))
  case done =>
    rintro Dk ys W hD hS ⟨hsh, M, hM⟩ hK2
    have hyl : ys.length = L.length := by rw [← hS, List.length_map]
    rw [hyl, List.take_length] at hsh hM
    have HM := hide hM
    have HSH := hide hsh
    have HDK := hide hK2
    rw [HZ.out] at HM
    have d2 : W.cell? ⟨b2, 0, none⟩ = some (.int .i64 (Z : Int)) := by rw [HM.out.c2.cell]; rfl
    have d3 : W.cell? ⟨b3, 0, none⟩ = some (.int .i64 0) := by rw [HM.out.c3.cell]; rfl
    have f2 := HM.out.c2.free 0
    have f3 := HM.out.c3.free 0
    have i2 := set_id HM.out.c2 (i := 0) rfl
    have i3 := set_id HM.out.c3 (i := 0) rfl
    clear hM hsh hK2 hS hyl F3 HSQ
    go_wp2
    refine ⟨by simp, .inl ⟨_, _, rfl, run_takeDeferred HDK.out, ?_⟩⟩
    have HE := HM.out.kept (grownBy_putObj' W Dk (.deferred none)) (fun r e => by
      obtain rfl : Dk = r := by cases e; rfl
      exact ⟨by omega, _, HDK.out, rfl⟩)
    have e2 : (W.putObj Dk (.deferred none)).cell? ⟨b2, 0, none⟩ = some (.int .i64 (Z : Int)) := by rw [HE.c2.cell]; rfl
    have e3 : (W.putObj Dk (.deferred none)).cell? ⟨b3, 0, none⟩ = some (.int .i64 0) := by rw [HE.c3.cell]; rfl
    refine ⟨.tuple #[.int .i64 (Z : Int), .int .i64 0], by simp [results, Tryz.f34, go_sem, e2, e3], HE.ch, .inl ⟨HSH.out, rfl, M, HE.pj, fun k hk => (HE.mo k hk).imp id (fun h => Nat.le_trans hwB h)⟩⟩

end Go.Proofs.YtninkkdbcgadpaaGreatDoor

/-
  What a loss of power leaves of a journal's files, without any program.
-/
namespace Go.Proofs.YtninkkdbcgadpaaGreatDoor
open Go.RowKit Go.Shelf
set_option linter.unusedVariables false
set_option linter.unusedSimpArgs false
set_option maxRecDepth 100000

/-- Just one file. -/
structure Solo (f : ByteArray → Option (List Int)) (g : Nat) (xs : List Int) : Prop where
  at' : f (jN g) = some xs
  no : ∀ m, m ≠ jN g → f m = none
theorem Solo.gens {f : ByteArray → Option (List Int)} {g : Nat} {xs : List Int} (h : Solo f g xs) (h1 : 1 ≤ g) (h2 : g ≤ 2147483647) : Gens f [g] :=
  Gens.mk1 h1 h2 h.at' (fun k _ _ hk => h.no _ (jN_ne hk))
theorem Solo.ext {f f' : ByteArray → Option (List Int)} {g : Nat} {xs : List Int} (h : Solo f g xs) (h' : Solo f' g xs) : f = f' := by
  funext m
  by_cases e : m = jN g
  · rw [e, h.at', h'.at']
  · rw [h.no m e, h'.no m e]
/-- What a loss of power leaves: the least generation's file has the beginning of frames; at most one file besides. -/
structure Crs (f : ByteArray → Option (List Int)) (g : Nat) (t : List Nat) (ps : List (List Int)) (c : Nat) : Prop where
  gens : Gens f (g :: t)
  at' : f (jN g) = some ((fmA ps).take c)
  le : c ≤ (fmA ps).length
  no : ∀ m, (∀ q ∈ g :: t, m ≠ jN q) → f m = none
  few : t.length ≤ 1
  ok : ∀ p ∈ ps, isB p ∧ p.length ≤ 65535
theorem Crs.files {f : ByteArray → Option (List Int)} {g : Nat} {t : List Nat} {ps : List (List Int)} {c : Nat} (h : Crs f g t ps c) : ∀ l, FL f l → l.length ≤ 1000000 := fun l hl => by
  have h1 := sub_len (l.map (·.1)) ((g :: t).map jN) (by
    rw [List.Nodup, List.pairwise_map]
    exact hl.srt.imp (fun {a b} hab => blt_ne hab)) (fun n hn => by
    obtain ⟨x, hx, rfl⟩ := List.mem_map.1 hn
    have hs := (hl.mem x.1 x.2).2 hx
    apply Classical.byContradiction
    intro hne
    rw [h.no x.1 (fun q hq e => hne (List.mem_map.2 ⟨q, hq, e.symm⟩))] at hs
    cases hs)
  have h2 := h.few
  simp at h1
  omega
theorem fxL_snd (ps : List (List Int)) (K : Nat) (hK : K ≤ ps.length) : (fxL ps K).map (·.2) = ps.take K := by
  apply List.ext_getElem?
  intro i
  simp only [fxL, List.map_map, List.getElem?_map, List.getElem?_take]
  by_cases hi : i < K
  · rw [List.getElem?_eq_getElem (by simpa using hi), if_pos hi]
    have : i < ps.length := by omega
    simp [List.getD, this]
  · rw [List.getElem?_eq_none (by simpa using hi), if_neg hi]
    rfl
theorem fmA_cut (ps : List (List Int)) (K c : Nat) (hK : qL ps K ≤ c) : ((fmA ps).take c).take (qL ps K) = fmA (ps.take K) := by
  rw [List.take_take, Nat.min_eq_left hK]
  have e : fmA ps = fmA (ps.take K) ++ fmA (ps.drop K) := by rw [← fmA_app, List.take_append_drop]
  unfold qL
  rw [e, List.take_left]
/-- What Open finds then. -/
theorem Crs.open {R : List Rw} {g : Nat} {t : List Nat} {ps : List (List Int)} {c : Nat} (h : Crs (play R) g t ps c) :
    ∃ K L P E, Frs ((fmA ps).take c) L P E ∧ Shrt L ∧ L.map (·.2) = ps.take K ∧ K ≤ ps.length ∧ qL ps K ≤ c ∧ (K = ps.length ∨ c < qL ps (K + 1)) ∧ P L.length = qL ps K ∧ Solo (play (opS R g t (P L.length))) g (fmA (ps.take K)) := by
  obtain ⟨K, E, h1, h2, h3, h4, _⟩ := frs_cut ps c h.le (fun j hj => by
    have := (h.ok (ps.getD j []) (by
      simp only [List.getD, List.getElem?_eq_getElem hj, Option.getD_some]
      exact List.getElem_mem hj)).2
    omega)
  have hl : (fxL ps K).length = K := fxL_length ps K
  have hn : qL ps K ≤ ((fmA ps).take c).length := by rw [List.length_take]; have := h.le; omega
  obtain ⟨_, _, _, p4, p5⟩ := open_pure h.gens h.at' hn
  refine ⟨K, fxL ps K, qL ps, E, h4, fun y hy => ?_, fxL_snd ps K h1, h1, h2, h3, by rw [hl], ?_, ?_⟩
  · have h6 : y.2 ∈ (fxL ps K).map (·.2) := List.mem_map.2 ⟨y, hy, rfl⟩
    rw [fxL_snd ps K h1] at h6
    exact (h.ok y.2 (List.mem_of_mem_take h6)).2
  · rw [hl, p4, fmA_cut ps K c h2]
  · intro m hm
    rw [hl]
    by_cases hq : ∀ q ∈ g :: t, m ≠ jN q
    · rw [p5 m hq, h.no m hq]
    · -- a file of a greater generation: removed
      have hG := (open_pure h.gens h.at' hn).2.2.1
      apply Classical.byContradiction
      intro hne
      obtain ⟨y, hy⟩ := Option.ne_none_iff_exists'.1 hne
      apply hq
      intro q hq' e
      have hgq := (h.gens.mem q).1 hq'
      have := (hG.mem q).2 ⟨hgq.1, hgq.2.1, by rw [← e, hy]; rfl⟩
      have : q = g := by simpa using this
      exact hm (by rw [e, this])
/-- A whole journal is one that a loss of power has left. -/
theorem Solo.crs {f : ByteArray → Option (List Int)} {g : Nat} {ps : List (List Int)} (h : Solo f g (fmA ps)) (h1 : 1 ≤ g) (h2 : g ≤ 2147483647) (hok : ∀ p ∈ ps, isB p ∧ p.length ≤ 65535) : Crs f g [] ps (fmA ps).length :=
  ⟨h.gens h1 h2, by rw [List.take_length]; exact h.at', Nat.le_refl _, fun m hm => h.no m (hm g (by simp)), by simp, hok⟩
theorem qL_mono2 (ps : List (List Int)) {a b : Nat} (h : a ≤ b) (hb : b ≤ ps.length) : qL ps a ≤ qL ps b := qL_mono ps a b h hb
/-- Where all is whole, all is found. -/
theorem full_K {ps : List (List Int)} {K : Nat} (hK : K ≤ ps.length) (h : K = ps.length ∨ (fmA ps).length < qL ps (K + 1)) : K = ps.length := by
  rcases h with h | h
  · exact h
  · apply Classical.byContradiction
    intro hne
    have h1 := qL_mono2 ps (a := K + 1) (b := ps.length) (by omega) (Nat.le_refl _)
    rw [← fmA_all] at h1
    omega
/-- Open of a whole journal writes nothing. -/
theorem opS_same {R : List Rw} {g : Nat} {xs : List Int} (h : Solo (play R) g xs) : opS R g [] xs.length = R := by
  have l0 : fl (play R) (jN g) = xs := by simp [fl, h.at']
  unfold opS cuS
  rw [if_neg]
  · rfl
  · rintro ⟨_, h2⟩
    have e : rmAll R [] = R := rfl
    rw [e, l0] at h2
    omega
theorem Solo.new : Solo (play (crS [] (jN 1))) 1 (fmA []) := by
  have hc : crE [] (jN 1) = 0 := crE_none (jN_nm (by omega)) rfl
  have hp := play_cr hc
  refine ⟨by rw [hp, upd_same]; rfl, fun m hm => by rw [hp, upd_ne _ _ hm]; rfl⟩
theorem Solo.fE {rs : List Rw} {g : Nat} {xs : List Int} (h : Solo (play rs) g xs) (h2 : g ≤ 2147483647) : fE rs (jN g) = 0 := fE_some (jN_nm h2) h.at'
theorem Solo.add {s : Nat} (hs : 1 ≤ s) {rs : List Rw} {g : Nat} {ls : List (List Int)} {xs : List Int} (h : Solo (play rs) g (fmA ls)) (h2 : g ≤ 2147483647) (hx : isB xs) : Solo (play (apS s rs (jN g) (fmB xs))) g (fmA (ls ++ [xs])) := by
  have hp := play_ap hs (fmB_isB xs hx) (h.fE h2)
  have l0 : fl (play rs) (jN g) = fmA ls := by simp [fl, h.at']
  have e : fmA (ls ++ [xs]) = fmA ls ++ fmB xs := by simp [fmA]
  rw [l0] at hp
  exact ⟨by rw [hp, upd_same, e], fun m hm => by rw [hp, upd_ne _ _ hm, h.no m hm]⟩
theorem Solo.clear {s : Nat} (hs : 1 ≤ s) {rs : List Rw} {g : Nat} {xs b : List Int} (h : Solo (play rs) g xs) (h1 : 1 ≤ g) (h2 : g < 2147483647) (hb : isB b) : Solo (play (clS s rs g b)) (g + 1) b := by
  obtain ⟨_, _, _, _, _, p6, _⟩ := clear_pure hs hb (h.gens h1 (by omega)) h2
  have hne : jN (g + 1) ≠ jN g := jN_ne (by omega)
  refine ⟨by rw [p6, upd_ne _ _ hne, upd_same], fun m hm => ?_⟩
  rw [p6]
  by_cases e : m = jN g
  · rw [e, upd_same]
  · rw [upd_ne _ _ e, upd_ne _ _ hm, h.no m e]
/-- Any beginning of an Append's raw writes. -/
theorem ap_cut {s : Nat} (hs : 1 ≤ s) {rs : List Rw} {n : ByteArray} {b : List Int} (hb : isB b) (h : fE rs n = 0) {k : Nat} (h1 : rs.length ≤ k) (h2 : k ≤ (apS s rs n b).length) :
    ∃ c, c ≤ b.length ∧ play ((apS s rs n b).take k) = upd (play rs) n (some (fl (play rs) n ++ b.take c)) ∧ (k = (apS s rs n b).length → c = b.length) := by
  by_cases hb0 : b = []
  · subst hb0
    have e : apS s rs n [] = rs := by simp [apS]
    rw [e] at h2 ⊢
    have hp := play_ap hs (b := []) hb h
    rw [e] at hp
    refine ⟨0, Nat.le_refl _, ?_, fun _ => rfl⟩
    rw [List.take_of_length_le (by omega)]
    simpa using hp
  · have hn : nmB n = true := by
      unfold fE at h
      split at h
      · assumption
      · cases h
    obtain ⟨xs, hxs⟩ : ∃ xs, play rs n = some xs := by
      unfold fE at h
      rw [if_pos hn] at h
      split at h
      · rename_i hh
        exact Option.isSome_iff_exists.1 hh
      · cases h
    obtain ⟨e, he⟩ : ∃ e : En, e = ⟨rAp n b, rs.length, (fl (play rs) n).length⟩ := ⟨_, rfl⟩
    have ea : apS s rs n b = rs ++ expd s e := by
      rw [he]
      simp only [apS, h]
      rw [if_pos ⟨trivial, hb0⟩]
    have hleg : Leg (play rs) e.r := by rw [he]; exact .inr (.inl ⟨n, b, xs, rfl, hn, hxs, hb0, hb⟩)
    rw [ea] at h2 ⊢
    rw [List.length_append, expd_length] at h2
    have hfl : fl (play rs) n = xs := by simp [fl, hxs]
    by_cases hk : k = rs.length
    · refine ⟨0, Nat.zero_le _, ?_, fun e2 => ?_⟩
      · rw [hk, List.take_left, List.take_zero, List.append_nil, hfl, ← hxs]
        exact (upd_self _ _).symm
      · have := cnt_ge hs hleg
        rw [List.length_append, expd_length] at e2
        omega
    · obtain ⟨m, hm⟩ : ∃ m, k = rs.length + m := ⟨k - rs.length, by omega⟩
      have hm1 : 1 ≤ m := by omega
      obtain ⟨q1, q2⟩ := expd_cut hs hleg hm1 e.first
      have et : (rs ++ expd s e).take k = rs ++ (expd s e).take m := by
        rw [hm, List.take_append]
        simp
        rw [List.take_of_length_le (by omega)]
      have hhad : e.had = (fl (play rs) (pieces s e 0 m).n).length := by rw [he]; rfl
      have hd := (expd_does hs (f := play rs) (e := ⟨pieces s e 0 m, e.first, e.had⟩) q2 hhad).1
      rw [q1] at hd
      have hpb : (pieces s e 0 m).b = b.take (edge s e m) := by
        show (e.r.b.drop (edge s e 0)).take (edge s e m - edge s e 0) = _
        have : edge s e 0 = 0 := edge_zero _ _ _
        rw [this, he]
        rfl
      have hdo : doR (play rs) (pieces s e 0 m) = upd (play rs) n (some (fl (play rs) n ++ b.take (edge s e m))) := by
        rw [← hpb, he]
        rfl
      refine ⟨edge s e m, ?_, ?_, fun e2 => ?_⟩
      · show edgeN s e.had e.r.b.length m ≤ b.length
        unfold edgeN
        have : e.r.b = b := by rw [he]; rfl
        rw [this]
        omega
      · rw [et, play_app, hd, hdo]
      · rw [List.length_append, expd_length] at e2
        have hc : cnt s e = m := by omega
        have : edge s e m = e.r.b.length := edge_cnt hs (by rw [← hc]; rw [he]; exact Nat.le_refl _)
        rw [this, he]
        rfl

end Go.Proofs.YtninkkdbcgadpaaGreatDoor

/-
  The walks of refusal, replace and Clear.
-/
namespace Go.Proofs.YtninkkdbcgadpaaGreatDoor
open Go.RowKit Go.Shelf
set_option linter.unusedVariables false
set_option linter.unusedSimpArgs false
set_option maxRecDepth 100000

set_option maxHeartbeats 1000000 in
theorem refusal_ok (d j s : Nat) (rs : List Rw) (D : Dm) (g : Nat) (ls : List (List Int)) (M : Jm) (w : World) (h : PJ w d j s rs D g ls M) (n n' : ByteArray) (h1 : fE rs n' = 121) (h2 : fE rs n = 0) :
    Calls Tryz.prog 78 #[.pointer (some ⟨j, 0, none⟩), .string n, .string n'] w fun e w' => e = .returned (.int .i64 0) ∧ w' = w := by
  have c0 := h.jn.c0
  have S1 := hide (size_any d s rs D w h.dk n')
  have S2 := hide (size_any d s rs D w h.dk n)
  rw [h1] at S1
  rw [h2] at S2
  simp only [if_true] at S2
  have e1 : (if (121 : Int) = 0 then ((fl (play rs) n').length : Int) else 0) = 0 := if_neg (by decide)
  rw [e1] at S1
  obtain ⟨q, HQ⟩ : ∃ q, Hid (((fl (play rs) n).length : Int) = q) := ⟨_, hide rfl⟩
  rw [HQ.out] at S2
  clear h h1 h2 e1 HQ
  go_enter Tryz.func78, Tryz.ntmps78
  go_wp2_with fail
  refine S1.out.mono ?_
  rintro e w ⟨rfl, rfl⟩
  go_wp2_with fail
  refine S2.out.mono ?_
  rintro e w ⟨rfl, rfl⟩
  go_wp2
  go_ret
  exact ⟨rfl, rfl⟩
/-- What replace leaves: the journal's memory is as it was, the disk has what Clear writes. -/
structure RpR (w w' : World) (d j s : Nat) (D : Dm) (M : Jm) (rs' : List Rw) (g : Nat) (ls : List (List Int)) (D' : Dm) : Prop where
  pj : PJ w' d j s rs' D' g ls M
  ch : Chs (D.own d) w w'
  ow : ∀ k, D'.own d k → D.own d k ∨ w.heap.size ≤ k
  ro : ∀ k, D'.ro k → D.ro k ∨ w.heap.size ≤ k
theorem RpR.step {w w1 w2 : World} {d j s : Nat} {D D1 : Dm} {M : Jm} {rs1 rs2 : List Rw} {g : Nat} {ls : List (List Int)} (h : RpR w w1 d j s D M rs1 g ls D1) (ho : OpR w1 w2 d s D1 rs2) : ∃ D2, RpR w w2 d j s D M rs2 g ls D2 := by
  obtain ⟨D2, h1, h2, h3, h4⟩ := ho
  have hs := h.ch.size
  obtain ⟨D3, h5, h6, h7⟩ := h.pj.op ⟨D2, h1, h2, h3, h4⟩
  refine ⟨D2, ⟨⟨h1, h.pj.jn.same (fun k hk => h2.block k (h.pj.jn.lt hk) (hk.elim h.pj.jown (h.pj.ap k))), fun k hk hd => ?_⟩, h.ch.after h2 h.ow, fun k hk => ?_, fun k hk => ?_⟩⟩
  · rcases h3 k hd with h8 | h8
    · exact h.pj.ap k hk h8
    · have := h.pj.jn.lt (.inr hk); omega
  · rcases h3 k hk with h8 | h8
    · exact h.ow k h8
    · exact .inr (by omega)
  · rcases h4 k hk with h8 | h8
    · exact h.ro k h8
    · exact .inr (by omega)
theorem RpR.refl {w : World} {d j s : Nat} {D : Dm} {M : Jm} {rs : List Rw} {g : Nat} {ls : List (List Int)} (h : PJ w d j s rs D g ls M) : RpR w w d j s D M rs g ls D := ⟨h, Chs.refl _ _, fun k hk => .inl hk, fun k hk => .inl hk⟩
theorem RpR.on {w w1 w2 : World} {d j s : Nat} {D D1 : Dm} {M : Jm} {rs : List Rw} {g : Nat} {ls : List (List Int)} (h : RpR w w1 d j s D M rs g ls D1) (hb : Below w1.heap.size w1 w2) : RpR w w2 d j s D M rs g ls D1 := ⟨h.pj.below hb, h.ch.thenBelow hb, h.ow, h.ro⟩
set_option maxHeartbeats 2000000 in
theorem replace_ok (d j s : Nat) (rs : List Rw) (D : Dm) (g : Nat) (ls : List (List Int)) (M : Jm) (w : World) (h : PJ w d j s rs D g ls M) (ht : TT w) (hG : Gens (play rs) [g]) (hg : g < 2147483647) (a : Option Addr) (n c : Nat) (b : List Int) (hx : Sl w a n c b) (hoff : 0 < n → ∀ x, a = some x → ¬ D.own d x.block) (hwt : wt rs + 2 * n + 4 ≤ 1099511000000) :
    Calls Tryz.prog 49 #[.pointer (some ⟨j, 0, none⟩), .slice a n c] w fun e w' => e = .returned (.int .i64 0) ∧ ∃ D', RpR w w' d j s D M (clS s rs g b) g ls D' := by
  obtain ⟨p1, p2, p3, p4, p5, p6, p7⟩ := clear_pure h.dk.s1 hx.hbyte hG hg
  have HP := hide (And.intro p1 (And.intro p2 (And.intro p3 (And.intro p4 p5))))
  have HX := hide hx
  have HT := hide ht
  have HH := hide h
  have HW := hide hwt
  have HOFF := hide hoff
  obtain ⟨g1, HG1⟩ : ∃ g1, Hid (g + 1 = g1) := ⟨_, hide rfl⟩
  have hg1 : g1 ≤ 2147483647 := by have := HG1.out; omega
  have hgw : wrap64 ((g : Int) + 1) = (g1 : Int) := by have := HG1.out; unfold wrap64; omega
  have hgi : IntKind.i64.wrap ((g : Int) + 1) = (g1 : Int) := by have := HG1.out; rw [IntKind.wrap_i64]; omega
  obtain ⟨A, HA⟩ : ∃ A, Hid (jN g = A) := ⟨_, hide rfl⟩
  obtain ⟨A', HA'⟩ : ∃ A', Hid (jN (g + 1) = A') := ⟨_, hide rfl⟩
  have HC : Hid (clS s rs g b = rmS (apS s (crS rs A') A' b) A) := hide (by unfold clS; rw [HA.out, HA'.out])
  rw [HC.out]
  rw [HA.out, HA'.out] at HP
  clear h ht hx hwt hoff hG p1 p2 p3 p4 p5 p6 p7 HC
  go_enter Tryz.func49, Tryz.ntmps49
  go_wp2_with fail
  refine wp_region_noPanic ?_
  have HD := hide (HH.out.below (Below.refl w.heap.size w).drew)
  have TD := hide (HT.out.on (Below.refl w.heap.size w).drew)
  have BD := hide ((Below.refl w.heap.size w).drew)
  refine wp_region_held_drew (S := fun v : World => Blk v j 50 (jnC (some ⟨d, 0, none⟩) (g : Int) M.lv)) (by kernel_rfl) HD.out.jn.blk (fun hHeld => ?_)
  refine takeH 0 10 (.pointer (some ⟨j, 0, none⟩)) hHeld rfl rfl (by kernel_rfl) (by kernel_rfl) (by kernel_rfl) (fun _ _ _ h => h) (Or.inl ⟨by rfl, fun w _ => by go_simp⟩) ?_
  simp only [Act.put, List.setIfInBounds_toArray, List.set_cons_zero, List.set_cons_succ]
  refine takeH 1 11 (.pointer (some ⟨j, 0, none⟩)) hHeld rfl rfl (by kernel_rfl) (by kernel_rfl) (by kernel_rfl) (fun _ _ _ h => h) (Or.inl ⟨by rfl, fun w _ => by go_simp⟩) ?_
  simp only [Act.put, List.setIfInBounds_toArray, List.set_cons_zero, List.set_cons_succ]
  refine takeH 2 12 (.pointer (some ⟨j, 1, none⟩)) hHeld rfl rfl (by kernel_rfl) (by kernel_rfl) (by kernel_rfl) (fun _ _ _ h => h) (Or.inl ⟨by rfl, fun w _ => by go_simp⟩) ?_
  simp only [Act.put, List.setIfInBounds_toArray, List.set_cons_zero, List.set_cons_succ]
  refine takeH 3 13 (.int .i64 (g : Int)) hHeld rfl rfl (by kernel_rfl) (by kernel_rfl) (by kernel_rfl) (fun _ _ _ h => h) (Or.inl ⟨by rfl, fun w hw => by have hw' : w.cell? ⟨j, 1, none⟩ = some (.int .i64 (g : Int)) := (fun hw => by rw [Blk.cell hw]; rfl) hw; go_simp⟩) ?_
  simp only [Act.put, List.setIfInBounds_toArray, List.set_cons_zero, List.set_cons_succ]
  refine takeH 5 15 (.pointer (some ⟨j, 0, none⟩)) hHeld rfl rfl (by kernel_rfl) (by kernel_rfl) (by kernel_rfl) (fun _ _ _ h => h) (Or.inl ⟨by rfl, fun w _ => by go_simp⟩) ?_
  simp only [Act.put, List.setIfInBounds_toArray, List.set_cons_zero, List.set_cons_succ]
  refine takeH 6 16 (.pointer (some ⟨j, 0, none⟩)) hHeld rfl rfl (by kernel_rfl) (by kernel_rfl) (by kernel_rfl) (fun _ _ _ h => h) (Or.inl ⟨by rfl, fun w _ => by go_simp⟩) ?_
  simp only [Act.put, List.setIfInBounds_toArray, List.set_cons_zero, List.set_cons_succ]
  refine takeH 7 17 (.pointer (some ⟨j, 1, none⟩)) hHeld rfl rfl (by kernel_rfl) (by kernel_rfl) (by kernel_rfl) (fun _ _ _ h => h) (Or.inl ⟨by rfl, fun w _ => by go_simp⟩) ?_
  simp only [Act.put, List.setIfInBounds_toArray, List.set_cons_zero, List.set_cons_succ]
  refine takeH 8 18 (.int .i64 (g : Int)) hHeld rfl rfl (by kernel_rfl) (by kernel_rfl) (by kernel_rfl) (fun _ _ _ h => h) (Or.inl ⟨by rfl, fun w hw => by have hw' : w.cell? ⟨j, 1, none⟩ = some (.int .i64 (g : Int)) := (fun hw => by rw [Blk.cell hw]; rfl) hw; go_simp⟩) ?_
  simp only [Act.put, List.setIfInBounds_toArray, List.set_cons_zero, List.set_cons_succ]
  refine takeH 9 19 (.int .i64 (g1 : Int)) hHeld rfl rfl (by kernel_rfl) (by kernel_rfl) (by kernel_rfl) (fun _ _ _ h => h) (Or.inl ⟨by rfl, fun w _ => by go_simp⟩) ?_
  simp only [Act.put, List.setIfInBounds_toArray, List.set_cons_zero, List.set_cons_succ]
  refine wpAnyH_ready (rs := [4]) (by kernel_rfl) (by simp) (AllReadyH.cons rfl (fun K hK => ?_) AllReadyH.nil)
  rw [if_pos (by rfl)]
  go_simp
  refine (name_any g _ (by omega) TD.out.pt).mono ?_
  rw [HA.out]
  rintro e w2 ⟨rfl, hb2⟩
  have B2 := hide (on_below BD.out hb2)
  have H2 := hide (HD.out.below hb2)
  have T2 := hide (TD.out.on hb2)
  clear hb2 HD TD
  refine hK.out _ _ H2.out.jn.blk (fun hHeld => ?_)
  clear hK K
  try simp only [Act.put, List.setIfInBounds_toArray, List.set_cons_zero, List.set_cons_succ]
  refine wpAnyH_ready (rs := [10]) (by kernel_rfl) (by simp) (AllReadyH.cons rfl (fun K hK => ?_) AllReadyH.nil)
  rw [if_pos (by rfl)]
  go_simp
  refine (name_any g1 _ hg1 T2.out.pt).mono ?_
  rw [← HG1.out, HA'.out]
  rintro e w3 ⟨rfl, hb3⟩
  have B3 := hide (on_below B2.out hb3)
  have H3 := hide (H2.out.below hb3)
  clear hb3 H2 T2 B2
  refine hK.out _ _ H3.out.jn.blk (fun hHeld => ?_)
  clear hK K
  try simp only [Act.put, List.setIfInBounds_toArray, List.set_cons_zero, List.set_cons_succ]
  refine takeH 11 5 (.string A) hHeld rfl rfl (by kernel_rfl) (by kernel_rfl) (by kernel_rfl) (fun _ _ _ h => h) (Or.inl ⟨by rfl, fun w _ => by go_simp⟩) ?_
  simp only [Act.put, List.setIfInBounds_toArray, List.set_cons_zero, List.set_cons_succ]
  refine takeH 12 6 (.string A') hHeld rfl rfl (by kernel_rfl) (by kernel_rfl) (by kernel_rfl) (fun _ _ _ h => h) (Or.inl ⟨by rfl, fun w _ => by go_simp⟩) ?_
  simp only [Act.put, List.setIfInBounds_toArray, List.set_cons_zero, List.set_cons_succ]
  refine wpAnyH_done (by kernel_rfl) ?_ _
  refine NoPanic.normal ?_
  clear hHeld
  have R3 := hide ((RpR.refl HH.out).on B3.out)
  have X3 := hide (HX.out.below B3.out)
  go_wp2_with fail
  refine (refusal_ok d j s rs D g ls M _ H3.out A A' HP.out.2.1 HP.out.2.2.1).mono ?_
  rintro e w3 ⟨rfl, rfl⟩
  have c0 := H3.out.jn.c0
  go_wp2_with fail
  refine (create_any d s rs D _ R3.out.pj.dk A' (by have := HW.out; omega)).mono ?_
  rw [HP.out.1]
  rintro e w4 ⟨rfl, hop⟩
  obtain ⟨D4, r4⟩ := R3.out.step hop
  have R4 := hide r4
  have X4 : Hid (Sl w4 a n c b) := hide ((HX.out).chs r4.ch HOFF.out)
  clear hop r4 c0 H3 R3 X3
  have c0 := R4.out.pj.jn.c0
  have HN := hide HX.out.hlen
  go_wp2_with fail
  refine (append_any d s (crS rs A') D4 _ R4.out.pj.dk A' a n c b X4.out (by
    have h1 := HW.out
    have h2 : wt (crS rs A') ≤ wt rs + 1 := by
      unfold crS
      split
      · rw [wt_app]; simp [wt, rCr]
      · omega
    have h3 := HN.out
    omega)).mono ?_
  rw [HP.out.2.2.2.1]
  rintro e w5 ⟨rfl, hop⟩
  obtain ⟨D5, r5⟩ := R4.out.step hop
  have R5 := hide r5
  clear hop r5 c0 R4 X4
  have c0 := R5.out.pj.jn.c0
  go_wp2_with fail
  refine (remove_any d s (apS s (crS rs A') A' b) D5 _ R5.out.pj.dk A (by
    have h1 := HW.out
    have h2 : wt (crS rs A') ≤ wt rs + 1 := by
      unfold crS
      split
      · rw [wt_app]; simp [wt, rCr]
      · omega
    have h3 := HN.out
    have h4 : wt (apS s (crS rs A') A' b) ≤ wt (crS rs A') + 2 * b.length + 1 := by
      unfold apS
      split
      · rw [wt_app]
        have := expd_wt R5.out.pj.dk.s1 ⟨rAp A' b, (crS rs A').length, (fl (play (crS rs A')) A').length⟩
        have e : (rAp A' b).b = b := rfl
        simp only [e] at this
        omega
      · omega
    omega)).mono ?_
  rw [HP.out.2.2.2.2]
  rintro e w6 ⟨rfl, hop⟩
  obtain ⟨D6, r6⟩ := R5.out.step hop
  have R6 := hide r6
  clear hop r6 c0 R5
  go_wp2
  go_ret
  exact ⟨rfl, D6, R6.out⟩

end Go.Proofs.YtninkkdbcgadpaaGreatDoor

/-
  The walks of begin, remove and Open.
-/
namespace Go.Proofs.YtninkkdbcgadpaaGreatDoor
open Go.RowKit Go.Shelf
set_option linter.unusedVariables false
set_option linter.unusedSimpArgs false
set_option maxRecDepth 100000

section
variable {dst : Option Tmp} {ty : TypeId} {pos : String} {aft : Array Edge} {gd : Option (Nat × Bool)} {ops : Array Oper} {rest : List Oper} {a : Act} {w : World} {Q : Exit → Act → World → Prop}
theorem run_buildJn (p : Option Addr) (g : Int) (w : World) : (Instr.build 50 #[(0, .pointer p), (1, .int .i64 g)]).run Tryz.prog w = .ok (.agg (jnC p g (.slice none 0 0)).toArray) w := by kernel_rfl
theorem step_buildJn {x y : Operand} {p : Option Addr} {g : Int} (hw : Region.wanted ⟨dst, .build 50 #[(0, x), (1, y)], ty, pos, aft, gd⟩ (yielded ops a.tmps) = true) (hx : a.eval x = .pointer p) (hy : a.eval y = .int .i64 g)
    (h : wpList Tryz.prog ops Q rest (a.put dst (.agg (jnC p g (.slice none 0 0)).toArray)) w) : wpList Tryz.prog ops Q (⟨dst, .build 50 #[(0, x), (1, y)], ty, pos, aft, gd⟩ :: rest) a w :=
  step_run hw _ w (run_op (M := Instr.build 50 #[(0, .pointer p), (1, .int .i64 g)]) (by simp [execOp, hx, hy]) (run_buildJn p g w)) h
end
/-- What Open leaves: a journal in memory of its own, over the disk. -/
def OpnR (w w' : World) (d j s : Nat) (D : Dm) (rs' : List Rw) (g : Nat) (ls : List (List Int)) : Prop :=
  ∃ D' M, PJ w' d j s rs' D' g ls M ∧ Chs (D.own d) w w' ∧ w.heap.size ≤ j ∧ (∀ k, D'.own d k → D.own d k ∨ w.heap.size ≤ k) ∧ ∀ k, JF d j D' M k → (D.own d k ∨ D.ro k) ∨ w.heap.size ≤ k
theorem pj_new {w w1 : World} {d s g : Nat} {rs : List Rw} {D : Dm} {j : Nat} (h : DkAt w d s rs D) (hb : Below w.heap.size w w1) (hj : Blk w1 j 50 (jnC (some ⟨d, 0, none⟩) (g : Int) (.slice none 0 0))) : PJ w1 d j s rs D g [] jm0 :=
  ⟨h.below hb, ⟨hj, OwnV.nil _ _ _, Cts.nil _ _, (fun l hl => by cases hl)⟩, fun k ⟨v, hv, _⟩ => by cases hv⟩
theorem rp_open {w w1 w2 : World} {d j s : Nat} {D D' : Dm} {M : Jm} {rs' : List Rw} {g : Nat} {ls : List (List Int)} (hc : Chs (D.own d) w w1) (hjl : w.heap.size ≤ j) (hm : ∀ k, M.own j k ∨ M.ro k → w.heap.size ≤ k) (h : RpR w1 w2 d j s D M rs' g ls D') : OpnR w w2 d j s D rs' g ls := by
  have hs := hc.size
  refine ⟨D', M, h.pj, hc.after h.ch (fun k hk => .inl hk), hjl, fun k hk => (h.ow k hk).imp id (fun h => Nat.le_trans hs h), fun k hk => ?_⟩
  rcases hk with hk | hk | hk
  · rcases h.ow k hk with e | e
    · exact .inl (.inl e)
    · exact .inr (by omega)
  · rcases h.ro k hk with e | e
    · exact .inl (.inr e)
    · exact .inr (by omega)
  · exact .inr (hm k hk)
set_option maxHeartbeats 1000000 in
theorem begin_any (d s : Nat) (rs : List Rw) (D : Dm) (w : World) (h : DkAt w d s rs D) (ht : TT w) (hc : crE rs (jN 1) = 0) (hwt : wt rs + 1 ≤ 1099511000000) :
    Calls Tryz.prog 33 #[.pointer (some ⟨d, 0, none⟩)] w fun e w' => ∃ j, e = .returned (.tuple #[.pointer (some ⟨j, 0, none⟩), .int .i64 0]) ∧ OpnR w w' d j s D (crS rs (jN 1)) 1 [] := by
  have HH := hide h
  have HT := hide ht
  have HC := hide hc
  have HW := hide hwt
  have NM : Hid (∀ W, TT W → Calls Tryz.prog 37 #[.int .i64 1] W fun r w' => r = .returned (.string (jN 1)) ∧ Below W.heap.size W w') := hide (fun W hW => name_any 1 W (by omega) hW.pt)
  obtain ⟨A, HA⟩ : ∃ A, Hid (jN 1 = A) := ⟨_, hide rfl⟩
  rw [HA.out] at NM HC
  rw [HA.out]
  clear h ht hc hwt
  go_enter Tryz.func33, Tryz.ntmps33
  go_wp2_with (first | (refine step_buildJn rfl rfl rfl ?_) | (refine step_box (cs := jnC (some ⟨d, 0, none⟩) 1 (.slice none 0 0)) rfl rfl ?_))
  intro w1 j hj hle hb
  have P1 := hide (pj_new (g := 1) HH.out hb hj)
  have c1 : w1.cell? ⟨j, 1, none⟩ = some (.int .i64 1) := P1.out.jn.c1
  have T1 := hide (HT.out.on hb)
  have B1 := hide hb
  clear hj hb
  go_wp2_with fail
  refine (NM.out w1 T1.out).mono ?_
  rintro e w2 ⟨rfl, hb2⟩
  have R2 := hide ((RpR.refl P1.out).on hb2)
  clear c1 hb2 T1
  go_wp2_with fail
  refine (create_any d s rs D _ R2.out.pj.dk A (by have := HW.out; omega)).mono ?_
  rw [HC.out]
  rintro e w3 ⟨rfl, hop⟩
  obtain ⟨D3, r3⟩ := R2.out.step hop
  have R3 := hide r3
  clear hop r3 R2
  go_wp2
  go_ret2
  refine ⟨j, rfl, rp_open (Chs.of_below _ B1.out) hle (fun k hk => ?_) R3.out⟩
  rcases hk with (rfl | hk) | ⟨v, hv, _⟩
  · exact hle
  · cases hk
  · cases hv
set_option maxHeartbeats 2000000 in
theorem remove_all (d j s : Nat) (rs : List Rw) (D : Dm) (g : Nat) (ls : List (List Int)) (M : Jm) (w : World) (h : PJ w d j s rs D g ls M) (ht : TT w) (t : List Nat) (hn : t.Nodup) (hx : ∀ k ∈ t, k ≤ 2147483647 ∧ (play rs (jN k)).isSome = true) (b o c : Nat) (hcl : ∀ i, i < t.length → w.cell? ⟨b, o + i, none⟩ = some (.int .i64 (t.getD i 0 : Int))) (hb : ¬ D.own d b) (p : Option Addr) (hp : 0 < t.length → p = some ⟨b, o, none⟩) (hix : ∀ i, i < t.length → ∀ v : World, (Instr.indexAt 77 (.slice p t.length c) (.int .i64 (i : Int))).run Tryz.prog v = .ok (.pointer (some ⟨b, o + i, none⟩)) v) (hF : ∀ W, Chs (D.own d) w W → TT W) (hl : t.length ≤ 1000000) (hwt : wt rs + t.length + 1 ≤ 1099511000000) :
    Calls Tryz.prog 35 #[.pointer (some ⟨d, 0, none⟩), .slice p t.length c] w fun e w' => e = .returned (.int .i64 0) ∧ ∃ D', RpR w w' d j s D M (rmAll rs t) g ls D' := by
  have HH := hide h
  have HN := hide hn
  have HX := hide hx
  have HCL := hide hcl
  have HB := hide hb
  have HIX := hide hix
  have HF := hide hF
  have HW := hide hwt
  obtain ⟨n, HL⟩ : ∃ n, Hid (t.length = n) := ⟨_, hide rfl⟩
  rw [HL.out] at HCL HIX HW hl
  rw [HL.out]
  clear h ht hn hx hcl hb hp hix hF hwt
  go_enter Tryz.func35, Tryz.ntmps35
  go_wp2
  go_loopw [10] (fun p wr => ∃ i : Nat, i ≤ n ∧ p = .int .i64 (i : Int) ∧ ∃ D', Hid (RpR w wr d j s D M (rmAll rs (t.take i)) g ls D')) (fun p _ => n - (intOf p).toNat)
  case atStart => exact ⟨0, Nat.zero_le _, rfl, D, hide (by simpa [rmAll] using RpR.refl HH.out)⟩
  case round =>
    obtain ⟨i, hi, rfl, D', HR⟩ := hrel
    by_cases hlt : i < n
    · have hlti : (i : Int) < (n : Int) := by omega
      have hit : i < t.length := by rw [HL.out]; exact hlt
      obtain ⟨q, HQ⟩ : ∃ q, Hid (t.getD i 0 = q) := ⟨_, hide rfl⟩
      have hqt : t.take (i + 1) = t.take i ++ [q] := by
        rw [List.take_succ_eq_append_getElem hit, ← HQ.out]
        simp [List.getD, hit]
      have hqm : q ∈ t := by
        rw [← HQ.out]
        simp only [List.getD, List.getElem?_eq_getElem hit, Option.getD_some]
        exact List.getElem_mem hit
      have HQT := hide hqt
      have hq7 : q ≤ 2147483647 := (HX.out q hqm).1
      have hc : wr.cell? ⟨b, o + i, none⟩ = some (.int .i64 (q : Int)) := by
        have h1 := HCL.out i hlt
        rw [HQ.out] at h1
        rw [World.cell?_of_block (w := w) (HR.out.ch.block b (World.block_lt_of_cell? w _ h1) HB.out)]
        exact h1
      have hxi := HIX.out i hlt
      have HTT := hide (HF.out wr HR.out.ch)
      have HFE : Hid (fE (rmAll rs (t.take i)) (jN q) = 0) := hide (rmAll_fE rs (t.take i) q (by rw [← hqt]; exact HN.out.sublist (List.take_sublist _ _)) (fun k hk => HX.out k (by rw [← hqt] at hk; exact List.mem_of_mem_take hk)))
      have HWI : Hid (wt (rmAll rs (t.take i)) + 1 ≤ 1099511000000) := hide (by
        have h1 := rmAll_wt rs (t.take i)
        rw [List.length_take] at h1
        have h2 := HW.out
        omega)
      clear hqt hqm
      go_wp2_with fail
      refine (name_any q wr hq7 HTT.out.pt).mono ?_
      rintro e w2 ⟨rfl, hb2⟩
      have R2 := hide (HR.out.on hb2)
      clear hb2 hc hxi HTT HR
      go_wp2_with fail
      refine (remove_any d s (rmAll rs (t.take i)) D' _ R2.out.pj.dk (jN q) HWI.out).mono ?_
      rw [HFE.out]
      rintro e w3 ⟨rfl, hop⟩
      obtain ⟨D3, r3⟩ := R2.out.step hop
      rw [← rmAll_snoc, ← HQT.out] at r3
      have R3 := hide r3
      clear hop r3 R2
      go_wp2
      go_roundw
      case rel => exact ⟨i + 1, by omega, by go_num, D3, R3⟩
      case measure => simp only [intOf]; omega
    · have hlti : ¬ (i : Int) < (n : Int) := by omega
      have hin : i = n := by omega
      have hfin := HR.out
      rw [hin, List.take_of_length_le (by rw [HL.out]; exact Nat.le_refl _)] at hfin
      have HFIN := hide hfin
      clear hfin hin
      go_wp2
      go_ret
      exact ⟨rfl, D', HFIN.out⟩

end Go.Proofs.YtninkkdbcgadpaaGreatDoor

/-
  The walk of Open.
-/
namespace Go.Proofs.YtninkkdbcgadpaaGreatDoor
open Go.RowKit Go.Shelf
set_option linter.unusedVariables false
set_option linter.unusedSimpArgs false
set_option maxRecDepth 100000

theorem Tin.at2 {L T : TypeId} {z : Value} {by' : Nat} (t : Tin L T z by') (b o n cap i : Nat) (hi : i < n) (v : World) : (Instr.indexAt L (.slice (some ⟨b, o, none⟩) n cap) (.int .i64 (i : Int))).run Tryz.prog v = .ok (.pointer (some ⟨b, o + i, none⟩)) v := by
  have hu : Tryz.prog.underlying L = some (.slice (Tryz.prog.elem L)) := by rw [t.elem]; exact t.und
  rw [run_indexAt_slice v _ _ _ _ .i64 i hu, if_pos ⟨by omega, by omega⟩, t.elem, t.size]
  simp only [Result.andThen_ok, Int.toNat_natCast]
  rw [Addr.add_lit, Nat.mul_one]
/-- found[1:] -/
theorem slI_from (g n cap : Nat) (h1 : n + 1 ≤ cap) : ∃ p, (∀ v : World, (Instr.slice 77 (.slice (some ⟨g, 0, none⟩) (n + 1) cap) (some (.int .i64 1)) none none).run Tryz.prog v = .ok (.slice p n (cap - 1)) v) ∧ (0 < n → p = some ⟨g, 1, none⟩) := by
  have hu : Tryz.prog.underlying 77 = some (.slice (Tryz.prog.elem 77)) := by rw [tinI.elem]; exact tinI.und
  refine ⟨if cap = 1 then some ⟨g, 0, none⟩ else some ⟨g, 1, none⟩, fun v => ?_, fun hn => if_neg (by omega)⟩
  have := run_slice_l (P := Tryz.prog) v 77 (some ⟨g, 0, none⟩) (n + 1) cap hu .i64 1 (by omega) (by omega)
  rw [tinI.elem, tinI.size] at this
  rw [this]
  by_cases hc : cap = 1
  · subst hc
    have : n = 0 := by omega
    subst this
    simp [sliced]
  · simp [sliced, hc, Addr.add_lit]
section
variable (d s : Nat) (rs : List Rw) (D : Dm) (w : World) (h : DkAt w d s rs D) (ht : TT w)
include h ht
set_option maxHeartbeats 2000000 in
theorem jopen_new (hG : Gens (play rs) []) (hfw : ∀ l, FL (play rs) l → l.length ≤ 1000000) (hwt : wt rs + 1 ≤ 1099511000000) :
    Calls Tryz.prog 8 #[.pointer (some ⟨d, 0, none⟩)] w fun e w' => ∃ j, e = .returned (.tuple #[.pointer (some ⟨j, 0, none⟩), .int .i64 0]) ∧ OpnR w w' d j s D (crS rs (jN 1)) 1 [] := by
  have hs1 := h.s1
  have hne : ((s : Int) == 0) = false := by rw [beq_eq_false_iff_ne]; omega
  have hcr : crE rs (jN 1) = 0 := crE_none (jN_nm (by omega)) (by
    cases hf : play rs (jN 1) with
    | none => rfl
    | some y =>
      have := (hG.mem 1).2 ⟨by omega, by omega, by rw [hf]; rfl⟩
      cases this)
  have HS := hide (sector_any d s rs D w h)
  have HGA := hide (gens_any d s rs D w h (by omega) hfw)
  have HH := hide h
  have HT := hide ht
  have HG := hide hG
  have HC := hide hcr
  have HW := hide hwt
  clear h ht hG hcr hfw hwt
  go_enter Tryz.func8, Tryz.ntmps8
  go_wp2_with fail
  refine HS.out.mono ?_
  rintro e w ⟨rfl, rfl⟩
  go_wp2_with fail
  refine HGA.out.mono ?_
  rintro e w1 ⟨v, gl, rfl, hgl, hrow, hb1⟩
  obtain rfl : gl = [] := hgl.uniq HG.out
  obtain ⟨va, vc, rfl⟩ := hrow.slice
  have hz : (nI []).length = 0 := rfl
  rw [hz]
  have B1 := hide hb1
  clear hrow hgl hb1 HGA hz
  go_wp2_with fail
  refine (begin_any d s rs D w1 (HH.out.below B1.out) (HT.out.on B1.out) HC.out (by have := HW.out; omega)).mono ?_
  rintro e w2 ⟨j, rfl, D2, M2, p1, p2, p3, p5, p4⟩
  have HFIN : Hid (OpnR w w2 d j s D (crS rs (jN 1)) 1 []) := hide ⟨D2, M2, p1, (Chs.of_below _ B1.out).after p2 (fun k hk => .inl hk), Nat.le_trans B1.out.size p3, fun k hk => (p5 k hk).imp id (fun h => Nat.le_trans B1.out.size h), fun k hk => (p4 k hk).imp id (fun h => Nat.le_trans B1.out.size h)⟩
  clear p1 p2 p3 p4 p5
  go_wp2
  go_ret2
  exact ⟨j, rfl, HFIN.out⟩
set_option maxHeartbeats 4000000 in
theorem jopen_lost (g : Nat) (t : List Nat) (hG : Gens (play rs) (g :: t)) (hfw : ∀ l, FL (play rs) l → l.length ≤ 1000000) (xs : List Int) (L : List (Int × List Int)) (P : Nat → Nat) (E : Int) (hp : play rs (jN g) = some xs) (hib : isB xs) (hxl : xs.length ≤ 8000000) (hF : Frs xs L P E) (hS : ¬ Shrt L) (hwt : wt rs + t.length + 2 ≤ 1099511000000) :
    Calls Tryz.prog 8 #[.pointer (some ⟨d, 0, none⟩)] w fun e w' => e = .returned (.tuple #[.pointer none, .int .i64 130]) ∧ Below w.heap.size w w' := by
  have hs1 := h.s1
  have hne : ((s : Int) == 0) = false := by rw [beq_eq_false_iff_ne]; omega
  have hg := (hG.mem g).1 (by simp)
  have HS := hide (sector_any d s rs D w h)
  have HGA := hide (gens_any d s rs D w h (by omega) hfw)
  have HH := hide h
  have HT := hide ht
  have HG := hide hG
  have HP := hide hp
  have HF := hide hF
  have HW := hide hwt
  have HX := hide hxl
  have HIB := hide hib
  clear h ht hG hfw hwt hp hF hxl hib
  go_enter Tryz.func8, Tryz.ntmps8
  go_wp2_with fail
  refine HS.out.mono ?_
  rintro e w ⟨rfl, rfl⟩
  go_wp2_with fail
  refine HGA.out.mono ?_
  rintro e w1 ⟨v, gl, rfl, hgl, hrow, hb1⟩
  obtain rfl : gl = g :: t := hgl.uniq HG.out
  rcases hrow.lies with ⟨_, e0⟩ | ⟨gb, cap, cs, rfl, hgb, hblk, hcap, htk⟩
  · cases e0
  have hz : (nI (g :: t)).length = t.length + 1 := by simp [nI]
  rw [hz] at hcap htk
  rw [hz]
  have hcell : ∀ i, i < t.length + 1 → cs[i]? = some (.int .i64 ((g :: t).getD i 0 : Int)) := fun i hi => by
    have h1 := congrArg (fun l => l[i]?) htk
    simp only [List.getElem?_take, if_pos hi] at h1
    rw [h1]
    simp only [nI, List.getElem?_map, List.getD]
    rw [List.getElem?_eq_getElem (by simpa using hi)]
    rfl
  have HCE := hide hcell
  have BK := hide hblk
  have c0 : w1.cell? ⟨gb, 0, none⟩ = some (.int .i64 (g : Int)) := by rw [hblk.cell]; exact hcell 0 (by omega)
  obtain ⟨n, HN⟩ : ∃ n, Hid (t.length = n) := ⟨_, hide rfl⟩
  rw [HN.out] at hcap
  rw [HN.out]
  have hix := tinI.at2 gb 0 (n + 1) cap 0 (by omega)
  have hn1 : (((n + 1 : Nat) : Int) == 0) = false := by rw [beq_eq_false_iff_ne]; omega
  have hn2 : (((n : Int) + 1) == 0) = false := by rw [beq_eq_false_iff_ne]; omega
  have B1 := hide hb1
  clear hrow hgl hb1 HGA hz hblk hcell htk
  go_wp2_with (first | (refine step_buildJn rfl rfl rfl ?_) | (refine step_box (cs := jnC (some ⟨d, 0, none⟩) (g : Int) (.slice none 0 0)) rfl rfl ?_))
  intro w2 j hj hle hb2
  have P2 := hide (pj_new (g := g) HH.out (on_below B1.out hb2) hj)
  have T2 := hide (HT.out.on (on_below B1.out hb2))
  have B2 := hide (on_below B1.out hb2)
  have hjl : w.heap.size ≤ j := Nat.le_trans B1.out.size hle
  have BK2 := hide (BK.out.on hb2)
  clear hj hb2 c0 hix BK B1
  go_wp2_with fail
  refine (load_any d j s rs D g w2 P2.out T2.out hg.2.1 xs L P E HP.out HIB.out HX.out HF.out (by have := HW.out; omega)).mono ?_
  rintro e w3 ⟨hch, ⟨hs, _⟩ | ⟨_, rfl⟩⟩
  · exact absurd hs hS
  have B3 := hide (B2.out.trans (hch.below (B := w.heap.size) (fun k hk e => by omega) B2.out.size))
  clear hch
  go_wp2
  go_ret2
  exact ⟨rfl, B3.out⟩
set_option maxHeartbeats 4000000 in
theorem jopen_old (htf : ∀ W, Chs (D.own d) w W → TT W) (g : Nat) (t : List Nat) (hG : Gens (play rs) (g :: t)) (hfw : ∀ l, FL (play rs) l → l.length ≤ 1000000) (htl : t.length ≤ 1000000) (xs : List Int) (L : List (Int × List Int)) (P : Nat → Nat) (E : Int) (hp : play rs (jN g) = some xs) (hib : isB xs) (hxl : xs.length ≤ 8000000) (hF : Frs xs L P E) (hS : Shrt L) (hwt : wt rs + t.length + 2 ≤ 1099511000000) :
    Calls Tryz.prog 8 #[.pointer (some ⟨d, 0, none⟩)] w fun e w' => ∃ j, e = .returned (.tuple #[.pointer (some ⟨j, 0, none⟩), .int .i64 0]) ∧ OpnR w w' d j s D (opS rs g t (P L.length)) g (L.map (·.2)) := by
  have HPL := hide (hF.le hib L.length (Nat.le_refl _)).1
  have hs1 := h.s1
  have hne : ((s : Int) == 0) = false := by rw [beq_eq_false_iff_ne]; omega
  have hg := (hG.mem g).1 (by simp)
  have HS := hide (sector_any d s rs D w h)
  have HGA := hide (gens_any d s rs D w h (by omega) hfw)
  have HH := hide h
  have HT := hide ht
  have HG := hide hG
  have HP := hide hp
  have HF := hide hF
  have HW := hide hwt
  have HX := hide hxl
  have HIB := hide hib
  clear h ht hG hfw hwt hp hF hxl hib
  go_enter Tryz.func8, Tryz.ntmps8
  go_wp2_with fail
  refine HS.out.mono ?_
  rintro e w ⟨rfl, rfl⟩
  go_wp2_with fail
  refine HGA.out.mono ?_
  rintro e w1 ⟨v, gl, rfl, hgl, hrow, hb1⟩
  obtain rfl : gl = g :: t := hgl.uniq HG.out
  rcases hrow.lies with ⟨_, e0⟩ | ⟨gb, cap, cs, rfl, hgb, hblk, hcap, htk⟩
  · cases e0
  have hz : (nI (g :: t)).length = t.length + 1 := by simp [nI]
  rw [hz] at hcap htk
  rw [hz]
  have hcell : ∀ i, i < t.length + 1 → cs[i]? = some (.int .i64 ((g :: t).getD i 0 : Int)) := fun i hi => by
    have h1 := congrArg (fun l => l[i]?) htk
    simp only [List.getElem?_take, if_pos hi] at h1
    rw [h1]
    simp only [nI, List.getElem?_map, List.getD]
    rw [List.getElem?_eq_getElem (by simpa using hi)]
    rfl
  have HCE := hide hcell
  have BK := hide hblk
  have c0 : w1.cell? ⟨gb, 0, none⟩ = some (.int .i64 (g : Int)) := by rw [hblk.cell]; exact hcell 0 (by omega)
  obtain ⟨n, HN⟩ : ∃ n, Hid (t.length = n) := ⟨_, hide rfl⟩
  rw [HN.out] at hcap
  rw [HN.out]
  have hix := tinI.at2 gb 0 (n + 1) cap 0 (by omega)
  have hn1 : (((n + 1 : Nat) : Int) == 0) = false := by rw [beq_eq_false_iff_ne]; omega
  have hn2 : (((n : Int) + 1) == 0) = false := by rw [beq_eq_false_iff_ne]; omega
  have B1 := hide hb1
  clear hrow hgl hb1 HGA hz hblk hcell htk
  go_wp2_with (first | (refine step_buildJn rfl rfl rfl ?_) | (refine step_box (cs := jnC (some ⟨d, 0, none⟩) (g : Int) (.slice none 0 0)) rfl rfl ?_))
  intro w2 j hj hle hb2
  have P2 := hide (pj_new (g := g) HH.out (on_below B1.out hb2) hj)
  have T2 := hide (HT.out.on (on_below B1.out hb2))
  have B2 := hide (on_below B1.out hb2)
  have hjl : w.heap.size ≤ j := Nat.le_trans B1.out.size hle
  have BK2 := hide (BK.out.on hb2)
  clear hj hb2 c0 hix BK B1
  go_wp2_with fail
  refine (load_any d j s rs D g w2 P2.out T2.out hg.2.1 xs L P E HP.out HIB.out HX.out HF.out (by have := HW.out; omega)).mono ?_
  rintro e w3 ⟨hch, hcase⟩
  obtain ⟨rfl, M, hpj, hmo⟩ : e = .returned (.tuple #[.int .i64 (P L.length : Int), .int .i64 0]) ∧ ∃ M', PJ w3 d j s rs D g (L.map (·.2)) M' ∧ ∀ k, M'.own j k ∨ M'.ro k → k = j ∨ w2.heap.size ≤ k := by
    rcases hcase with ⟨_, h2, h3⟩ | ⟨hs, _⟩
    · exact ⟨h2, h3⟩
    · exact absurd hS hs
  have P3 := hide hpj
  have T3 := hide (T2.out.chj P2.out.jn.blk hch)
  have C3 : Hid (Chs (D.own d) w w3) := hide ((Chs.of_below _ B2.out).after hch (fun k hk => .inr (by rw [hk]; exact hjl)))
  have MO : Hid (∀ k, M.own j k ∨ M.ro k → w.heap.size ≤ k) := hide (fun k hk => by
    rcases hmo k hk with e | e
    · rw [e]; exact hjl
    · exact Nat.le_trans B2.out.size e)
  have BK3 : Hid (Blk w3 gb 3 cs) := hide (BK2.out.chs hch (fun e => by
    subst e
    exact P2.out.jn.blk.apart BK2.out (by decide) rfl))
  obtain ⟨p, hsl, hp0⟩ := slI_from gb n cap hcap
  have HND : Hid (t.Nodup ∧ ∀ k ∈ t, k ≤ 2147483647 ∧ (play rs (jN k)).isSome = true) := hide ⟨(List.nodup_cons.1 (HG.out.srt.imp (fun {x y} hxy => Nat.ne_of_lt hxy))).2, fun k hk => by
    have := (HG.out.mem k).1 (by simp [hk])
    exact ⟨this.2.1, this.2.2⟩⟩
  have HDB : Hid (¬ D.own d gb) := hide (fun hd => by have := HH.out.lt (.inl hd); omega)
  have RM : Hid (Calls Tryz.prog 35 #[.pointer (some ⟨d, 0, none⟩), .slice p n (cap - 1)] w3 fun e w' => e = .returned (.int .i64 0) ∧ ∃ D', RpR w3 w' d j s D M (rmAll rs t) g (L.map (·.2)) D') := hide (by
    have := remove_all d j s rs D g (L.map (·.2)) M w3 P3.out T3.out t HND.out.1 HND.out.2 gb 1 (cap - 1) (fun i hi => by
      rw [BK3.out.cell, HCE.out (1 + i) (by omega), Nat.add_comm 1 i]
      rfl) HDB.out p (fun h0 => hp0 (by rw [← HN.out]; exact h0)) (fun i hi v => by
      rw [hp0 (by rw [← HN.out]; omega)]
      exact tinI.at2 gb 1 t.length (cap - 1) i hi v) (fun W hW => htf W (C3.out.after hW (fun k hk => .inl hk))) htl (by have := HW.out; omega)
    rw [HN.out] at this
    exact this)
  obtain ⟨Z, HZ⟩ : ∃ Z, Hid (P L.length = Z) := ⟨_, hide rfl⟩
  rw [HZ.out] at HPL
  rw [HZ.out]
  have OP := hide (open_pure HG.out HP.out HPL.out)
  have HTF := hide htf
  clear hpj hmo hch hcase P2 T2 B2 BK2 hp0 htf
  go_wp2_with fail
  refine RM.out.mono ?_
  rintro e w4 ⟨rfl, D4, r4⟩
  have R4 := hide r4
  have T4 := hide (HTF.out w4 (C3.out.after r4.ch (fun k hk => .inl hk)))
  have c1 := r4.pj.jn.c1
  clear r4 RM T3 P3 BK3
  go_wp2_with fail
  refine (name_any g w4 hg.2.1 T4.out.pt).mono ?_
  rintro e w5 ⟨rfl, hb5⟩
  have R5 := hide (R4.out.on hb5)
  clear hb5 R4 T4 c1
  go_wp2_with fail
  refine (cut_any d s (rmAll rs t) D4 w5 R5.out.pj.dk (jN g) (Z : Int) (by
    have h1 := rmAll_wt rs t
    have h2 := HW.out
    omega)).mono ?_
  rw [OP.out.1]
  rintro e w6 ⟨rfl, hop⟩
  obtain ⟨D6, r6⟩ := R5.out.step hop
  have HFIN : Hid (OpnR w w6 d j s D (opS rs g t Z) g (L.map (·.2))) := hide (rp_open C3.out hjl MO.out r6)
  clear hop r6 R5
  go_wp2
  go_ret2
  refine ⟨j, rfl, ?_⟩
  rw [HZ.out]
  exact HFIN.out
end

end Go.Proofs.YtninkkdbcgadpaaGreatDoor

/-
  The walk of Clear.
-/
namespace Go.Proofs.YtninkkdbcgadpaaGreatDoor
open Go.RowKit Go.Shelf
set_option linter.unusedVariables false
set_option linter.unusedSimpArgs false
set_option maxRecDepth 100000

section
variable {w : World} {j d g : Nat} {ls : List (List Int)} {M : Jm} (h : JnAt w j d g ls M)
include h
set_option maxHeartbeats 1000000 in
theorem jclear_bad (k : Int) (hk : k < 0 ∨ (ls.length : Int) < k) : Calls Tryz.prog 12 #[.pointer (some ⟨j, 0, none⟩), .int .i64 k] w fun e w' => e = .returned (.int .i64 2) ∧ w' = w := by
  have c0 := h.c0
  have c2 := h.c2
  obtain ⟨a, c, e⟩ := h.slice
  rw [e] at c2
  clear h e
  by_cases h1 : k < 0
  · clear hk
    go_enter Tryz.func12, Tryz.ntmps12
    go_wp2_with (go_at_call 47; refine (jmade_ok _ _ _ c0).mono ?_; rintro e w ⟨rfl, rfl⟩)
    go_ret
    exact ⟨rfl, rfl⟩
  · have h2 : (ls.length : Int) < k := by omega
    clear hk
    go_enter Tryz.func12, Tryz.ntmps12
    go_wp2_with (go_at_call 47; refine (jmade_ok _ _ _ c0).mono ?_; rintro e w ⟨rfl, rfl⟩)
    go_ret
    exact ⟨rfl, rfl⟩
set_option maxHeartbeats 1000000 in
theorem jclear_0 : Calls Tryz.prog 12 #[.pointer (some ⟨j, 0, none⟩), .int .i64 0] w fun e w' => e = .returned (.int .i64 0) ∧ w' = w := by
  have c0 := h.c0
  have c2 := h.c2
  obtain ⟨a, c, e⟩ := h.slice
  rw [e] at c2
  have hn : ¬ (ls.length : Int) < 0 := by omega
  clear h e
  go_enter Tryz.func12, Tryz.ntmps12
  go_wp2_with (go_at_call 47; refine (jmade_ok _ _ _ c0).mono ?_; rintro e w ⟨rfl, rfl⟩)
  go_ret
  exact ⟨rfl, rfl⟩
set_option maxHeartbeats 1000000 in
theorem jclear_top (k : Nat) (hk : 0 < k) (hl : k ≤ ls.length) (hg : g = 2147483647) : Calls Tryz.prog 12 #[.pointer (some ⟨j, 0, none⟩), .int .i64 (k : Int)] w fun e w' => e = .returned (.int .i64 3) ∧ w' = w := by
  have c0 := h.c0
  have c1 := h.c1
  have c2 := h.c2
  obtain ⟨a, c, e⟩ := h.slice
  rw [e] at c2
  rw [hg] at c1
  have h0 : ¬ (k : Int) < 0 := by omega
  have h1 : ¬ (ls.length : Int) < (k : Int) := by omega
  have h2 : ((k : Int) == 0) = false := by rw [beq_eq_false_iff_ne]; omega
  clear h e hg
  go_enter Tryz.func12, Tryz.ntmps12
  go_wp2_with (go_at_call 47; refine (jmade_ok _ _ _ c0).mono ?_; rintro e w ⟨rfl, rfl⟩)
  go_ret
  exact ⟨rfl, rfl⟩
end
/-- The stores at the end of Clear. -/
theorem clear_end {w w1 w2 w3 : World} {d j s : Nat} {rs rs' : List Rw} {D D' : Dm} {g : Nat} {ls ds : List (List Int)} {M : Jm} {lv fv : Value} {vs : List Value} (h : PJ w d j s rs D g ls M) (hf : FrO w w1 lv fv vs ds) (hds : ∀ l ∈ ds, l ∈ ls) (hr : RpR w1 w2 d j s D M rs' g ls D')
    (h3 : w3 = (w2.setCell ⟨j, 1, none⟩ (.int .i64 ((g + 1 : Nat) : Int))).setCell ⟨j, 2, none⟩ lv) : JR w w3 d j s D M rs' (g + 1) ds := by
  have b1 : But j w2 (w2.setCell ⟨j, 1, none⟩ (.int .i64 ((g + 1 : Nat) : Int))) := But.setCell _ _ _ _
  have b2 : But j (w2.setCell ⟨j, 1, none⟩ (.int .i64 ((g + 1 : Nat) : Int))) w3 := by rw [h3]; exact But.setCell _ _ _ _
  have hblk : Blk w3 j 50 (jnC (some ⟨d, 0, none⟩) ((g + 1 : Nat) : Int) lv) := by
    rw [h3]
    exact (hr.pj.jn.blk.set 1 _).set 2 _
  have s1 := hf.bel.size
  have s2 := hr.ch.size
  have k23 : ∀ k, k ≠ j → w3.heap[k]? = w2.heap[k]? := fun k hk => (b2.block k hk).trans (b1.block k hk)
  have hjlt := h.jn.blk.lt
  have lvr : ∀ k, lv.ownBlock = some k → w.heap.size ≤ k ∧ k < w1.heap.size := fun k hk => hf.row.lt k hk
  have vr : ∀ v ∈ vs, ∀ k, v.ownBlock = some k → w.heap.size ≤ k ∧ k < w1.heap.size := fun v hv k hk => by
    obtain ⟨l, _, ho⟩ := hf.cts.mem hv
    obtain ⟨cs, hc⟩ := ho.lies hk
    exact ⟨ho.lt k hk, hc.lt⟩
  have hD : ∀ k, D.own d k → k < w.heap.size := fun k hk => h.dk.lt (.inl hk)
  have keep : ∀ k, w.heap.size ≤ k → k < w1.heap.size → w3.heap[k]? = w1.heap[k]? := fun k h1 h2 => by
    rw [k23 k (by omega), hr.ch.block k h2 (fun e => by have := hD k e; omega)]
  refine ⟨D', ⟨lv, vs⟩, ⟨hr.pj.dk.same (fun k hk => k23 k (fun e => ?_)), ⟨hblk, ?_, ?_, ?_⟩, ?_⟩, ?_, ?_⟩
  · subst e
    rcases hk with hk | hk
    · exact hr.pj.jown (.inl rfl) hk
    · obtain ⟨cs, hc⟩ := hr.pj.dk.kindR hk
      exact hc.apart hr.pj.jn.blk (by decide) rfl
  · exact (hf.row.mono (Nat.zero_le _)).same (fun k hk => keep k (lvr k hk).1 (lvr k hk).2)
  · exact (show Cts w1 0 vs ds from ⟨hf.cts.1, fun i hi => (hf.cts.2 i hi).mono (Nat.zero_le _)⟩).same (fun v hv k hk => keep k (vr v hv k hk).1 (vr v hv k hk).2)
  · exact fun l hl => h.jn.byt l (hds l hl)
  · rintro k ⟨v, hv, hk⟩ hd
    have h1 := vr v hv k hk
    rcases hr.ow k hd with h2 | h2
    · have := hD k h2; omega
    · omega
  · refine ⟨?_, ?_, ?_, ?_, fun k hk hn => ?_⟩
    · rw [b2.os, b1.os, hr.ch.os, hf.bel.os]
    · rw [b2.tape, b1.tape, hr.ch.tape, hf.bel.tape]
    · rw [b2.output, b1.output, hr.ch.output, hf.bel.output]
    · rw [b2.size, b1.size]; omega
    · rw [k23 k (fun e => hn (.inr (.inr (.inl (.inl e))))), hr.ch.block k (by omega) (fun e => hn (.inl e)), hf.bel.block k hk]
  · rintro k (hk | hk | (hk | hk) | ⟨v, hv, hk⟩)
    · rcases hr.ow k hk with h2 | h2
      · exact .inl (.inl h2)
      · exact .inr (by omega)
    · rcases hr.ro k hk with h2 | h2
      · exact .inl (.inr (.inl h2))
      · exact .inr (by omega)
    · exact .inl (.inr (.inr (.inl (.inl hk))))
    · exact .inr (lvr k hk).1
    · exact .inr (vr v hv k hk).1
set_option maxHeartbeats 2000000 in
theorem jclear_ok (d j s : Nat) (rs : List Rw) (D : Dm) (g : Nat) (ls : List (List Int)) (M : Jm) (w : World) (h : PJ w d j s rs D g ls M) (ht : TT w) (hG : Gens (play rs) [g]) (hg : g < 2147483647) (k : Nat) (hk : 0 < k) (hl : k ≤ ls.length) (hls : ls.length ≤ 1000000) (hwt : wt rs + 2 * (fmA ls).length + 4 ≤ 1099511000000) :
    Calls Tryz.prog 12 #[.pointer (some ⟨j, 0, none⟩), .int .i64 (k : Int)] w fun e w' => e = .returned (.int .i64 0) ∧ JR w w' d j s D M (clS s rs g (fmA (ls.drop k))) (g + 1) (ls.drop k) := by
  have c0 := h.jn.c0
  have c1 := h.jn.c1
  have c2 := h.jn.c2
  obtain ⟨la, lc, e⟩ := h.jn.slice
  rw [e] at c2
  have h0 : ¬ (k : Int) < 0 := by omega
  have h1 : ¬ (ls.length : Int) < (k : Int) := by omega
  have h2 : ((k : Int) == 0) = false := by rw [beq_eq_false_iff_ne]; omega
  have h3 : ((g : Int) == 2147483647) = false := by rw [beq_eq_false_iff_ne]; omega
  have HH := hide h
  have HF := hide (from_any j d g ls M w h.jn ht k hl hls (by omega))
  have HT := hide ht
  have HG := hide hG
  have HW := hide hwt
  have HLD : Hid ((fmA (ls.drop k)).length ≤ (fmA ls).length) := hide (by
    have := fmA_part ls ls.length k
    rwa [List.take_length] at this)
  have HIB : Hid (isB (fmA (ls.drop k))) := hide (fmA_isB _ (fun p hp => (h.jn.byt p (List.mem_of_mem_drop hp)).1))
  have HDS : Hid (∀ l ∈ ls.drop k, l ∈ ls) := hide (fun l hl => List.mem_of_mem_drop hl)
  clear h ht hG hwt e
  go_enter Tryz.func12, Tryz.ntmps12
  go_wp2_with (go_at_call 47; refine (jmade_ok _ _ _ c0).mono ?_; rintro e w ⟨rfl, rfl⟩)
  refine HF.out.mono ?_
  rintro e w1 ⟨lv, fv, vs, rfl, hfo⟩
  have FO := hide hfo
  have P1 := hide (HH.out.below hfo.bel)
  have T1 := hide (HT.out.on hfo.bel)
  obtain ⟨fa, fc, rfl, hsf⟩ := hfo.frm.sl' HIB.out (by have := HLD.out; have := HW.out; omega)
  obtain ⟨va, vc, hva⟩ := hfo.row.slice
  subst hva
  have SF := hide hsf
  have HOF : Hid (0 < (fmA (ls.drop k)).length → ∀ x, fa = some x → ¬ D.own d x.block) := hide (fun h0 x hx hd => by
    have h5 := HH.out.dk.lt (.inl hd)
    subst hx
    obtain ⟨b, o, e, hce⟩ := hsf.hcell h0
    injection e with e
    subst e
    have h6 := hfo.frm.lt b rfl
    simp only at h5
    omega)
  clear hfo hsf c0 c1 c2 HF
  obtain ⟨L, HL⟩ : ∃ L, Hid ((fmA (ls.drop k)).length = L) := ⟨_, hide rfl⟩
  rw [HL.out] at SF HOF HLD FO
  rw [HL.out]
  go_wp2_with fail
  refine (replace_ok d j s rs D g ls M _ P1.out T1.out HG.out hg fa L fc _ SF.out HOF.out (by have h1 := HW.out; have h2 := HLD.out; omega)).mono ?_
  rintro e w2 ⟨rfl, D2, hr⟩
  have R2 := hide hr
  have b2 := hr.pj.jn.blk
  have c1 : w2.cell? ⟨j, 1, none⟩ = some (.int .i64 (g : Int)) := hr.pj.jn.c1
  have f1 := b2.free 1
  obtain ⟨g1, HG1⟩ : ∃ g1, Hid (g + 1 = g1) := ⟨_, hide rfl⟩
  have hgw : wrap64 ((g : Int) + 1) = (g1 : Int) := by have := HG1.out; unfold wrap64; omega
  have hgi : IntKind.i64.wrap ((g : Int) + 1) = (g1 : Int) := by have := HG1.out; rw [IntKind.wrap_i64]; omega
  have b3 : Blk (w2.setCell ⟨j, 1, none⟩ (.int .i64 (g1 : Int))) j 50 (jnC (some ⟨d, 0, none⟩) (g1 : Int) M.lv) := b2.set 1 _
  have c2 : (w2.setCell ⟨j, 1, none⟩ (.int .i64 (g1 : Int))).cell? ⟨j, 2, none⟩ = some M.lv := by rw [b3.cell]; rfl
  have f2 := b3.free 2
  have HE := hide (clear_end HH.out FO.out HDS.out hr rfl)
  rw [HG1.out] at HE
  clear hr b2 b3 R2
  go_wp2
  go_ret
  refine ⟨rfl, ?_⟩
  rw [HG1.out]
  exact HE.out

end Go.Proofs.YtninkkdbcgadpaaGreatDoor

/-
  A journal opened behind a loss of power.
-/
namespace Go.Proofs.YtninkkdbcgadpaaGreatDoor
open Go.RowKit Go.Shelf
set_option linter.unusedVariables false
set_option linter.unusedSimpArgs false
set_option maxRecDepth 100000

theorem reopen_any (d s : Nat) (R : List Rw) (D : Dm) (w : World) (h : DkAt w d s R D) (ht : TT w) (htf : ∀ W, Chs (D.own d) w W → TT W) (g : Nat) (t : List Nat) (ps : List (List Int)) (c : Nat) (hc : Crs (play R) g t ps c) (hps : (fmA ps).length ≤ 8000000) (hwt : wt R ≤ 1000000000000) :
    Calls Tryz.prog 8 #[.pointer (some ⟨d, 0, none⟩)] w fun e w' => ∃ j K R', e = .returned (.tuple #[.pointer (some ⟨j, 0, none⟩), .int .i64 0]) ∧ K ≤ ps.length ∧ qL ps K ≤ c ∧ (K = ps.length ∨ c < qL ps (K + 1)) ∧ OpnR w w' d j s D R' g (ps.take K) ∧ Solo (play R') g (fmA (ps.take K)) ∧ wt R' ≤ wt R + 2 ∧ (t = [] → c = (fmA ps).length → R' = R) := by
  obtain ⟨K, L, P, E, h1, h2, h3, h4, h5, h6, h7, h8⟩ := hc.open
  have hib : isB ((fmA ps).take c) := (fmA_isB ps (fun p hp => (hc.ok p hp).1)).take c
  have htl := hc.few
  refine (jopen_old d s R D w h ht htf g t hc.gens hc.files (by omega) _ L P E hc.at' hib (by rw [List.length_take]; omega) h1 h2 (by omega)).mono ?_
  rintro e w' ⟨j, rfl, ho⟩
  rw [h3] at ho
  refine ⟨j, K, _, rfl, h4, h5, h6, ho, h8, ?_, fun ht0 hcf => ?_⟩
  · have := wt_opS R g t (P L.length)
    omega
  · subst ht0 hcf
    have hK := full_K h4 h6
    have hs : Solo (play R) g (fmA ps) := ⟨by have := hc.at'; rwa [List.take_length] at this, fun m hm => hc.no m (fun q hq => by
      have : q = g := by simpa using hq
      rw [this]; exact hm)⟩
    rw [h7, hK, ← fmA_all]
    exact opS_same hs
/-- What may be found behind a loss of power: the leaves of ahead of a call, or of behind it. -/
def CrK (f : ByteArray → Option (List Int)) (ls ls' : List (List Int)) (fin : Prop) : Prop :=
  ∃ g t ps c, Crs f g t ps c ∧ ((fmA ps).length ≤ (fmA ls).length ∨ (fmA ps).length ≤ (fmA ls').length) ∧ ∀ K, K ≤ ps.length → qL ps K ≤ c → (K = ps.length ∨ c < qL ps (K + 1)) → (ps.take K = ls ∨ ps.take K = ls') ∧ (fin → ps.take K = ls')
theorem crk_same {rs : List Rw} {g : Nat} {ls : List (List Int)} (h : Solo (play rs) g (fmA ls)) (h1 : 1 ≤ g) (h2 : g ≤ 2147483647) (hok : ∀ p ∈ ls, isB p ∧ p.length ≤ 65535) (fin : Prop) : CrK (play rs) ls ls fin :=
  ⟨g, [], ls, _, h.crs h1 h2 hok, .inl (Nat.le_refl _), fun K hK hq hf => by
    have := full_K hK hf
    rw [this, List.take_length]
    exact ⟨.inl rfl, fun _ => rfl⟩⟩
theorem crk_add {s : Nat} (hs : 1 ≤ s) {rs : List Rw} {g : Nat} {ls : List (List Int)} {xs : List Int} (h : Solo (play rs) g (fmA ls)) (h1 : 1 ≤ g) (h2 : g ≤ 2147483647) (hok : ∀ p ∈ ls ++ [xs], isB p ∧ p.length ≤ 65535) {k : Nat} (hk1 : rs.length ≤ k) (hk2 : k ≤ (apS s rs (jN g) (fmB xs)).length) :
    CrK (play ((apS s rs (jN g) (fmB xs)).take k)) ls (ls ++ [xs]) (k = (apS s rs (jN g) (fmB xs)).length) := by
  have hxb := (hok xs (by simp)).1
  obtain ⟨c, hc, hp, hfull⟩ := ap_cut hs (fmB_isB xs hxb) (h.fE h2) hk1 hk2
  have l0 : fl (play rs) (jN g) = fmA ls := by simp [fl, h.at']
  rw [l0] at hp
  have ea : fmA (ls ++ [xs]) = fmA ls ++ fmB xs := by simp [fmA]
  have ecut : fmA ls ++ (fmB xs).take c = (fmA (ls ++ [xs])).take ((fmA ls).length + c) := by
    rw [ea, List.take_append]
    simp
    rw [List.take_of_length_le (by omega)]
  have hle : (fmA ls).length + c ≤ (fmA (ls ++ [xs])).length := by rw [ea, List.length_append]; omega
  have hsolo : Solo (play ((apS s rs (jN g) (fmB xs)).take k)) g (fmA ls ++ (fmB xs).take c) := ⟨by rw [hp, upd_same], fun m hm => by rw [hp, upd_ne _ _ hm, h.no m hm]⟩
  refine ⟨g, [], ls ++ [xs], (fmA ls).length + c, ⟨hsolo.gens h1 h2, by rw [hsolo.at', ecut], hle, fun m hm => hsolo.no m (hm g (by simp)), by simp, hok⟩, .inr (Nat.le_refl _), fun K hK hq hf => ?_⟩
  have hql : qL (ls ++ [xs]) ls.length = (fmA ls).length := by
    unfold qL
    rw [List.take_left]
  have hlen : (ls ++ [xs]).length = ls.length + 1 := by simp
  have hKge : ls.length ≤ K := by
    apply Classical.byContradiction
    intro hlt
    rcases hf with hf | hf
    · omega
    · have := qL_mono2 (ls ++ [xs]) (a := K + 1) (b := ls.length) (by omega) (by omega)
      omega
  have hcase : K = ls.length ∨ K = ls.length + 1 := by omega
  refine ⟨?_, fun hfin => ?_⟩
  · rcases hcase with e | e
    · left; rw [e, List.take_left]
    · right; rw [e, List.take_of_length_le (by omega)]
  · have hcf := hfull hfin
    have hall : (fmA ls).length + c = (fmA (ls ++ [xs])).length := by rw [ea, List.length_append, hcf]
    rw [hall] at hf
    have := full_K hK hf
    rw [this, List.take_length]
theorem crk_clear {s : Nat} (hs : 1 ≤ s) {rs : List Rw} {g : Nat} {ls ls' : List (List Int)} (h : Solo (play rs) g (fmA ls)) (h1 : 1 ≤ g) (h2 : g < 2147483647) (hok : ∀ p ∈ ls, isB p ∧ p.length ≤ 65535) (hok' : ∀ p ∈ ls', isB p ∧ p.length ≤ 65535) {k : Nat} (hk1 : rs.length ≤ k) (hk2 : k ≤ (clS s rs g (fmA ls')).length) :
    CrK (play ((clS s rs g (fmA ls')).take k)) ls ls' (k = (clS s rs g (fmA ls')).length) := by
  have hb := fmA_isB ls' (fun p hp => (hok' p hp).1)
  obtain ⟨p1, p2, p3, p4, p5, p6, p7⟩ := clear_pure hs hb (h.gens h1 (by omega)) h2
  have hne : jN (g + 1) ≠ jN g := jN_ne (by omega)
  have e1 : crS rs (jN (g + 1)) = rs ++ [rCr (jN (g + 1))] := by simp [crS, p1]
  have e3 : clS s rs g (fmA ls') = apS s (crS rs (jN (g + 1))) (jN (g + 1)) (fmA ls') ++ [rRm (jN g)] := by
    unfold clS rmS
    rw [if_pos p5]
  have h12 : (crS rs (jN (g + 1))).length ≤ (apS s (crS rs (jN (g + 1))) (jN (g + 1)) (fmA ls')).length := by
    unfold apS
    split
    · rw [List.length_append]; omega
    · exact Nat.le_refl _
  have l1 : (crS rs (jN (g + 1))).length = rs.length + 1 := by rw [e1]; simp
  have l3 : (clS s rs g (fmA ls')).length = (apS s (crS rs (jN (g + 1))) (jN (g + 1)) (fmA ls')).length + 1 := by rw [e3]; simp
  by_cases hkf : k = (clS s rs g (fmA ls')).length
  · have hsl := h.clear hs h1 h2 hb
    rw [hkf, List.take_length]
    obtain ⟨g', t, ps, c, q1, q2, q3⟩ := crk_same hsl (by omega) (by omega) hok' True
    refine ⟨g', t, ps, c, q1, .inr (by omega), fun K a b d => ?_⟩
    have := (q3 K a b d).2 trivial
    exact ⟨.inr this, fun _ => this⟩
  · by_cases hk0 : k = rs.length
    · have et : (clS s rs g (fmA ls')).take k = rs := by
        have hpre : rs <+: clS s rs g (fmA ls') := by
          rw [e3]
          refine List.IsPrefix.trans ?_ (List.prefix_append _ _)
          unfold apS
          split
          · rw [e1, List.append_assoc]; exact List.prefix_append _ _
          · rw [e1]; exact List.prefix_append _ _
        obtain ⟨u, hu⟩ := hpre
        rw [← hu, hk0, List.take_left]
      rw [et]
      obtain ⟨g', t, ps, c, q1, q2, q3⟩ := crk_same h h1 (by omega) hok True
      refine ⟨g', t, ps, c, q1, .inl (by omega), fun K a b d => ⟨.inl ((q3 K a b d).2 trivial), fun e => absurd e hkf⟩⟩
    · have et : (clS s rs g (fmA ls')).take k = (apS s (crS rs (jN (g + 1))) (jN (g + 1)) (fmA ls')).take k := by
        rw [e3, List.take_append_of_le_length (by omega)]
      rw [et]
      obtain ⟨c, hc, hp, _⟩ := ap_cut hs hb p4 (k := k) (by omega) (by omega)
      have hf1 : play (crS rs (jN (g + 1))) (jN (g + 1)) = some [] := by rw [play_cr p1, upd_same]
      have l0 : fl (play (crS rs (jN (g + 1)))) (jN (g + 1)) = [] := by simp [fl, hf1]
      rw [l0, play_cr p1, upd_upd, List.nil_append] at hp
      refine ⟨g, [g + 1], ls, _, ⟨⟨?_, fun q => ?_⟩, ?_, Nat.le_refl _, fun m hm => ?_, by simp, hok⟩, .inl (Nat.le_refl _), fun K hK hq hf => ?_⟩
      · simp
      · constructor
        · intro hq
          rcases List.mem_cons.1 hq with e | e
          · subst e
            exact ⟨h1, by omega, by rw [hp, upd_ne _ _ hne.symm, h.at']; rfl⟩
          · have e : q = g + 1 := by simpa using e
            subst e
            exact ⟨by omega, by omega, by rw [hp, upd_same]; rfl⟩
        · rintro ⟨q1, q2, q3⟩
          apply Classical.byContradiction
          intro hn
          have n1 : q ≠ g := fun e => hn (by simp [e])
          have n2 : q ≠ g + 1 := fun e => hn (by simp [e])
          rw [hp, upd_ne _ _ (jN_ne n2), h.no _ (jN_ne n1)] at q3
          cases q3
      · rw [hp, upd_ne _ _ hne.symm, h.at', List.take_length]
      · rw [hp, upd_ne _ _ (hm (g + 1) (by simp)), h.no m (hm g (by simp))]
      · have := full_K hK hf
        rw [this, List.take_length]
        exact ⟨.inl rfl, fun e => absurd e hkf⟩

end Go.Proofs.YtninkkdbcgadpaaGreatDoor

/-
  The law's listed and same.
-/
namespace Go.Proofs.YtninkkdbcgadpaaGreatDoor
open Go.RowKit Go.Shelf
set_option linter.unusedVariables false
set_option linter.unusedSimpArgs false
set_option maxRecDepth 100000

theorem tinS : Tin 63 9 (.string ByteArray.empty) 16 := ⟨by kernel_rfl, by kernel_rfl, by kernel_rfl, fun _ => by kernel_rfl, rfl, by decide, by decide, fun u w h => build_by _ _ (.string ByteArray.empty) 16 (by kernel_rfl) (by kernel_rfl) rfl (by decide) u w h⟩
/-- Leaves as strings, as cells. -/
def lsC (ls : List (List Int)) : List Value := ls.map fun l => .string (str l)
theorem lsC_length (ls : List (List Int)) : (lsC ls).length = ls.length := by simp [lsC]
/-- What stands in listed. -/
structure ZI (w W : World) (B b3 : Nat) (ov : Value) (ds : List (List Int)) : Prop where
  c3 : Blk W b3 63 [ov]
  row : OwnV 9 W B ov (lsC ds)
  l3 : w.heap.size ≤ b3 ∧ b3 < B
  bel : Below w.heap.size w W
  sz : B ≤ W.heap.size
section
variable {w W W' : World} {B b3 : Nat} {ov : Value} {ds : List (List Int)}
theorem ZI.ck (h : ZI w W B b3 ov ds) (hk : CK W W') (hb : Below w.heap.size w W') : ZI w W' B b3 ov ds := ⟨h.c3.ck hk, h.row.ck hk, h.l3, hb, Nat.le_trans h.sz hk.size⟩
theorem ZI.on (h : ZI w W B b3 ov ds) (hb : Below W.heap.size W W') : ZI w W' B b3 ov ds := h.ck (CK.below hb) (on_below h.bel hb)
theorem ZI.push {w3 w4 w5 : World} {g cap : Nat} {y : List Int} (h : ZI w W B b3 ov ds) (h3 : Below W.heap.size W w3) (hrow : OwnV 9 w4 B (.slice (some ⟨g, 0, none⟩) ((lsC ds).length + 1) cap) (lsC ds ++ [.string (str y)])) (hgr : w3.grownBy w4 ov.ownBlock)
    (h5 : w5 = w4.setCell ⟨b3, 0, none⟩ (.slice (some ⟨g, 0, none⟩) ((lsC ds).length + 1) cap)) : ZI w w5 B b3 (.slice (some ⟨g, 0, none⟩) ((lsC ds).length + 1) cap) (ds ++ [y]) ∧ KeepsOthers W w5 := by
  have H3 := h.on h3
  have hbut : But b3 w4 w5 := by rw [h5]; exact But.setCell w4 b3 0 _
  have hfB : ∀ k, ov.ownBlock = some k → B ≤ k := fun k hk => (H3.row.lt k hk).1
  have l3 := h.l3
  have hs3 := h3.size
  have c4 : Blk w4 b3 63 [ov] := H3.c3.same (hgr.block b3 H3.c3.lt (fun e => by have := hfB b3 e.symm; omega))
  refine ⟨⟨?_, ?_, l3, ?_, ?_⟩, ?_⟩
  · rw [h5]; exact c4.set 0 _
  · have hgB : B ≤ g := (hrow.lt g rfl).1
    have := hrow.same (w' := w5) (fun k hk => by
      have ek : g = k := by cases hk; rfl
      subst ek
      exact hbut.block g (by omega))
    have e : lsC (ds ++ [y]) = lsC ds ++ [.string (str y)] := by simp [lsC]
    rw [e]
    exact this
  · have b4 : Below w.heap.size w w4 := H3.bel.grown hgr H3.bel.size (fun r e => by have := hfB r e; omega)
    exact b4.trans (hbut.below l3.1)
  · rw [hbut.size]
    have := hgr.size
    have := h.sz
    omega
  · refine (keepsO_below h3).trans ((keepsO_grown hgr (fun g e => ?_)).trans (keepsO_but hbut c4))
    obtain ⟨cs, hc⟩ := H3.row.blk e
    exact ⟨_, cs, hc⟩
end
set_option maxHeartbeats 4000000 in
theorem listed_any (j d g : Nat) (ls : List (List Int)) (M : Jm) (w : World) (h : JnAt w j d g ls M) (hls : ls.length ≤ 1000000) :
    Calls Tryz.prog 21 #[.pointer (some ⟨j, 0, none⟩)] w fun e w' => ∃ v, e = .returned v ∧ OwnV 9 w' w.heap.size v (lsC ls) ∧ Below w.heap.size w w' := by
  have HH := hide h
  have HLS := hide hls
  clear h hls
  refine (callsIn_wide (n := 3)).1 ?_
  refine callsIn_of_wp_marks Tryz.func21 rfl trivial ?_ rfl
  refine wpIn_wide.2 ?_
  simp only [Tryz.ntmps21, List.size_toArray, List.length_cons, List.length_nil, Nat.reduceAdd, Nat.reduceSub, Array.replicate_succ, Array.replicate_zero, List.push_toArray, List.append_toArray, List.nil_append, List.cons_append]
  go_wp2_with fail
  have C3 : Blk (w.alloc (.cells #[.slice none 0 0] 63)) w.heap.size 63 [.slice none 0 0] := Blk.made w 63 [.slice none 0 0]
  have hb3 : Below w.heap.size w (w.alloc (.cells #[.slice none 0 0] 63)) := (Below.refl _ _).alloc (Nat.le_refl _) _
  have hs3 : (w.alloc (.cells #[.slice none 0 0] 63)).heap.size = w.heap.size + 1 := World.size_alloc _ _
  have G3 : Hid (ZI w (w.alloc (.cells #[.slice none 0 0] 63)) (w.heap.size + 1) w.heap.size (.slice none 0 0) []) := hide ⟨C3, OwnV.nil _ _ _, ⟨Nat.le_refl _, by omega⟩, hb3, by rw [hs3]; exact Nat.le_refl _⟩
  clear C3 hb3 hs3
  revert G3
  generalize w.alloc (.cells #[.slice none 0 0] 63) = W3
  obtain ⟨B, hB⟩ : ∃ B, w.heap.size + 1 = B := ⟨_, rfl⟩
  rw [hB]
  intro G3
  have hwB : w.heap.size ≤ B := by omega
  clear hB
  refine (jall_any _ _).mono ?_
  rintro r W5 ⟨rfl, rfl⟩
  have hbA : Below W3.heap.size W3 (W3.alloc (.cells #[.pointer (some ⟨j, 0, none⟩)] 30)) := (Below.refl _ _).alloc (Nat.le_refl _) _
  have G4 := hide (G3.out.on hbA)
  revert G4
  generalize W3.alloc (.cells #[.pointer (some ⟨j, 0, none⟩)] 30) = W4
  generalize W3.heap.size = bx0
  intro G4
  have heq : ∀ v : World, (binOp BinOp.eql 53 (.func (.func 53) #[] #[.pointer (some ⟨bx0, 0, none⟩)]) .nilFunc).run Tryz.prog v = .ok (.bool false) v := fun v => by kernel_rfl
  clear hbA G3
  go_wp2_with fail
  refine (jall_any _ _).mono ?_
  rintro r W5 ⟨rfl, rfl⟩
  have hbB : Below W4.heap.size W4 (W4.alloc (.cells #[.pointer (some ⟨j, 0, none⟩)] 30)) := (Below.refl _ _).alloc (Nat.le_refl _) _
  have BX : Blk (W4.alloc (.cells #[.pointer (some ⟨j, 0, none⟩)] 30)) W4.heap.size 30 [.pointer (some ⟨j, 0, none⟩)] := Blk.made _ _ _
  have G5 := hide (G4.out.on hbB)
  revert G5 BX
  generalize W4.alloc (.cells #[.pointer (some ⟨j, 0, none⟩)] 30) = W5
  generalize W4.heap.size = bx
  intro BX G5
  clear hbB heq G4
  have HSQ := hide (jall_seq bx j d g ls M W5 (HH.out.below G5.out.bel) BX (by have := HLS.out; omega))
  have HJL : Hid (∀ q, M.own j q ∨ M.ro q → q < w.heap.size) := hide (fun q hq => HH.out.lt hq)
  have S5 : w.heap.size ≤ W5.heap.size := G5.out.bel.size
  clear BX
  go_wp2_with fail
  refine (wpIn_wide (n := 3)).1 ?_
  refine rangeQ rfl (by decide) (gf := 53) (lb := #[.pointer (some ⟨bx, 0, none⟩)]) rfl trivial (enters_of Tryz.func53 (by kernel_rfl) rfl)
    HSQ.out KJ.trans (fun x W l o o' hl h hc => KJ.book (B := w.heap.size) HJL.out W l o' (by omega)) (fun _ => rfl) (fun pre x W0 => rj_own _ _ pre x W0)
    (fun pre W => ∃ ov, ZI w W B w.heap.size ov (ls.take pre.length)) (fun _ _ _ => False)
    (fun _ A C row h hg hr => by
      obtain ⟨ov, hf⟩ := h
      exact ⟨ov, hf.ck (CK.of_grown hg (fun r e => (hr r e).2)) (hf.bel.grown hg hf.bel.size (fun r e => by have := (hr r e).1; omega))⟩) (fun c _ A C row h hg hr => h) ⟨_, by simpa using G5.out⟩ ?act ?assign ?body ?done ?stop
  case assign =>
    rintro l x W K hK
    have hsem := Oper.semAt_some
    simp only [encL]
    gi_wp2
    exact hK
  case stop =>
    rintro D c pre W hD hSp hF2 hK2
    exact hF2.elim
  case body =>
    rintro l pre ⟨i0, v, y⟩ W0 W _ hck hsz ⟨ov, hf⟩ ⟨h1, h2, h3, h4, h5⟩
    have hsem := Oper.semAt_some
    obtain ⟨i, HI⟩ : ∃ i, Hid (pre.length = i) := ⟨_, hide rfl⟩
    simp only at h3 h4 h5
    rw [HI.out] at h1 h3 h4 hf
    have hby : isB y ∧ y.length ≤ 65535 := HH.out.byt y (by
      rw [h4]
      simp only [List.getD, List.getElem?_eq_getElem h1, Option.getD_some]
      exact List.getElem_mem h1)
    obtain ⟨av, cv, ev, sv⟩ := h5.sl' hby.1 (by omega)
    subst ev h3
    have HP1 : Hid ((pre ++ [((i : Int), Value.slice av y.length cv, y)]).length = i + 1) := hide (by rw [List.length_append, HI.out]; rfl)
    have HE : Hid (ls.take (i + 1) = ls.take i ++ [y]) := hide (by rw [h4]; exact take_snocN ls i h1)
    have hcv := toStr sv
    have HF := hide hf
    obtain ⟨oa, oc, hov⟩ := hf.row.slice
    subst hov
    have d3 : W.cell? ⟨w.heap.size, 0, none⟩ = some (.slice oa (lsC (ls.take i)).length oc) := by rw [hf.c3.cell]; rfl
    obtain ⟨X, HXX⟩ : ∃ X, Hid (str y = X) := ⟨_, hide rfl⟩
    rw [HXX.out] at hcv
    clear hf h2 h4 h5 hck hby sv
    gi_wp2_with (refine istep_one1 (u := .string X) (WideF.round l) tinS rfl rfl rfl ?_)
    intro w3 g3 hg3 hle3 hb3
    have HB3 := hide hb3
    have F3 := hide (HF.out.on hb3)
    have HG3 := hide hg3
    have HFEW : Hid ((lsC (ls.take i)).length ≤ 1048576) := hide (by
      rw [lsC_length, List.length_take]
      have := HLS.out
      omega)
    clear hg3 hle3 hb3 d3 hcv
    gi_wp2_with (refine istep_app1 (u := .string X) (WideF.round l) tinS rfl rfl rfl rfl F3.out.row HG3.out HFEW.out F3.out.sz ?_)
    intro g4 cap4 w4 hrow hgr hat
    have hfB : ∀ k, (Value.slice oa (lsC (ls.take i)).length oc).ownBlock = some k → B ≤ k := fun k hk => (F3.out.row.lt k hk).1
    have c4 : Blk w4 w.heap.size 63 [.slice oa (lsC (ls.take i)).length oc] := F3.out.c3.same (hgr.block _ F3.out.c3.lt (fun e => by have h1 := hfB _ e.symm; have h2 := F3.out.l3; omega))
    have d4 : w4.cell? ⟨w.heap.size, 0, none⟩ = some (.slice oa (lsC (ls.take i)).length oc) := by rw [c4.cell]; rfl
    have f4 := c4.free 0
    rw [← HXX.out] at hrow
    have HFIN := hide (HF.out.push HB3.out hrow hgr rfl)
    obtain ⟨n4, HN4⟩ : ∃ n4, Hid ((lsC (ls.take i)).length + 1 = n4) := ⟨_, hide rfl⟩
    rw [HN4.out] at HFIN
    rw [HN4.out]
    clear hrow hgr hat hfB c4
    gi_wp2
    refine ⟨HFIN.out.2.from _, KJ.between HJL.out HF.out.bel HFIN.out.1.bel HFIN.out.2.size, ?_⟩
    show ∃ ov, ZI w _ B w.heap.size ov (ls.take (pre ++ [((i : Int), Value.slice av y.length cv, y)]).length)
    rw [HP1.out, HE.out]
    exact ⟨_, HFIN.out.1⟩
  case done =>
    rintro Dk ys W hD hS ⟨ov, hf⟩ hK2
    have hyl : ys.length = ls.length := by rw [← hS, List.length_map]
    rw [hyl, List.take_length] at hf
    have HF := hide hf
    have HDK := hide hK2
    have d3 : W.cell? ⟨w.heap.size, 0, none⟩ = some ov := by rw [hf.c3.cell]; rfl
    have hDw : w.heap.size ≤ Dk := by omega
    clear hf hK2 hS hyl G5 HSQ
    go_wp2
    refine ⟨by simp, .inl ⟨_, _, rfl, run_takeDeferred HDK.out, ?_⟩⟩
    refine ⟨ov, by simp [results, Tryz.f21, go_sem], ?_⟩
    exact ⟨_, rfl, (HF.out.row.ck (CK.put (.deferred none) HDK.out rfl)).mono hwB, HF.out.bel.trans (belowK_b (w := w) (Nat.le_refl _) _ Dk _ (.deferred none) (by omega) HDK.out rfl rfl)⟩

end Go.Proofs.YtninkkdbcgadpaaGreatDoor

/-
  The law's same: lists of strings.
-/
namespace Go.Proofs.YtninkkdbcgadpaaGreatDoor
open Go.RowKit Go.Shelf
set_option linter.unusedVariables false
set_option linter.unusedSimpArgs false
set_option maxRecDepth 100000

theorem beqS_ne13 {n t : ByteArray} (h : n ≠ t) : (n.toList == t.toList) = false := by
  rw [beq_eq_false_iff_ne, ByteArray.toList_eq, ByteArray.toList_eq]
  intro e
  exact h (by cases n; cases t; simp at e; rw [e])
set_option maxHeartbeats 2000000 in
theorem same13_any (va vb : Value) (A C : List (List Int)) (B1 B2 : Nat) (w : World) (ha : OwnV 9 w B1 va (lsC A)) (hb : OwnV 9 w B2 vb (lsC C)) (hla : A.length ≤ 1000000) :
    Calls Tryz.prog 24 #[va, vb] w fun e w' => ∃ b : Bool, e = .returned (.bool b) ∧ (A = C → b = true) ∧ Below w.heap.size w w' := by
  obtain ⟨aa, ac, rfl⟩ := ha.slice
  obtain ⟨ba, bc, rfl⟩ := hb.slice
  rw [lsC_length] at ha hb ⊢
  rw [lsC_length]
  by_cases hlen : A.length = C.length
  · have HA := hide ha
    have HB := hide hb
    obtain ⟨n, HN⟩ : ∃ n, Hid (A.length = n) := ⟨_, hide rfl⟩
    have HC : Hid (C.length = n) := hide (by rw [← hlen]; exact HN.out)
    rw [HN.out] at hla HA
    rw [HC.out] at HB
    rw [HN.out, HC.out]
    clear ha hb hlen
    go_enter Tryz.func24, Tryz.ntmps24
    go_wp2
    go_loopw [5] (fun p wr => ∃ i : Nat, i ≤ n ∧ p = .int .i64 (i : Int) ∧ Hid (Below w.heap.size w wr)) (fun p _ => n - (intOf p).toNat)
    case atStart => exact ⟨0, Nat.zero_le _, rfl, hide (Below.refl _ _)⟩
    case round =>
      obtain ⟨i, hi, rfl, HW⟩ := hrel
      by_cases hlt : i < n
      · have hlti : (i : Int) < (n : Int) := by omega
        have hiA : i < (lsC A).length := by rw [lsC_length, HN.out]; exact hlt
        have hiC : i < (lsC C).length := by rw [lsC_length, HC.out]; exact hlt
        obtain ⟨ga, e1, _, hca⟩ := HA.out.cell i hiA
        obtain ⟨gb, e2, _, hcb⟩ := HB.out.cell i hiC
        subst e1 e2
        obtain ⟨x, HX⟩ : ∃ x, Hid (str (A.getD i []) = x) := ⟨_, hide rfl⟩
        obtain ⟨y, HY⟩ : ∃ y, Hid (str (C.getD i []) = y) := ⟨_, hide rfl⟩
        have kA : w.cell? ⟨ga, i, none⟩ = some (.string x) := by
          rw [hca, ← HX.out]
          have : i < A.length := by rw [HN.out]; exact hlt
          simp [lsC, List.getD, this]
        have kB : w.cell? ⟨gb, i, none⟩ = some (.string y) := by
          rw [hcb, ← HY.out]
          have : i < C.length := by rw [HC.out]; exact hlt
          simp [lsC, List.getD, this]
        have kA' : wr.cell? ⟨ga, i, none⟩ = some (.string x) := cell_kept kA HW.out
        have kB' : wr.cell? ⟨gb, i, none⟩ = some (.string y) := cell_kept kB HW.out
        have x1 := tinS.at ga n ac i (i : Int) rfl hlt
        have x2 := tinS.at gb n bc i (i : Int) rfl hlt
        clear hca hcb kA kB
        by_cases hxy : x = y
        · have hq : (x.toList == y.toList) = true := by rw [hxy]; simp
          have hqq : (x.toList != y.toList) = false := by rw [hxy]; simp
          clear hxy
          go_wp2_with fail
          go_quiet (fail)
          go_wp2
          go_roundw
          case rel => exact ⟨i + 1, by omega, by go_num, hide (below_drews HW.out _)⟩
          case measure => simp only [intOf]; omega
        · have hq : (x.toList == y.toList) = false := beqS_ne13 hxy
          have HNE : Hid (A = C → False) := hide (fun e => hxy (by rw [← HX.out, ← HY.out, e]))
          clear hxy
          have hqq : (x.toList != y.toList) = true := by simp [bne, hq]
          go_wp2_with fail
          go_quiet (fail)
          go_wp2
          go_ret
          exact ⟨false, rfl, fun e => (HNE.out e).elim, below_drews HW.out _⟩
      · have hlti : ¬ (i : Int) < (n : Int) := by omega
        go_wp2
        go_ret
        exact .inr ⟨rfl, HW.out⟩
  · have hne : ((A.length : Int) != (C.length : Int)) = true := by
      simp only [bne_iff_ne, ne_eq]
      omega
    have HNE : Hid (A = C → False) := hide (fun e => hlen (by rw [e]))
    clear ha hb hlen
    go_enter Tryz.func24, Tryz.ntmps24
    go_wp2
    go_ret
    exact ⟨false, rfl, fun e => (HNE.out e).elim, Below.refl _ _⟩

end Go.Proofs.YtninkkdbcgadpaaGreatDoor
