/-
  Digests with their places, as cells one behind the other: without any walk.
-/
import Derived.Test.YtabpfbankinojaaDga
import Derived.Test.YtabpfbankinojaaDgp
import Derived.Lib.BytesEntry
namespace Go.Proofs.Ytabpfbankinojaa
open Go.RowKit
set_option linter.unusedVariables false

/-- A digest with its place. -/
structure Ent where
  d : List Int
  p : Int
  hl : d.length = 32
  hb : isB d
theorem Ent.same {x y : Ent} (h1 : x.d = y.d) (h2 : x.p = y.p) : x = y := by
  obtain ⟨a, b, _, _⟩ := x
  obtain ⟨c, d, _, _⟩ := y
  subst h1 h2
  rfl
def kE (x : Ent) : Nat := kD x.d
theorem kE_d {x y : Ent} (h : kE x = kE y) : x.d = y.d := kD_inj x.hb y.hb (by rw [x.hl, y.hl]) h
theorem kE_lt {x : Ent} {d : List Int} (hl : d.length = 32) (hb : isB d) (h : ¬ kE x = kD d) : x.d ≠ d := fun e => h (by unfold kE; rw [e])
/-- Its cells. -/
def pc (x : Ent) : List Value := u8s x.d ++ [.int .i64 x.p]
theorem pc_len (x : Ent) : (pc x).length = 33 := by simp [pc, u8s_length, x.hl]
theorem pc_one (x : Ent) : One (pc x) := (One.u8 _).app (by intro v hv; simp at hv; subst hv; rfl)
def pcs (l : List Ent) : List Value := l.flatMap pc
theorem pcs_nil : pcs [] = [] := rfl
theorem pcs_cons (x : Ent) (l : List Ent) : pcs (x :: l) = pc x ++ pcs l := by simp [pcs]
theorem pcs_app (a b : List Ent) : pcs (a ++ b) = pcs a ++ pcs b := by simp [pcs]
theorem pcs_single (x : Ent) : pcs [x] = pc x := by simp [pcs]
theorem pcs_len : ∀ (l : List Ent), (pcs l).length = l.length * 33
  | [] => rfl
  | x :: l => by rw [pcs_cons, List.length_append, pc_len, pcs_len l, List.length_cons]; omega
theorem pcs_one : ∀ (l : List Ent), One (pcs l)
  | [] => fun v hv => by cases hv
  | x :: l => by rw [pcs_cons]; exact (pc_one x).app (pcs_one l)
theorem pcs_take : ∀ (l : List Ent) (k : Nat), pcs (l.take k) = (pcs l).take (k * 33)
  | [], k => by simp [pcs]
  | x :: l, 0 => by simp [pcs]
  | x :: l, k + 1 => by
    rw [List.take_succ_cons, pcs_cons, pcs_cons, pcs_take l k, Nat.add_mul, Nat.one_mul, Nat.add_comm, ← pc_len x, List.take_length_add_append, pc_len]
theorem pcs_drop : ∀ (l : List Ent) (k : Nat), pcs (l.drop k) = (pcs l).drop (k * 33)
  | [], k => by simp [pcs]
  | x :: l, 0 => by simp
  | x :: l, k + 1 => by
    rw [List.drop_succ_cons, pcs_cons, pcs_drop l k, Nat.add_mul, Nat.one_mul, Nat.add_comm, ← pc_len x, List.drop_length_add_append, pc_len]
theorem pcs_at (l : List Ent) (i : Nat) (h : i < l.length) : ((pcs l).drop (i * 33)).take 33 = pc l[i] := by
  rw [← pcs_drop, List.drop_eq_getElem_cons h, pcs_cons, ← pc_len l[i], List.take_left]
theorem pc_d (x : Ent) : (pc x).take 32 = u8s x.d := by
  unfold pc
  have : (u8s x.d).length = 32 := by rw [u8s_length, x.hl]
  rw [← this, List.take_left]
theorem pc_p (x : Ent) : (pc x).drop 32 = [.int .i64 x.p] := by
  unfold pc
  have : (u8s x.d).length = 32 := by rw [u8s_length, x.hl]
  rw [← this, List.drop_left]
theorem pc_at32 (x : Ent) : (pc x)[32]? = some (.int .i64 x.p) := by
  have := congrArg (fun l : List Value => l[0]?) (pc_p x)
  simpa using this

/-! ### bytes compared -/
theorem ofNat_lt {a b : Int} (ha : 0 ≤ a ∧ a ≤ 255) (hb : 0 ≤ b ∧ b ≤ 255) : UInt8.ofNat a.toNat < UInt8.ofNat b.toNat ↔ a < b := by
  rw [UInt8.lt_iff_toNat_lt, UInt8.toNat_ofNat_of_lt' (by show a.toNat < 256; omega), UInt8.toNat_ofNat_of_lt' (by show b.toNat < 256; omega)]
  omega
theorem cmp_lt : ∀ {x y : List Int}, isB x → isB y → x.length = y.length → (Lib.compareBytes (Lib.bytesOf x) (Lib.bytesOf y) < 0 ↔ kD x < kD y)
  | [], [], _, _, _ => by simp [Lib.bytesOf, Lib.compareBytes, kD]
  | [], _ :: _, _, _, h => by simp at h
  | _ :: _, [], _, _, h => by simp at h
  | a :: t, b :: u, hx, hy, hl => by
    have hla : t.length = u.length := by simpa using hl
    have ha := hx a (List.mem_cons_self ..)
    have hb := hy b (List.mem_cons_self ..)
    have hxt : isB t := fun y hy => hx y (List.mem_cons_of_mem _ hy)
    have hyt : isB u := fun z hz => hy z (List.mem_cons_of_mem _ hz)
    have ih := cmp_lt hxt hyt hla
    have h1 := kD_lt hxt
    have h2 := kD_lt hyt
    show (Lib.compareBytes (UInt8.ofNat a.toNat :: Lib.bytesOf t) (UInt8.ofNat b.toNat :: Lib.bytesOf u) < 0 ↔ _)
    unfold Lib.compareBytes
    rw [kD_cons, kD_cons, ← hla]
    rw [← hla] at h2
    rcases Int.lt_trichotomy a b with h | h | h
    · have h4 := Nat.mul_le_mul_right (256 ^ t.length) (show a.toNat + 1 ≤ b.toNat by omega)
      rw [Nat.add_mul, Nat.one_mul] at h4
      rw [if_pos ((ofNat_lt ha hb).2 h)]
      constructor
      · intro _; omega
      · intro _; omega
    · subst h
      rw [if_neg (fun hh => by have := (ofNat_lt ha ha).1 hh; omega), if_neg (fun hh => by have := (ofNat_lt ha ha).1 hh; omega)]
      rw [ih]
      omega
    · have h4 := Nat.mul_le_mul_right (256 ^ t.length) (show b.toNat + 1 ≤ a.toNat by omega)
      rw [Nat.add_mul, Nat.one_mul] at h4
      rw [if_neg (fun hh => by have := (ofNat_lt ha hb).1 hh; omega), if_pos ((ofNat_lt hb ha).2 h)]
      constructor
      · intro hh; omega
      · intro hh; omega
theorem run_cmp {P : Program} (w : World) (g1 g2 c1 c2 : Nat) (xs ys : List Int) (hx : Sl w (some ⟨g1, 0, none⟩) 32 c1 xs) (hy : Sl w (some ⟨g2, 0, none⟩) 32 c2 ys) :
    (Extern.BytealgCompare.compare #[.slice (some ⟨g1, 0, none⟩) 32 c1, .slice (some ⟨g2, 0, none⟩) 32 c2]).run P w = .ok (.int .i64 (Lib.compareBytes (Lib.bytesOf xs) (Lib.bytesOf ys))) w := by
  have load : ∀ (g c : Nat) (zs : List Int), Sl w (some ⟨g, 0, none⟩) 32 c zs → (Extern.Bytes.loadBytes ⟨g, 0, none⟩ 32 .empty).run P w = .ok ⟨(Lib.bytesOf zs).toArray⟩ w := by
    intro g c zs hz
    have hc := hz.hcell (by omega)
    obtain ⟨b, o, e, hc⟩ := hc
    injection e with e
    injection e with e1 e2
    subst e1 e2
    have h := Lib.run_loadBytesX (P := P) w zs ⟨g, 0, none⟩ .empty (fun j x hj => by
      have hjl : j < zs.length := (List.getElem?_eq_some_iff.1 hj).1
      have hl := hz.hlen
      rw [Addr.add_lit, hc j (by omega), List.getD_eq_getElem?_getD, hj]
      rfl)
    rw [hz.hlen] at h
    have he : (⟨ByteArray.empty.data ++ (Lib.bytesOf zs).toArray⟩ : ByteArray) = ⟨(Lib.bytesOf zs).toArray⟩ := by
      apply ByteArray.ext
      show (#[] : Array UInt8) ++ (Lib.bytesOf zs).toArray = (Lib.bytesOf zs).toArray
      simp
    rw [he] at h
    exact h
  change Sem.run P (do pure (goInt (Extern.BytealgCompare.cmp (← Extern.Bytes.bytesOf (.slice (some ⟨g1, 0, none⟩) 32 c1)) (← Extern.Bytes.bytesOf (.slice (some ⟨g2, 0, none⟩) 32 c2))))) w = _
  simp only [Extern.Bytes.bytesOf, Sem.run_bind, Sem.run_pure, load _ _ _ hx, load _ _ _ hy, Result.andThen]
  rw [Lib.cmp_eq]
  rfl

end Go.Proofs.Ytabpfbankinojaa
