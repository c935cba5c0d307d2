/-
  Tiles as structs; where a node is: the program's Of and the document's.
-/
import Derived.Test.YtlgcjdgcgnlcaaaGreatDoorTb
import Derived.Test.YtlgcjdgcgnlcaaaGreatDoorNv
namespace Go.Proofs.YtlgcjdgcgnlcaaaGreatDoor
open Go.RowKit
set_option linter.unusedVariables false

/-- The cells of a tile. -/
def c4 (h l i n : Int) : List Value := [.int .i64 h, .int .i64 l, .int .i64 i, .int .i64 n]
theorem One.c4 (h l i n : Int) : One (c4 h l i n) := by intro v hv; simp [Go.Proofs.YtlgcjdgcgnlcaaaGreatDoor.c4] at hv; rcases hv with rfl | rfl | rfl | rfl <;> rfl
theorem zT : Zeroed 43 (c4 0 0 0 0) := fun _ _ _ _ _ _ _ => by kernel_rfl
theorem wT : Wide 43 4 := ⟨by kernel_rfl, by kernel_rfl⟩
theorem Blk.four {w : World} {g : Nat} {t : TypeId} {h l i n : Int} (k : Blk w g t (c4 h l i n)) : w.cell? ⟨g, 0, none⟩ = some (.int .i64 h) ∧ w.cell? ⟨g, 1, none⟩ = some (.int .i64 l) ∧ w.cell? ⟨g, 2, none⟩ = some (.int .i64 i) ∧ w.cell? ⟨g, 3, none⟩ = some (.int .i64 n) :=
  ⟨by rw [k.cell]; rfl, by rw [k.cell]; rfl, by rw [k.cell]; rfl, by rw [k.cell]; rfl⟩

theorem wrap_nat (n : Nat) (h : n ≤ 281474976710656) : IntKind.i64.wrap (n : Int) = (n : Int) := wrap_in _ (by omega) (by omega)
/-- Where a node's digests lie: the first of them on its tile's level; in its tile; behind them. -/
def oA (h L I : Nat) : Nat := I * 2 ^ (L % h)
def oF (h L I : Nat) : Nat := oA h L I % 2 ^ h
def oT (h L I : Nat) : Nat := oF h L I + 2 ^ (L % h)
def oX (h L I : Nat) : Nat := oA h L I / 2 ^ h
theorem of_facts {h L I : Nat} (hh : isH h) (hL : L ≤ 48) (hI : (I : Int) < 281474976710656 / 2 ^ L) :
    ∃ r R A P F : Nat, L % h = r ∧ 2 ^ r = R ∧ 2 ^ h = P ∧ oA h L I = A ∧ oF h L I = F ∧ oT h L I = F + R ∧ oX h L I = A / P ∧ r ≤ 7 ∧ R ≤ 128 ∧ 1 ≤ R ∧ A ≤ 281474976710656 ∧ F < P ∧
      (L : Int) % (h : Int) = (r : Int) ∧ (I : Int) * 2 ^ r = (A : Int) ∧ (A : Int) % (P : Int) = (F : Int) ∧ (A : Int) / 2 ^ h = ((A / P : Nat) : Int) ∧ (A : Int) / (P : Int) = ((A / P : Nat) : Int) ∧ wrap64 (2 ^ r) = (R : Int) ∧ (L : Int) / (h : Int) = ((L / h : Nat) : Int) ∧ ((L : Int) ≤ 48 ∧ (r : Int) ≤ 7 ∧ (A : Int) ≤ 281474976710656 ∧ (F : Int) < (P : Int) ∧ (R : Int) ≤ 128 ∧ A / P ≤ 281474976710656 ∧ L / h ≤ 48 ∧ I < 281474976710656) := by
  have hb := leaf_bd hL hI
  have hr : L % h ≤ 7 := by have := Nat.mod_lt L (show 0 < h by have := hh.1; omega); have := hh.2; omega
  have hR := Nat.pow_le_pow_right (n := 2) (by decide) hr
  have hA : I * 2 ^ (L % h) ≤ 281474976710656 := by
    have h1 : 2 ^ (L % h) ≤ 2 ^ L := Nat.pow_le_pow_right (by decide) (Nat.mod_le _ _)
    have h2 := Nat.mul_le_mul_left I h1
    have h3 := hb.1
    generalize I * 2 ^ (L % h) = x at *
    generalize I * 2 ^ L = y at *
    generalize 2 ^ L = z at *
    exact Nat.le_trans h2 (Nat.le_trans (Nat.le_add_right _ _) h3)
  refine ⟨L % h, 2 ^ (L % h), oA h L I, 2 ^ h, oF h L I, rfl, rfl, rfl, rfl, rfl, rfl, rfl, hr, hR, Nat.two_pow_pos _, hA, Nat.mod_lt _ (Nat.two_pow_pos _), ?_, ?_, ?_, ?_, ?_, ?_, ?_, Int.ofNat_le.2 hL, Int.ofNat_le.2 hr, Int.ofNat_le.2 hA, Int.ofNat_lt.2 (Nat.mod_lt _ (Nat.two_pow_pos _)), Int.ofNat_le.2 hR, Nat.le_trans (Nat.div_le_self _ _) hA, Nat.le_trans (Nat.div_le_self _ _) hL, hb.2⟩
  · rw [Int.natCast_emod]
  · unfold oA; rw [Int.natCast_mul, Int.natCast_pow]; rfl
  · unfold oF; rw [Int.natCast_emod]
  · exact pow_int _ _
  · rw [Int.natCast_ediv]
  · have e : ((2 : Int) ^ (L % h)) = ((2 ^ (L % h) : Nat) : Int) := by simp [Int.natCast_pow]
    have h0 := Nat.two_pow_pos (L % h)
    rw [e]
    generalize 2 ^ (L % h) = x at *
    exact w64 _ (by omega) (by omega)
  · rw [Int.natCast_ediv]
theorem results_w4 {fn : Func} {p u v x : Tmp} {T : TypeId} (h : fn.results = #[.cell p T, .tmp u, .tmp v, .tmp x]) {n : Nat} (hT : Wide T n) (tmps : Array Value) (w : World)
    {g : Nat} {t : TypeId} {cs : List Value} (hp : tmps.getD p undef = .pointer (some ⟨g, 0, none⟩)) (hg : Blk w g t cs) (hl : cs.length = n) :
    (results fn tmps).run Tryz.prog w = .ok (.tuple #[.agg cs.toArray, tmps.getD u undef, tmps.getD v undef, tmps.getD x undef]) w := by
  have hp' : tmps[p]?.getD undef = .pointer (some ⟨g, 0, none⟩) := by simpa using hp
  obtain ⟨d, hu, hd⟩ := hT.und
  simp [results, h, hp', asAddr, run_loadVar_mid w g 0 T cs d (hg.range 0 cs (by simp)) hu hd (by rw [hT.size, hl])]
/-- What Of tells of a node that may be. -/
def oV (h L I : Nat) : Value := .tuple #[.agg (c4 (h : Int) (L / h : Nat) (oX h L I : Nat) (oT h L I : Nat)).toArray, .int .i64 (oF h L I : Nat), .int .i64 (oT h L I : Nat), .int .i64 0]
def oN : Value := .tuple #[.agg (c4 0 0 0 0).toArray, .int .i64 0, .int .i64 0, .int .i64 2]
end Go.Proofs.YtlgcjdgcgnlcaaaGreatDoor
