/-
  octet, ported from round 1 (Grp).
-/
import Derived.Test.YtgfmncgdajhmfaaOUnb
namespace Go.Proofs.Ytgfmncgdajhmfaa
open Go.RowKit
set_option linter.unusedVariables false

/-- The digit of a number below 64. -/
def sx (y : Int) : Int := ((b64L.getD y.toNat 0).toNat : Int)

theorem sx_fin : ∀ i : Fin 64, ((({ data := #[65, 66, 67, 68, 69, 70, 71, 72, 73, 74, 75, 76, 77, 78, 79, 80, 81, 82, 83, 84, 85, 86, 87, 88, 89, 90, 97, 98, 99, 100, 101, 102, 103, 104, 105, 106, 107, 108, 109, 110, 111, 112, 113, 114, 115, 116, 117, 118, 119, 120, 121, 122, 48, 49, 50, 51, 52, 53, 54, 55, 56, 57, 43, 47] } : ByteArray)[i.val]'i.isLt).toNat : Int) = sx (i.val : Int) := by decide +kernel
theorem sx_get (y : Int) (h0 : 0 ≤ y) (h1 : y < 64) (hp : y.toNat < ({ data := #[65, 66, 67, 68, 69, 70, 71, 72, 73, 74, 75, 76, 77, 78, 79, 80, 81, 82, 83, 84, 85, 86, 87, 88, 89, 90, 97, 98, 99, 100, 101, 102, 103, 104, 105, 106, 107, 108, 109, 110, 111, 112, 113, 114, 115, 116, 117, 118, 119, 120, 121, 122, 48, 49, 50, 51, 52, 53, 54, 55, 56, 57, 43, 47] } : ByteArray).size) :
    ((({ data := #[65, 66, 67, 68, 69, 70, 71, 72, 73, 74, 75, 76, 77, 78, 79, 80, 81, 82, 83, 84, 85, 86, 87, 88, 89, 90, 97, 98, 99, 100, 101, 102, 103, 104, 105, 106, 107, 108, 109, 110, 111, 112, 113, 114, 115, 116, 117, 118, 119, 120, 121, 122, 48, 49, 50, 51, 52, 53, 54, 55, 56, 57, 43, 47] } : ByteArray)[y.toNat]'hp).toNat : Int) = sx y := by
  obtain ⟨n, rfl⟩ := Int.eq_ofNat_of_zero_le h0
  exact sx_fin ⟨n, by omega⟩
theorem sx_bd (y : Int) : 0 ≤ sx y ∧ sx y ≤ 255 := by
  unfold sx
  have := (b64L.getD y.toNat 0).toNat_lt
  omega

/-- The four digits of a number of 24 bits that stands for n bytes. -/
def four (V : Int) (n : Nat) : List Int := [sx (V / 262144 % 64), sx (V / 4096 % 64), if 2 ≤ n then sx (V / 64 % 64) else 61, if 3 ≤ n then sx (V % 64) else 61]
/-- The number that up to three bytes stand for. -/
def num (c : List Int) : Int := c.getD 0 0 * 65536 + c.getD 1 0 * 256 + c.getD 2 0

theorem and63 (x : Int) (h0 : 0 ≤ x) (h1 : x < 4294967296) : bits BinOp.and IntKind.u32 x 63 = x % 64 := by
  rw [u32_and _ _ h0 h1 (by omega) (by omega)]
  have e : (63 : Int).toNat = 63 := rfl
  rw [e, nat_mask6]; omega
theorem or_a (x : Int) (h0 : 0 ≤ x) (h1 : x < 4294967296) : bits BinOp.or IntKind.u32 0 x = x := by
  rw [u32_or _ _ (by omega) (by omega) h0 h1]; simp; omega
theorem or_b (x y : Int) (h0 : 0 ≤ x) (h1 : x ≤ 255) (h2 : 0 ≤ y) (h3 : y ≤ 255) : bits BinOp.or IntKind.u32 (x * 65536) (y * 256) = x * 65536 + y * 256 := by
  rw [u32_or _ _ (by omega) (by omega) (by omega) (by omega), nat_join 16 _ _ (by omega) (by omega)]; omega
theorem or_c (x y z : Int) (h0 : 0 ≤ x) (h1 : x ≤ 255) (h2 : 0 ≤ y) (h3 : y ≤ 255) (h4 : 0 ≤ z) (h5 : z ≤ 255) : bits BinOp.or IntKind.u32 (x * 65536 + y * 256) z = x * 65536 + y * 256 + z := by
  rw [u32_or _ _ (by omega) (by omega) (by omega) (by omega), nat_join 8 _ _ (by omega) (by omega)]; omega

set_option maxRecDepth 100000 in
set_option maxHeartbeats 2000000 in
theorem group1 (b off cap : Nat) (c0 : Int) (w : World) (h0 : w.cell? ⟨b, off, none⟩ = some (.int .u8 c0)) (b0 : 0 ≤ c0 ∧ c0 ≤ 255) :
    Calls Try.prog 23 #[.slice (some ⟨b, off, none⟩) 1 cap] w fun e w' => e = .returned (.agg (bs (four (c0 * 65536) 1))) ∧ Below w.heap.size w w' := by
  have hbl : b < w.heap.size := World.block_lt_of_cell? w _ h0
  have o0 := or_a (c0 * 65536) (by omega) (by omega)
  go_enter Try.func23, Try.ntmps23
  go_wp2
  refine wp_loop_rounds 2 ?_
  rw [rounds_succ]
  go_wp2
  rw [rounds_succ]
  go_wp2
  obtain ⟨V, hV⟩ : ∃ V, V = c0 * 65536 := ⟨_, rfl⟩
  have v0 : 0 ≤ V := by omega
  have v1 : V < 16777216 := by omega
  rw [← hV]
  have HV := hide hV
  clear hV o0
  have a0 := and63 (V / 262144) (by omega) (by omega)
  have q0 := sx_get (V / 262144 % 64) (by omega) (by omega) (by show _ < 64; omega)
  have a1 := and63 (V / 4096) (by omega) (by omega)
  have q1 := sx_get (V / 4096 % 64) (by omega) (by omega) (by show _ < 64; omega)
  refine wp_loop_rounds 3 ?_
  rw [rounds_succ]
  go_wp2
  rw [rounds_succ]
  go_wp2
  rw [rounds_succ]
  go_wp2
  refine bodyPost_ret (v := .agg #[.int .u8 (sx (V / 262144 % 64)), .int .u8 (sx (V / 4096 % 64)), .int .u8 61, .int .u8 61]) (by simp [results, Try.results23, go_sem]) rfl ⟨?_, ?_⟩
  · rw [← HV.out]
    rfl
  · exact ((Below.refl _ _).alloc (Nat.le_refl _) _).alloc (by simp) _

set_option maxRecDepth 100000 in
set_option maxHeartbeats 2000000 in
theorem group2 (b off cap : Nat) (c0 c1 : Int) (w : World) (h0 : w.cell? ⟨b, off, none⟩ = some (.int .u8 c0)) (b0 : 0 ≤ c0 ∧ c0 ≤ 255) (h1 : w.cell? ⟨b, off + 1, none⟩ = some (.int .u8 c1)) (b1 : 0 ≤ c1 ∧ c1 ≤ 255) :
    Calls Try.prog 23 #[.slice (some ⟨b, off, none⟩) 2 cap] w fun e w' => e = .returned (.agg (bs (four (c0 * 65536 + c1 * 256) 2))) ∧ Below w.heap.size w w' := by
  have hbl : b < w.heap.size := World.block_lt_of_cell? w _ h0
  have o0 := or_a (c0 * 65536) (by omega) (by omega)
  have o1 := or_b c0 c1 (by omega) (by omega) (by omega) (by omega)
  go_enter Try.func23, Try.ntmps23
  go_wp2
  refine wp_loop_rounds 3 ?_
  rw [rounds_succ]
  go_wp2
  rw [rounds_succ]
  go_wp2
  rw [rounds_succ]
  go_wp2
  obtain ⟨V, hV⟩ : ∃ V, V = c0 * 65536 + c1 * 256 := ⟨_, rfl⟩
  have v0 : 0 ≤ V := by omega
  have v1 : V < 16777216 := by omega
  rw [← hV]
  have HV := hide hV
  clear hV o0 o1
  have a0 := and63 (V / 262144) (by omega) (by omega)
  have q0 := sx_get (V / 262144 % 64) (by omega) (by omega) (by show _ < 64; omega)
  have a1 := and63 (V / 4096) (by omega) (by omega)
  have q1 := sx_get (V / 4096 % 64) (by omega) (by omega) (by show _ < 64; omega)
  have a2 := and63 (V / 64) (by omega) (by omega)
  have q2 := sx_get (V / 64 % 64) (by omega) (by omega) (by show _ < 64; omega)
  refine wp_loop_rounds 4 ?_
  rw [rounds_succ]
  go_wp2
  rw [rounds_succ]
  go_wp2
  rw [rounds_succ]
  go_wp2
  rw [rounds_succ]
  go_wp2
  refine bodyPost_ret (v := .agg #[.int .u8 (sx (V / 262144 % 64)), .int .u8 (sx (V / 4096 % 64)), .int .u8 (sx (V / 64 % 64)), .int .u8 61]) (by simp [results, Try.results23, go_sem]) rfl ⟨?_, ?_⟩
  · rw [← HV.out]
    rfl
  · exact ((Below.refl _ _).alloc (Nat.le_refl _) _).alloc (by simp) _

set_option maxRecDepth 100000 in
set_option maxHeartbeats 2000000 in
theorem group3 (b off cap : Nat) (c0 c1 c2 : Int) (w : World) (h0 : w.cell? ⟨b, off, none⟩ = some (.int .u8 c0)) (b0 : 0 ≤ c0 ∧ c0 ≤ 255) (h1 : w.cell? ⟨b, off + 1, none⟩ = some (.int .u8 c1)) (b1 : 0 ≤ c1 ∧ c1 ≤ 255) (h2 : w.cell? ⟨b, off + 2, none⟩ = some (.int .u8 c2)) (b2 : 0 ≤ c2 ∧ c2 ≤ 255) :
    Calls Try.prog 23 #[.slice (some ⟨b, off, none⟩) 3 cap] w fun e w' => e = .returned (.agg (bs (four (c0 * 65536 + c1 * 256 + c2) 3))) ∧ Below w.heap.size w w' := by
  have hbl : b < w.heap.size := World.block_lt_of_cell? w _ h0
  have o0 := or_a (c0 * 65536) (by omega) (by omega)
  have o1 := or_b c0 c1 (by omega) (by omega) (by omega) (by omega)
  have o2 := or_c c0 c1 c2 (by omega) (by omega) (by omega) (by omega) (by omega) (by omega)
  go_enter Try.func23, Try.ntmps23
  go_wp2
  refine wp_loop_rounds 4 ?_
  rw [rounds_succ]
  go_wp2
  rw [rounds_succ]
  go_wp2
  rw [rounds_succ]
  go_wp2
  rw [rounds_succ]
  go_wp2
  obtain ⟨V, hV⟩ : ∃ V, V = c0 * 65536 + c1 * 256 + c2 := ⟨_, rfl⟩
  have v0 : 0 ≤ V := by omega
  have v1 : V < 16777216 := by omega
  rw [← hV]
  have HV := hide hV
  clear hV o0 o1 o2
  have a0 := and63 (V / 262144) (by omega) (by omega)
  have q0 := sx_get (V / 262144 % 64) (by omega) (by omega) (by show _ < 64; omega)
  have a1 := and63 (V / 4096) (by omega) (by omega)
  have q1 := sx_get (V / 4096 % 64) (by omega) (by omega) (by show _ < 64; omega)
  have a2 := and63 (V / 64) (by omega) (by omega)
  have q2 := sx_get (V / 64 % 64) (by omega) (by omega) (by show _ < 64; omega)
  have a3 := and63 (V) (by omega) (by omega)
  have q3 := sx_get (V % 64) (by omega) (by omega) (by show _ < 64; omega)
  refine wp_loop_rounds 5 ?_
  rw [rounds_succ]
  go_wp2
  rw [rounds_succ]
  go_wp2
  rw [rounds_succ]
  go_wp2
  rw [rounds_succ]
  go_wp2
  rw [rounds_succ]
  go_wp2
  refine bodyPost_ret (v := .agg #[.int .u8 (sx (V / 262144 % 64)), .int .u8 (sx (V / 4096 % 64)), .int .u8 (sx (V / 64 % 64)), .int .u8 (sx (V % 64))]) (by simp [results, Try.results23, go_sem]) rfl ⟨?_, ?_⟩
  · rw [← HV.out]
    rfl
  · exact ((Below.refl _ _).alloc (Nat.le_refl _) _).alloc (by simp) _

end Go.Proofs.Ytgfmncgdajhmfaa
