/- What Put made Get reads: without the short bytes' texts. -/
import Derived.Test.YtpmhjmbiiihfoaaDoorGet
namespace Go.Proofs.YtpmhjmbiiihfoaaDoor
open Go.RowKit
set_option linter.unusedSimpArgs false
set_option linter.unusedVariables false

theorem val_bytes (n : Int) (m : Nat) : val 256 ((List.range m).map (byteAt n)) = n % 2 ^ (8 * m) := by
  induction m with
  | zero => simp [val, Int.emod_one]
  | succ m ih =>
    rw [List.range_succ, List.map_append, List.map_cons, List.map_nil, val_snoc, ih, List.length_map, List.length_range, ← pow256]
    unfold byteAt
    have hp : (0 : Int) < 2 ^ (8 * m) := Int.pow_pos (by omega)
    rw [show 8 * (m + 1) = 8 * m + 8 by omega, Int.pow_add]
    generalize (2 : Int) ^ (8 * m) = p at *
    have h1 := Int.emod_add_mul_ediv n p
    have h2 := Int.emod_nonneg n (show p ≠ 0 by omega)
    have h3 := Int.emod_lt_of_pos n hp
    generalize hq : n / p = q at *
    generalize hr : n % p = r at *
    have h4 : q = q % 256 + 256 * (q / 256) := by omega
    generalize hd : q % 256 = d at *
    have hd1 : 0 ≤ d ∧ d < 256 := by omega
    have e : n = (r + p * d) + p * 256 * (q / 256) := by
      have : p * q = p * d + p * 256 * (q / 256) := by conv => lhs; rw [h4, Int.mul_add, ← Int.mul_assoc]
      omega
    have h5 : p * (d + 1) ≤ p * 256 := Int.mul_le_mul_of_nonneg_left (by omega) (by omega)
    rw [Int.mul_add, Int.mul_one] at h5
    have h6 : 0 ≤ p * d := Int.mul_nonneg (by omega) hd1.1
    have e8 : (2 : Int) ^ 8 = 256 := by decide
    rw [e8, e, Int.add_mul_emod_self_left, Int.emod_eq_of_lt (by omega) (by omega)]

theorem get_put (n : Int) (h1 : -9223372036854775808 ≤ n) (h2 : n ≤ 9223372036854775807) : getVal (bytesOf n) = n := by
  rw [getVal_is (by simp [bytesOf]), bytesOf, val_bytes]
  unfold wrap64
  omega
end Go.Proofs.YtpmhjmbiiihfoaaDoor
