/- The document's short bytes and turned numbers, as lists; no function of the program is named here. -/
import Derived.Test.YtcfpjbbahpjhdaaVals
namespace Go.Proofs.Ytcfpjbbahpjhdaa
open Go.RowKit

/-- The short bytes of a number, at most f of them. -/
def sh : Nat → Int → List Int
  | 0, _ => []
  | f + 1, n => if n < 128 then [n] else (n % 128 + 128) :: sh f (n / 128)

theorem sh_last (f : Nat) (n : Int) (h : n < 128) : sh (f + 1) n = [n] := by rw [sh, if_pos h]

theorem sh_more (f : Nat) (n : Int) (h : ¬ n < 128) : sh (f + 1) n = (n % 128 + 128) :: sh f (n / 128) := by rw [sh, if_neg h]

/-- A number's turned one. -/
def turned (n : Int) : Int := if n < 0 then -2 * n - 1 else 2 * n

theorem turned_lo {n : Int} (h : n < 0) : turned n = -2 * n - 1 := by rw [turned, if_pos h]

theorem turned_hi {n : Int} (h : ¬ n < 0) : turned n = 2 * n := by rw [turned, if_neg h]

theorem turned_range {n : Int} (h1 : -9223372036854775808 ≤ n) (h2 : n ≤ 9223372036854775807) : 0 ≤ turned n ∧ turned n < 18446744073709551616 := by
  unfold turned; split <;> omega

theorem sh_len : ∀ (f : Nat) (n : Int), (sh f n).length ≤ f
  | 0, _ => by simp [sh]
  | f + 1, n => by
    unfold sh
    split
    · simp
    · simp [sh_len f]
theorem pow_ediv (n : Int) (a b : Nat) : n / 2 ^ a / 2 ^ b = n / 2 ^ (a + b) := by
  rw [Int.pow_add, Int.ediv_ediv_of_nonneg (Int.le_of_lt (Int.pow_pos (by omega)))]
theorem turned_bit0 (n : Int) (h1 : -9223372036854775808 ≤ n) (h2 : n ≤ 9223372036854775807) : turned n / 2 ^ 0 % 2 = n / 2 ^ 63 % 2 := by
  unfold turned; split <;> simp <;> omega
theorem not_ediv (n : Int) (k : Nat) : (-n - 1) / 2 ^ k = -(n / 2 ^ k) - 1 := by
  have hp : (0 : Int) < 2 ^ k := Int.pow_pos (by omega)
  generalize (2 : Int) ^ k = p at hp
  have h1 := Int.emod_add_mul_ediv n p
  have h2 := Int.emod_nonneg n (show p ≠ 0 by omega)
  have h3 := Int.emod_lt_of_pos n hp
  have e : -n - 1 = (p - 1 - n % p) + p * (-(n / p) - 1) := by rw [Int.mul_sub, Int.mul_neg]; omega
  rw [e, Int.add_mul_ediv_left _ _ (by omega), Int.ediv_eq_zero_of_lt (by omega) (by omega)]
  omega
theorem turned_bit_neg (n : Int) (k : Nat) (h : n < 0) : turned n / 2 ^ (k + 1) % 2 = 1 - n / 2 ^ k % 2 := by
  rw [turned_lo h, show k + 1 = 1 + k by omega, ← pow_ediv, show (-2 * n - 1) / 2 ^ 1 = -n - 1 by simp; omega, not_ediv]
  omega
theorem turned_bit_pos (n : Int) (k : Nat) (h : ¬ n < 0) : turned n / 2 ^ (k + 1) % 2 = n / 2 ^ k % 2 := by
  rw [turned_hi h, show k + 1 = 1 + k by omega, ← pow_ediv, show (2 * n) / 2 ^ 1 = n by simp]
end Go.Proofs.Ytcfpjbbahpjhdaa
