import Derived.Test.YtcfpjbbahpjhdaaZag
import Derived.Test.YtcfpjbbahpjhdaaNumber
import Derived.Test.YtcfpjbbahpjhdaaSh
namespace Go.Proofs.Ytcfpjbbahpjhdaa
open Go.RowKit

/-- Bits are told by the number that they come to. -/
theorem bits_unique : ∀ l : List Int, (∀ x ∈ l, 0 ≤ x ∧ x < 2) → l = bitsTo (val 2 l) l.length
  | [], _ => rfl
  | x :: l, h => by
    obtain ⟨h1, h2⟩ := h x List.mem_cons_self
    have ih := bits_unique l fun y hy => h y (List.mem_cons_of_mem _ hy)
    have hv := (val_range 2 (by omega) l fun y hy => h y (List.mem_cons_of_mem _ hy)).1
    apply List.ext_getElem (by simp [bitsTo])
    intro i h3 h4
    simp only [bitsTo, List.getElem_map, List.getElem_range, val_cons]
    rcases i with _ | i
    · simp; omega
    · simp only [List.getElem_cons_succ]
      have e : (x + 2 * val 2 l) / 2 ^ (i + 1) = val 2 l / 2 ^ i := by
        rw [show i + 1 = 1 + i by omega, ← pow_ediv, show (x + 2 * val 2 l) / 2 ^ 1 = val 2 l by simp; omega]
      rw [e]
      have hi : i < l.length := by simpa using h3
      have : l[i] = (bitsTo (val 2 l) l.length)[i]'(by rw [bitsTo_length]; exact hi) := by
        congr 1
      rw [this]
      simp [bitsTo]


theorem numOf_bits (n : Int) (h1 : -9223372036854775808 ≤ n) (h2 : n ≤ 9223372036854775807) : numOf (bitsTo n 64) = n := by
  rw [numOf_val _ (bitsTo_length n 64) (bits_bit n 64), val_bits]
  unfold wrap64
  omega
theorem back_range {t : Int} (h1 : 0 ≤ t) (h2 : t < 18446744073709551616) : -9223372036854775808 ≤ back t ∧ back t ≤ 9223372036854775807 := by
  unfold back; split <;> omega
theorem turned_back {t : Int} (h1 : 0 ≤ t) : turned (back t) = t := by
  unfold back
  split
  · rw [turned_lo (by omega)]; omega
  · rw [turned_hi (by omega)]; omega
/-- The bits of the number, by those of its turned one. -/
theorem back_bit_odd {t : Int} (k : Nat) (h0 : 0 ≤ t) (h : t % 2 = 1) : back t / 2 ^ k % 2 = 1 - t / 2 ^ (k + 1) % 2 := by
  have := turned_bit_neg (back t) k (by rw [back_odd h]; omega)
  rw [turned_back h0] at this
  omega
theorem back_bit_even {t : Int} (k : Nat) (h0 : 0 ≤ t) (h : t % 2 = 0) : back t / 2 ^ k % 2 = t / 2 ^ (k + 1) % 2 := by
  have := turned_bit_pos (back t) k (by rw [back_even h]; omega)
  rw [turned_back h0] at this
  omega
theorem back_bit_last {t : Int} (h0 : 0 ≤ t) (h1 : t < 18446744073709551616) : back t / 2 ^ 63 % 2 = t % 2 := by
  obtain ⟨b1, b2⟩ := back_range h0 h1
  have := turned_bit0 (back t) b1 b2
  rw [turned_back h0] at this
  simpa using this.symm

/-- The seven bits of each digit, ten digits. -/
def pad10 (b : List Int) (s : Nat) : List Int := digs b s ++ List.replicate (10 - s) 0
theorem pad10_length (b : List Int) (s : Nat) (h : s ≤ b.length) (h1 : s ≤ 10) : (pad10 b s).length = 10 := by simp [pad10, digs_length h]; omega
theorem val_zeros (x : Int) (k : Nat) : val x (List.replicate k 0) = 0 := by
  induction k with
  | zero => rfl
  | succ k ih => rw [List.replicate_succ, val_cons, ih]; omega
theorem pad10_val (b : List Int) (s : Nat) : val 128 (pad10 b s) = val 128 (digs b s) := by rw [pad10, val_append, val_zeros]; omega
theorem pad10_range (b : List Int) (s : Nat) : ∀ x ∈ pad10 b s, 0 ≤ x ∧ x < 128 := by
  intro x hx
  rcases List.mem_append.1 hx with h | h
  · exact digs_range b s x h
  · have := (List.mem_replicate.1 h).2; omega
theorem val_bits7 (x : Int) (h : 0 ≤ x ∧ x < 128) : val 2 (bitsTo x 7) = x := by
  rw [val_bits]; exact Int.emod_eq_of_lt h.1 h.2
theorem flat7_val (l : List Int) (h : ∀ x ∈ l, 0 ≤ x ∧ x < 128) : val 2 (l.flatMap fun x => bitsTo x 7) = val 128 l := by
  induction l with
  | nil => rfl
  | cons x l ih =>
    rw [List.flatMap_cons, val_append, val_bits7 x (h x List.mem_cons_self), ih fun y hy => h y (List.mem_cons_of_mem _ hy), bitsTo_length, val_cons]
    rfl
theorem flat7_len (l : List Int) : (l.flatMap fun x => bitsTo x 7).length = 7 * l.length := by
  induction l with
  | nil => rfl
  | cons x l ih => rw [List.flatMap_cons, List.length_append, ih, bitsTo_length, List.length_cons]; omega
theorem flat7_bit (l : List Int) : ∀ x ∈ (l.flatMap fun x => bitsTo x 7), 0 ≤ x ∧ x < 2 := by
  intro x hx
  obtain ⟨y, _, hy⟩ := List.mem_flatMap.1 hx
  exact bits_bit y 7 x hy
theorem flat7_is (b : List Int) (s : Nat) (h : s ≤ b.length) (h1 : s ≤ 10) : ((pad10 b s).flatMap fun x => bitsTo x 7) = bitsTo (val 128 (digs b s)) 70 := by
  have := bits_unique _ (flat7_bit (pad10 b s))
  rwa [flat7_val _ (pad10_range b s), pad10_val, flat7_len, pad10_length b s h h1] at this
end Go.Proofs.Ytcfpjbbahpjhdaa
