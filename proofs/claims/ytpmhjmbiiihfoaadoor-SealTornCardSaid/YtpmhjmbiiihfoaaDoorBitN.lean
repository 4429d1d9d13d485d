/- Numbers as rows of bits: plain lemmas; no program is named here. -/
import Derived.Test.YtpmhjmbiiihfoaaDoorCrc
namespace Go.Proofs.YtpmhjmbiiihfoaaDoor
open Go.RowKit

/-- The first k of m places as g says, the others as f does. -/
def mixTo (g f : Nat → Int) (m k : Nat) : List Int := (List.range m).map fun i => if i < k then g i else f i
theorem mixTo_zero (g f : Nat → Int) (m : Nat) : mixTo g f m 0 = (List.range m).map f := by
  apply List.ext_getElem (by simp [mixTo])
  intro i h1 h2
  simp [mixTo]
theorem mixTo_full (g f : Nat → Int) (m : Nat) : mixTo g f m m = (List.range m).map g := by
  apply List.ext_getElem (by simp [mixTo])
  intro i h1 h2
  simp [mixTo] at h1 ⊢
  intro h; omega
theorem mixTo_set (g f : Nat → Int) (m k : Nat) : (mixTo g f m k).set k (g k) = mixTo g f m (k + 1) := by
  apply List.ext_getElem (by simp [mixTo])
  intro i h1 h2
  simp [mixTo] at h1 ⊢
  rw [List.getElem_set]
  split
  · subst_vars; simp
  · simp
    by_cases h : i < k
    · rw [if_pos h, if_pos (by omega)]
    · rw [if_neg h, if_neg (by omega)]
theorem mixTo_at (g f : Nat → Int) {m k i : Nat} (hi : i < m) (hk : k ≤ i) : (mixTo g f m k)[i]? = some (f i) := by
  simp [mixTo, hi]; omega

def bitN (c j : Nat) : Int := ((c / 2 ^ j % 2 : Nat) : Int)
/-- A number's 32 bits, the lowest first. -/
def bl (c : Nat) : List Int := (List.range 32).map (bitN c)
theorem bit_range (c j : Nat) : 0 ≤ bitN c j ∧ bitN c j < 2 := by unfold bitN; omega
theorem bl_length (c : Nat) : (bl c).length = 32 := by simp [bl]
theorem bl_at (c : Nat) {i : Nat} (hi : i < 32) : (bl c)[i]? = some (bitN c i) := by simp [bl, hi]

theorem bit_xor (a b j : Nat) : bitN (a ^^^ b) j = (bitN a j + bitN b j) % 2 := by
  have h : (a ^^^ b) / 2 ^ j = a / 2 ^ j ^^^ b / 2 ^ j := by rw [← Nat.shiftRight_eq_div_pow, ← Nat.shiftRight_eq_div_pow, ← Nat.shiftRight_eq_div_pow, Nat.shiftRight_xor_distrib]
  unfold bitN
  rw [h, xor_mod_two]
  omega
theorem bit_half (d j : Nat) : bitN (d / 2) j = bitN d (j + 1) := by
  unfold bitN
  rw [Nat.div_div_eq_div_mul, Nat.pow_succ, Nat.mul_comm]
theorem bit_high {c j m : Nat} (h : c < 2 ^ m) (hj : m ≤ j) : bitN c j = 0 := by
  unfold bitN
  rw [Nat.div_eq_of_lt (Nat.lt_of_lt_of_le h (Nat.pow_le_pow_right (by omega) hj))]; rfl
theorem bit_zero_num (j : Nat) : bitN 0 j = 0 := by unfold bitN; simp
theorem bit_low (c : Nat) : bitN c 0 = ((c % 2 : Nat) : Int) := by unfold bitN; simp

/-- A byte turned into the lowest eight bits. -/
theorem bl_byte (c x : Nat) (hx : x < 256) : mixTo (fun i => (bitN c i + bitN x i) % 2) (bitN c) 32 8 = bl (c ^^^ x) := by
  apply List.ext_getElem (by simp [mixTo, bl])
  intro i h1 h2
  simp [mixTo] at h1
  simp only [mixTo, bl, List.getElem_map, List.getElem_range, bit_xor]
  split
  · rfl
  · rw [bit_high (c := x) (m := 8) hx (by omega)]
    have := bit_range c i
    omega
/-- All bits one place down. -/
theorem bl_down (d : Nat) (hd : d < 4294967296) : (mixTo (fun i => bitN d (i + 1)) (bitN d) 32 31).set 31 0 = bl (d / 2) := by
  apply List.ext_getElem (by simp [mixTo, bl])
  intro i h1 h2
  simp [mixTo] at h1
  rw [List.getElem_set]
  simp only [mixTo, bl, List.getElem_map, List.getElem_range, bit_half]
  split
  · subst_vars
    exact (bit_high (m := 32) hd (by omega)).symm
  · rw [if_pos (by omega)]
theorem bl_turn (d : Nat) (ho : d % 2 = 1) : mixTo (fun i => (bitN (d / 2) i + bitN poly i) % 2) (bitN (d / 2)) 32 32 = bl (half d) := by
  rw [mixTo_full]
  unfold bl half
  rw [if_pos ho]
  apply List.map_congr_left
  intro i _
  rw [bit_xor]
theorem bl_stay (d : Nat) (ho : d % 2 = 0) : bl (d / 2) = bl (half d) := by
  unfold half
  rw [if_neg (by omega), Nat.xor_zero]
theorem bit_ones {j : Nat} (hj : j < 32) : bitN ones j = 1 := by
  have : ∀ j < 32, bitN ones j = 1 := by decide
  exact this j hj
theorem bl_ones (k : Nat) : mixTo (fun i => 1 - bitN k i) (bitN k) 32 32 = bl (ones ^^^ k) := by
  rw [mixTo_full]
  unfold bl
  apply List.map_congr_left
  intro i hi
  rw [bit_xor, bit_ones (by simpa using hi)]
  have := bit_range k i
  omega
theorem bl_start : List.replicate 32 (1 : Int) = bl ones := by decide

theorem val_map (f : Nat → Int) (c : Nat) (hf : ∀ j, f j = bitN c j) : ∀ m, val 2 ((List.range m).map f) = ((c % 2 ^ m : Nat) : Int) := by
  intro m
  induction m with
  | zero => simp [val, Nat.mod_one]
  | succ m ih =>
    rw [List.range_succ, List.map_append, List.map_cons, List.map_nil, val_snoc, ih, List.length_map, List.length_range, hf]
    unfold bitN
    rw [Nat.pow_succ, Nat.mod_mul]
    push_cast
    rfl
theorem val_bl {c : Nat} (h : c < 4294967296) : val 2 (bl c) = (c : Int) := by
  unfold bl
  rw [val_map (bitN c) c (fun _ => rfl) 32, Nat.mod_eq_of_lt h]

/-- Eight steps, one by one. -/
def halves : Nat → Nat → Nat
  | 0, c => c
  | r + 1, c => half (halves r c)
theorem halves_eight (c : Nat) : halves 8 c = half8 c := rfl
theorem halves_lt {c : Nat} (h : c < 4294967296) : ∀ r, halves r c < 4294967296
  | 0 => h
  | r + 1 => half_lt (halves_lt h r)
end Go.Proofs.YtpmhjmbiiihfoaaDoor
