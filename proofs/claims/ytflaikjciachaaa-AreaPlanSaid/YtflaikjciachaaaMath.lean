/- Plain lemmas on numbers: no program is named here. -/
import Derived.WalkKit
namespace Go.Proofs.Ytflaikjciachaaa
set_option maxRecDepth 100000
open Go.RowKit
set_option linter.unusedSimpArgs false
set_option linter.unusedVariables false

theorem half_pow (n : Int) (i : Nat) : n / 2 ^ i / 2 = n / 2 ^ (i + 1) := by
  rw [Int.pow_succ, Int.ediv_ediv_of_nonneg (Int.le_of_lt (Int.pow_pos (by omega)))]

theorem tdiv_two {q : Int} (h : q < 0) : q.tdiv 2 = -((-q) / 2) := by
  have : q = -(-q) := by omega
  conv => lhs; rw [this, Int.neg_tdiv, Int.tdiv_eq_ediv_of_nonneg (by omega)]
theorem tmod_two {q : Int} (h : q < 0) : q.tmod 2 = -((-q) % 2) := by
  have : q = -(-q) := by omega
  conv => lhs; rw [this, Int.neg_tmod, Int.tmod_eq_emod_of_nonneg (by omega)]

theorem bit_odd {q : Int} (h : q < 0) (h1 : -9223372036854775808 ≤ q) (ho : (q.tmod 2 != 0) = true) : wrap64 ((wrap64 (q - 1)).tdiv 2) = q / 2 := by
  rw [tmod_two h] at ho
  simp at ho
  have e : wrap64 (q - 1) = q - 1 := IntWalk.wrap64_in _ ⟨by omega, by omega⟩
  rw [e, tdiv_two (by omega), IntWalk.wrap64_in _ ⟨by omega, by omega⟩]
  omega
theorem bit_even {q : Int} (h : q < 0) (ho : (q.tmod 2 != 0) = false) : q.tdiv 2 = q / 2 := by
  rw [tmod_two h] at ho
  simp at ho
  rw [tdiv_two h]
  omega
theorem bit_zero {q : Int} (h : (q.tmod 2 == 0) = true) : q % 2 = 0 := by
  rcases (show q < 0 ∨ 0 ≤ q by omega) with hq | hq
  · rw [tmod_two hq] at h; simp at h; omega
  · rw [Int.tmod_eq_emod_of_nonneg hq] at h; simpa using h
theorem bit_one {q : Int} (h : (q.tmod 2 == 0) = false) : q % 2 = 1 := by
  rcases (show q < 0 ∨ 0 ≤ q by omega) with hq | hq
  · rw [tmod_two hq] at h; simp at h; omega
  · rw [Int.tmod_eq_emod_of_nonneg hq] at h; simp at h; omega

/-- The first k of m places hold f, the others z. -/
def fillTo {α : Type} (f : Nat → α) (z : α) (m k : Nat) : List α := (List.range m).map fun i => if i < k then f i else z
theorem fillTo_length {α : Type} (f : Nat → α) (z : α) (m k : Nat) : (fillTo f z m k).length = m := by simp [fillTo]
theorem fillTo_zero {α : Type} (f : Nat → α) (z : α) (m : Nat) : fillTo f z m 0 = List.replicate m z := by
  apply List.ext_getElem (by simp [fillTo])
  intro i h1 h2
  simp [fillTo]
theorem fillTo_full {α : Type} (f : Nat → α) (z : α) (m : Nat) : fillTo f z m m = (List.range m).map f := by
  apply List.ext_getElem (by simp [fillTo])
  intro i h1 h2
  simp [fillTo] at h1 ⊢
  intro h; omega
theorem fillTo_set {α : Type} (f : Nat → α) (z : α) (m k : Nat) : (fillTo f z m k).set k (f k) = fillTo f z m (k + 1) := by
  apply List.ext_getElem (by simp [fillTo])
  intro i h1 h2
  simp [fillTo] at h1 ⊢
  rw [List.getElem_set]
  split
  · subst_vars; simp
  · simp
    by_cases h : i < k
    · rw [if_pos h, if_pos (by omega)]
    · rw [if_neg h, if_neg (by omega)]

/-- The number of digits to the base b, the lowest first. -/
def val (b : Int) : List Int → Int
  | [] => 0
  | x :: r => x + b * val b r
theorem val_nil (b : Int) : val b [] = 0 := rfl
theorem val_cons (b x : Int) (r : List Int) : val b (x :: r) = x + b * val b r := rfl
theorem val_append (b : Int) (l r : List Int) : val b (l ++ r) = val b l + b ^ l.length * val b r := by
  induction l with
  | nil => simp [val]
  | cons x l ih => rw [List.cons_append, val_cons, val_cons, ih, List.length_cons, Int.pow_succ, Int.mul_add, Int.add_assoc, ← Int.mul_assoc, Int.mul_comm b (b ^ l.length)]
theorem val_snoc (b x : Int) (l : List Int) : val b (l ++ [x]) = val b l + b ^ l.length * x := by
  rw [val_append]; simp [val]
theorem val_range (b : Int) (hb : 0 < b) (l : List Int) (h : ∀ x ∈ l, 0 ≤ x ∧ x < b) : 0 ≤ val b l ∧ val b l < b ^ l.length := by
  induction l with
  | nil => simp [val]
  | cons x l ih =>
    obtain ⟨h1, h2⟩ := ih fun y hy => h y (List.mem_cons_of_mem _ hy)
    obtain ⟨h3, h4⟩ := h x List.mem_cons_self
    rw [val_cons, List.length_cons, Int.pow_succ]
    refine ⟨Int.add_nonneg h3 (Int.mul_nonneg (by omega) h1), ?_⟩
    have : b * (val b l + 1) ≤ b * b ^ l.length := Int.mul_le_mul_of_nonneg_left (by omega) (by omega)
    rw [Int.mul_add, Int.mul_one] at this
    rw [Int.mul_comm (b ^ l.length) b]
    omega

theorem take_snoc {α : Type} (l : List α) (k : Nat) (u : α) (h : l[k]? = some u) : l.take (k + 1) = l.take k ++ [u] := by
  have hk : k < l.length := (List.getElem?_eq_some_iff.1 h).1
  rw [List.take_succ_eq_append_getElem hk, (List.getElem?_eq_some_iff.1 h).2]
theorem drop_at {α : Type} (l : List α) (k : Nat) (u : α) (h : l[k]? = some u) : l.drop k = u :: l.drop (k + 1) := by
  have hk : k < l.length := (List.getElem?_eq_some_iff.1 h).1
  rw [List.drop_eq_getElem_cons hk, (List.getElem?_eq_some_iff.1 h).2]

/-- A byte of a number that is cut to 64 bits. -/
def byteAt (n : Int) (i : Nat) : Int := n / 2 ^ (8 * i) % 256
theorem byte_of_wrap (n : Int) (k : Nat) (h : k < 8) : IntKind.u64.wrap n / 2 ^ (8 * k) % 256 = byteAt n k := by
  unfold byteAt
  rw [IntKind.wrap_u64]
  rcases (show k = 0 ∨ k = 1 ∨ k = 2 ∨ k = 3 ∨ k = 4 ∨ k = 5 ∨ k = 6 ∨ k = 7 by omega) with rfl | rfl | rfl | rfl | rfl | rfl | rfl | rfl <;> simp <;> omega

/-- m bits of a number from the a-th on, read from the highest down. -/
theorem bits_step (n : Int) (a m : Nat) : 2 * (n / 2 ^ (a + 1) % 2 ^ m) + n / 2 ^ a % 2 = n / 2 ^ a % 2 ^ (m + 1) := by
  rw [← half_pow]
  generalize n / 2 ^ a = q
  have hp : (0 : Int) < 2 ^ m := Int.pow_pos (by omega)
  rw [Int.pow_succ, Int.mul_comm (2 ^ m) 2]
  generalize (2 : Int) ^ m = p at hp
  have h1 := Int.emod_add_mul_ediv (q / 2) p
  have h2 : q = 2 * (q / 2) + q % 2 := by omega
  generalize q / 2 / p = d at h1
  have h3 : 0 ≤ q / 2 % p := Int.emod_nonneg _ (by omega)
  have h4 : q / 2 % p < p := Int.emod_lt_of_pos _ hp
  generalize hr : q / 2 % p = r at *
  generalize hs : q % 2 = s at *
  have hs2 : 0 ≤ s ∧ s < 2 := by omega
  have e : q = (2 * r + s) + (2 * p) * d := by
    rw [h2, ← h1, Int.mul_assoc, Int.mul_add]
    omega
  rw [e, Int.add_mul_emod_self_left, Int.emod_eq_of_lt (by omega) (by omega)]

theorem emod_pow_lt (x : Int) (m k : Nat) (h : m ≤ k) : 0 ≤ x % 2 ^ m ∧ x % 2 ^ m < 2 ^ k := by
  have hp : (0 : Int) < 2 ^ m := Int.pow_pos (by omega)
  have h1 := Int.emod_nonneg x (show (2 : Int) ^ m ≠ 0 by omega)
  have h2 := Int.emod_lt_of_pos x hp
  have h3 : (2 : Int) ^ m ≤ 2 ^ k := by exact_mod_cast Nat.pow_le_pow_right (show 0 < 2 by omega) h
  omega


theorem pow256 (k : Nat) : (2 : Int) ^ (8 * k) = 256 ^ k := by rw [Int.pow_mul]; rfl

/-- One digit more, laid on by 'or': nothing overlaps. -/
theorem or_join (q u : Int) (a d : Nat) (hq : 0 ≤ q) (hq2 : q < 2 ^ a) (hu : 0 ≤ u) (hu2 : u < 2 ^ d) (ha : a + d ≤ 64) :
    bits .or .u64 q (IntKind.u64.wrap (u * 2 ^ a)) = q + u * 2 ^ a ∧ q + u * 2 ^ a < 18446744073709551616 := by
  obtain ⟨x, rfl⟩ := Int.eq_ofNat_of_zero_le hq
  obtain ⟨y, rfl⟩ := Int.eq_ofNat_of_zero_le hu
  have hx : x < 2 ^ a := by exact_mod_cast hq2
  have hy : y < 2 ^ d := by exact_mod_cast hu2
  have h1 : (y + 1) * 2 ^ a ≤ 2 ^ d * 2 ^ a := Nat.mul_le_mul_right _ hy
  have h2 : 2 ^ d * 2 ^ a ≤ 2 ^ 64 := by rw [← Nat.pow_add]; exact Nat.pow_le_pow_right (by omega) (by omega)
  have h3 : (2 : Nat) ^ 64 = 18446744073709551616 := by decide
  rw [Nat.add_mul] at h1
  have e : ((y : Int) * 2 ^ a) = ((y * 2 ^ a : Nat) : Int) := by simp
  rw [e]
  have hz : y * 2 ^ a < 18446744073709551616 := by omega
  have hm : x < 18446744073709551616 := by omega
  rw [IntKind.wrap_u64, show (((y * 2 ^ a : Nat) : Int)) % 18446744073709551616 = ((y * 2 ^ a : Nat) : Int) by omega, u64_or_nat _ _ hm hz, Nat.or_comm, nat_join a (y * 2 ^ a) x (by simp) hx]
  omega

theorem ofInt_max : BitVec.ofInt 64 18446744073709551615 = BitVec.allOnes 64 := by decide
theorem u64_max : IntKind.u64.max = 18446744073709551615 := by decide
/-- All 64 bits the other way. -/
theorem u64_not (x : Int) (h0 : 0 ≤ x) (h1 : x < 18446744073709551616) : bits .xor .u64 IntKind.u64.max x = 18446744073709551615 - x := by
  obtain ⟨y, rfl⟩ := Int.eq_ofNat_of_zero_le h0
  rw [u64_max]
  show IntKind.u64.wrap ((BitVec.ofInt 64 18446744073709551615 ^^^ BitVec.ofInt 64 (y : Int)).toNat : Int) = _
  rw [ofInt_max, BitVec.allOnes_xor, BitVec.toNat_not, ofInt_u64 y (by omega), IntKind.wrap_u64]
  omega

theorem ofInt_ones : BitVec.ofInt 64 (-1) = BitVec.allOnes 64 := by decide
theorem i64_not (x : Int) (h0 : 0 ≤ x) (h1 : x < 9223372036854775808) : bits .xor .i64 (-1) x = -1 - x := by
  obtain ⟨y, rfl⟩ := Int.eq_ofNat_of_zero_le h0
  show IntKind.i64.wrap ((BitVec.ofInt 64 (-1) ^^^ BitVec.ofInt 64 (y : Int)).toNat : Int) = _
  rw [ofInt_ones, BitVec.allOnes_xor, BitVec.toNat_not, ofInt_u64 y (by omega), IntKind.wrap_i64]
  omega

theorem or_join_i (q u : Int) (a d : Nat) (hq : 0 ≤ q) (hq2 : q < 2 ^ a) (hu : 0 ≤ u) (hu2 : u < 2 ^ d) (ha : a + d ≤ 63) :
    bits .or .i64 q (u * 2 ^ a) = q + u * 2 ^ a ∧ q + u * 2 ^ a < 9223372036854775808 ∧ 0 ≤ u * 2 ^ a ∧ u * 2 ^ a < 9223372036854775808 := by
  obtain ⟨x, rfl⟩ := Int.eq_ofNat_of_zero_le hq
  obtain ⟨y, rfl⟩ := Int.eq_ofNat_of_zero_le hu
  have hx : x < 2 ^ a := by exact_mod_cast hq2
  have hy : y < 2 ^ d := by exact_mod_cast hu2
  have h1 : (y + 1) * 2 ^ a ≤ 2 ^ d * 2 ^ a := Nat.mul_le_mul_right _ hy
  have h2 : 2 ^ d * 2 ^ a ≤ 2 ^ 63 := by rw [← Nat.pow_add]; exact Nat.pow_le_pow_right (by omega) (by omega)
  have h3 : (2 : Nat) ^ 63 = 9223372036854775808 := by decide
  rw [Nat.add_mul] at h1
  have e : ((y : Int) * 2 ^ a) = ((y * 2 ^ a : Nat) : Int) := by simp
  rw [e]
  have hz : y * 2 ^ a < 9223372036854775808 := by omega
  have hm : x < 9223372036854775808 := by omega
  have hor : bits .or .i64 (x : Int) ((y * 2 ^ a : Nat) : Int) = ((x + y * 2 ^ a : Nat) : Int) := by
    show IntKind.i64.wrap ((BitVec.ofInt 64 (x : Int) ||| BitVec.ofInt 64 ((y * 2 ^ a : Nat) : Int)).toNat : Int) = _
    rw [BitVec.toNat_or, ofInt_u64 x (by omega), ofInt_u64 _ (by omega), Nat.or_comm, nat_join a (y * 2 ^ a) x (by simp) hx, IntKind.wrap_i64]
    omega
  rw [hor]
  omega

/-- What is shifted to its place and laid on comes back by the shift. -/
theorem shr_back (q u : Int) (a : Nat) (hq : 0 ≤ q) (hq2 : q < 2 ^ a) : (q + u * 2 ^ a) / 2 ^ a = u := by
  have hp : (0 : Int) < 2 ^ a := Int.pow_pos (by omega)
  rw [Int.add_mul_ediv_right _ _ (by omega), Int.ediv_eq_zero_of_lt hq hq2]; omega
end Go.Proofs.Ytflaikjciachaaa
