/- Sums of bits: plain lemmas on numbers; no program is named here. -/
import Derived.Test.YtpmhjmbiiihfoaaDoorMath
namespace Go.Proofs.YtpmhjmbiiihfoaaDoor
open Go.RowKit

def poly : Nat := 3988292384
def half (c : Nat) : Nat := (c / 2) ^^^ (if c % 2 = 1 then poly else 0)
def half8 (c : Nat) : Nat := half (half (half (half (half (half (half (half c)))))))
def lowTab : List Nat := [0, 1996959894, 3993919788, 2567524794, 124634137, 1886057615, 3915621685, 2657392035, 249268274, 2044508324, 3772115230, 2547177864, 162941995, 2125561021, 3887607047, 2428444049]
def upTab : List Nat := [0, 498536548, 997073096, 651767980, 1994146192, 1802195444, 1303535960, 1342533948, 3988292384, 4027552580, 3604390888, 3412177804, 2607071920, 2262029012, 2685067896, 3183342108]

theorem xor_swap (a b c d : Nat) : (a ^^^ b) ^^^ (c ^^^ d) = (a ^^^ c) ^^^ (b ^^^ d) := by
  apply Nat.eq_of_testBit_eq; intro i; simp only [Nat.testBit_xor]; cases a.testBit i <;> cases b.testBit i <;> cases c.testBit i <;> cases d.testBit i <;> rfl

theorem xor_zero_eq {a b : Nat} (h : a ^^^ b = 0) : a = b := by
  have : b = a ^^^ (a ^^^ b) := by rw [← Nat.xor_assoc, Nat.xor_self, Nat.zero_xor]
  rw [this, h, Nat.xor_zero]
theorem xor_cancel {a b x : Nat} (h : a ^^^ x = b ^^^ x) : a = b := by
  apply xor_zero_eq
  have : (a ^^^ x) ^^^ (b ^^^ x) = 0 := by rw [h, Nat.xor_self]
  rw [xor_swap, Nat.xor_self, Nat.xor_zero] at this
  exact this
theorem xor_mod_two (a b : Nat) : (a ^^^ b) % 2 = (a + b) % 2 := by
  have h : (a ^^^ b) % 2 = a % 2 ^^^ b % 2 := Nat.xor_mod_two_pow (n := 1)
  rw [h]
  rcases (show a % 2 = 0 ∨ a % 2 = 1 by omega) with ha | ha <;> rcases (show b % 2 = 0 ∨ b % 2 = 1 by omega) with hb | hb <;> rw [ha, hb] <;> simp <;> omega

theorem half_xor (a b : Nat) : half (a ^^^ b) = half a ^^^ half b := by
  have h : (a ^^^ b) / 2 = a / 2 ^^^ b / 2 := Nat.xor_div_two
  have m : (a ^^^ b) % 2 = (a + b) % 2 := xor_mod_two a b
  unfold half
  rw [h, m, xor_swap]
  congr 1
  rcases (show a % 2 = 0 ∨ a % 2 = 1 by omega) with ha | ha <;> rcases (show b % 2 = 0 ∨ b % 2 = 1 by omega) with hb | hb
  · rw [if_neg (by omega), if_neg (by omega), if_neg (by omega)]; rfl
  · rw [if_pos (by omega), if_neg (by omega), if_pos (by omega)]; simp
  · rw [if_pos (by omega), if_pos (by omega), if_neg (by omega)]; simp
  · rw [if_neg (by omega), if_pos (by omega), if_pos (by omega)]; simp

theorem half_lt {c : Nat} (h : c < 2 ^ 32) : half c < 2 ^ 32 := by
  unfold half
  apply Nat.xor_lt_two_pow (by omega)
  split <;> decide
theorem half_zero {c : Nat} (h : c < 2 ^ 32) (h0 : half c = 0) : c = 0 := by
  unfold half at h0
  by_cases ho : c % 2 = 1
  · rw [if_pos ho] at h0
    have := xor_zero_eq h0
    unfold poly at this
    omega
  · rw [if_neg ho] at h0
    simp at h0
    omega
theorem half_inj {a b : Nat} (ha : a < 2 ^ 32) (hb : b < 2 ^ 32) (h : half a = half b) : a = b := by
  have : half (a ^^^ b) = 0 := by rw [half_xor, h, Nat.xor_self]
  exact xor_zero_eq (half_zero (Nat.xor_lt_two_pow ha hb) this)
theorem half_even (q : Nat) : half (2 * q) = q := by unfold half; rw [if_neg (by omega)]; simp

theorem half8_xor (a b : Nat) : half8 (a ^^^ b) = half8 a ^^^ half8 b := by unfold half8; simp only [half_xor]
theorem half8_lt {c : Nat} (h : c < 2 ^ 32) : half8 c < 2 ^ 32 := half_lt (half_lt (half_lt (half_lt (half_lt (half_lt (half_lt (half_lt h)))))))
theorem half8_inj {a b : Nat} (ha : a < 2 ^ 32) (hb : b < 2 ^ 32) (h : half8 a = half8 b) : a = b := by
  unfold half8 at h
  have a1 := half_lt ha; have a2 := half_lt a1; have a3 := half_lt a2; have a4 := half_lt a3; have a5 := half_lt a4; have a6 := half_lt a5; have a7 := half_lt a6
  have b1 := half_lt hb; have b2 := half_lt b1; have b3 := half_lt b2; have b4 := half_lt b3; have b5 := half_lt b4; have b6 := half_lt b5; have b7 := half_lt b6
  exact half_inj ha hb (half_inj a1 b1 (half_inj a2 b2 (half_inj a3 b3 (half_inj a4 b4 (half_inj a5 b5 (half_inj a6 b6 (half_inj a7 b7 h)))))))
theorem half8_byte (q : Nat) : half8 (256 * q) = q := by
  unfold half8
  rw [show 256 * q = 2 * (2 * (2 * (2 * (2 * (2 * (2 * (2 * q))))))) by omega]
  simp only [half_even]

/-- A byte below others: no bit in common. -/
theorem xor_join (q r : Nat) (h : r < 256) : r ^^^ 256 * q = 256 * q + r := by
  have h8 : r < 2 ^ 8 := h
  have : 256 * q + r = 2 ^ 8 * q + r := by omega
  rw [this]
  apply Nat.eq_of_testBit_eq
  intro i
  rw [Nat.testBit_xor, Nat.testBit_two_pow_mul_add _ h8, show 256 * q = 2 ^ 8 * q by omega, Nat.testBit_two_pow_mul]
  by_cases hi : i < 8
  · rw [if_pos hi]; simp [show ¬ 8 ≤ i by omega]
  · rw [if_neg hi, Nat.testBit_lt_two_pow (Nat.lt_of_lt_of_le h8 (Nat.pow_le_pow_right (by omega) (by omega)))]
    simp [show 8 ≤ i by omega]

theorem tab_all : ∀ r < 256, half8 r = lowTab.getD (r % 16) 0 ^^^ upTab.getD (r / 16) 0 := by decide +kernel
theorem low_lt : ∀ r < 16, lowTab.getD r 0 < 4294967296 := by decide +kernel
theorem up_lt : ∀ r < 16, upTab.getD r 0 < 4294967296 := by decide +kernel

/-- A byte's eight steps are two looks at the tables. -/
theorem tab_step {c x : Nat} (hx : x < 256) : half8 (c ^^^ x) = (c / 256 ^^^ lowTab.getD ((c % 256 ^^^ x) % 16) 0) ^^^ upTab.getD ((c % 256 ^^^ x) / 16) 0 := by
  have hf : c % 256 ^^^ x < 256 := Nat.xor_lt_two_pow (n := 8) (Nat.mod_lt _ (by omega)) hx
  have e : c ^^^ x = 256 * (c / 256) ^^^ (c % 256 ^^^ x) := by
    conv => lhs; rw [show c = c % 256 ^^^ 256 * (c / 256) by rw [xor_join _ _ (Nat.mod_lt _ (by omega))]; omega]
    rw [Nat.xor_comm (c % 256) (256 * (c / 256)), Nat.xor_assoc]
  rw [e, half8_xor, half8_byte, tab_all _ hf, Nat.xor_assoc]

/-- What a text leaves of 32 bits. -/
def reg (c : Nat) (xs : List Int) : Nat := xs.foldl (fun c x => half8 (c ^^^ x.toNat)) c
def ones : Nat := 4294967295
/-- The sum of a text with more behind it. -/
def moreOf (s : Nat) (xs : List Int) : Nat := ones ^^^ reg (ones ^^^ s) xs
abbrev Bytes (xs : List Int) : Prop := ∀ x ∈ xs, 0 ≤ x ∧ x < 256

theorem reg_nil (c : Nat) : reg c [] = c := rfl
theorem reg_cons (c : Nat) (x : Int) (xs : List Int) : reg c (x :: xs) = reg (half8 (c ^^^ x.toNat)) xs := rfl
theorem reg_append (c : Nat) (xs ys : List Int) : reg c (xs ++ ys) = reg (reg c xs) ys := by simp [reg]
theorem reg_snoc (c : Nat) (xs : List Int) (x : Int) : reg c (xs ++ [x]) = half8 (reg c xs ^^^ x.toNat) := by simp [reg]
theorem byte_lt {x : Int} (h : 0 ≤ x ∧ x < 256) : x.toNat < 2 ^ 32 := by omega
theorem reg_lt {c : Nat} {xs : List Int} (hc : c < 2 ^ 32) (h : Bytes xs) : reg c xs < 2 ^ 32 := by
  induction xs generalizing c with
  | nil => exact hc
  | cons x xs ih => exact ih (half8_lt (Nat.xor_lt_two_pow hc (byte_lt (h x List.mem_cons_self)))) fun y hy => h y (List.mem_cons_of_mem _ hy)
theorem reg_inj {a b : Nat} {xs : List Int} (ha : a < 2 ^ 32) (hb : b < 2 ^ 32) (h : Bytes xs) (e : reg a xs = reg b xs) : a = b := by
  induction xs generalizing a b with
  | nil => exact e
  | cons x xs ih =>
    have hx := byte_lt (h x List.mem_cons_self)
    have := ih (half8_lt (Nat.xor_lt_two_pow ha hx)) (half8_lt (Nat.xor_lt_two_pow hb hx)) (fun y hy => h y (List.mem_cons_of_mem _ hy)) e
    have := half8_inj (Nat.xor_lt_two_pow ha hx) (Nat.xor_lt_two_pow hb hx) this
    exact xor_cancel this
theorem ones_lt : ones < 2 ^ 32 := by decide
theorem flip_lt {s : Nat} (h : s < 2 ^ 32) : ones ^^^ s < 2 ^ 32 := Nat.xor_lt_two_pow ones_lt h
theorem flip_flip (s : Nat) : ones ^^^ (ones ^^^ s) = s := by rw [← Nat.xor_assoc, Nat.xor_self, Nat.zero_xor]
theorem more_lt {s : Nat} {xs : List Int} (hs : s < 2 ^ 32) (h : Bytes xs) : moreOf s xs < 2 ^ 32 := flip_lt (reg_lt (flip_lt hs) h)
theorem more_more (s : Nat) (xs ys : List Int) : moreOf (moreOf s xs) ys = moreOf s (xs ++ ys) := by
  unfold moreOf; rw [flip_flip, reg_append]
theorem more_nil (s : Nat) : moreOf s [] = s := by unfold moreOf; rw [reg_nil, flip_flip]
theorem digits_sum : moreOf 0 [49, 50, 51, 52, 53, 54, 55, 56, 57] = 3421780262 := by decide +kernel

end Go.Proofs.YtpmhjmbiiihfoaaDoor
