import Derived.Test.YtjokcofbabfcfaaRNeg
namespace Go.Proofs.Ytjokcofbabfcfaa
open Go.RowKit

theorem wrap_self {x : Int} (h : -9223372036854775808 ≤ x ∧ x ≤ 9223372036854775807) : wrap64 x = x := by unfold wrap64; omega
theorem wrap_mul (x y : Int) : wrap64 (wrap64 x * y) = wrap64 (x * y) := by
  obtain ⟨m, hm⟩ := wrap_is x
  refine wrap_of (m := m * y) ?_
  rw [hm, Int.add_mul, Int.mul_assoc]
theorem wrap_mul_right (x y : Int) : wrap64 (x * wrap64 y) = wrap64 (x * y) := by rw [Int.mul_comm, wrap_mul, Int.mul_comm]
theorem wrap_neg (x : Int) : wrap64 (-wrap64 x) = wrap64 (-x) := by unfold wrap64; omega
theorem wrap_sub (x y : Int) : wrap64 (wrap64 x - wrap64 y) = wrap64 (x - y) := by unfold wrap64; omega
theorem wrap_double (a : Int) (k : Nat) : wrap64 (wrap64 (a * 2 ^ k) + wrap64 (a * 2 ^ k)) = wrap64 (a * 2 ^ (k + 1)) := by
  rw [wrap_add, Int.pow_succ]
  congr 1
  rw [← Int.mul_assoc]; omega
theorem wrap_more (a b : Int) (k : Nat) (h : b / 2 ^ k % 2 = 1) : wrap64 (wrap64 (a * (b % 2 ^ k)) + wrap64 (a * 2 ^ k)) = wrap64 (a * (b % 2 ^ (k + 1))) := by
  rw [wrap_add, rest_next, h, Int.mul_one, Int.mul_add]
theorem wrap_stay (a b : Int) (k : Nat) (h : b / 2 ^ k % 2 = 0) : wrap64 (a * (b % 2 ^ k)) = wrap64 (a * (b % 2 ^ (k + 1))) := by
  rw [rest_next, h, Int.mul_zero, Int.add_zero]
theorem wrap_whole (a b : Int) : wrap64 (a * (b % 2 ^ 64)) = wrap64 (a * b) := by
  have e : b % 2 ^ 64 = b + 18446744073709551616 * (-(b / 18446744073709551616)) := by omega
  refine wrap_of (m := a * (-(b / 18446744073709551616))) ?_
  rw [e, Int.mul_add, Int.mul_left_comm]

theorem radd_is (r a b : Int) (w : World) (ha1 : -9223372036854775808 ≤ a) (ha2 : a ≤ 9223372036854775807) (hb1 : -9223372036854775808 ≤ b) (hb2 : b ≤ 9223372036854775807) (hr : r = wrap64 (a + b)) :
    Calls Try.prog 24 #[.int .i64 a, .int .i64 b] w fun e w' => e = .returned (.int .i64 r) ∧ Below w.heap.size w w' := by
  rw [hr]; exact radd_any a b w ha1 ha2 hb1 hb2
theorem rneg_is (r a : Int) (w : World) (ha1 : -9223372036854775808 ≤ a) (ha2 : a ≤ 9223372036854775807) (hr : r = wrap64 (-a)) :
    Calls Try.prog 22 #[.int .i64 a] w fun e w' => e = .returned (.int .i64 r) ∧ Below w.heap.size w w' := by
  rw [hr]; exact rneg_any a w ha1 ha2

set_option maxHeartbeats 1600000 in
theorem rmul_any (a b : Int) (w : World) (ha1 : -9223372036854775808 ≤ a) (ha2 : a ≤ 9223372036854775807) (hb1 : -9223372036854775808 ≤ b) (hb2 : b ≤ 9223372036854775807) :
    Calls Try.prog 25 #[.int .i64 a, .int .i64 b] w fun e w' => e = .returned (.int .i64 (wrap64 (a * b))) ∧ Below w.heap.size w w' := by
  go_enter Try.func25, Try.ntmps25
  go_wp2_with fail
  refine (bits_any b w hb1 hb2).mono ?_
  rintro e w1 ⟨v1, rfl, hown1, hbl1⟩
  obtain ⟨B, cb, rfl, hs1⟩ := own_form hown1
  have hszw := hbl1.size
  clear hown1
  go_wp2_with fail
  go_loopw [0, 6, 7] (fun x s i wr => ∃ (k : Nat) (p q : Int), k ≤ 64 ∧ i = .int .i64 k ∧ x = .int .i64 p ∧ s = .int .i64 q ∧ p = wrap64 (a * 2 ^ k) ∧ q = wrap64 (a * (b % 2 ^ k)) ∧ Below w1.heap.size w1 wr) (fun _ _ i _ => 64 - (intOf i).toNat)
  case atStart => exact ⟨0, a, 0, by omega, rfl, rfl, rfl, by rw [Int.pow_zero, Int.mul_one, wrap_self ⟨ha1, ha2⟩], by rw [Int.pow_zero, Int.emod_one, Int.mul_zero, wrap_self ⟨by omega, by omega⟩], Below.refl _ _⟩
  case round =>
    obtain ⟨k, p, q, hk, rfl, rfl, rfl, hp, hq, hbl⟩ := hrel
    have hp1 : -9223372036854775808 ≤ p ∧ p ≤ 9223372036854775807 := by rw [hp]; exact wrap_range _
    have hq1 : -9223372036854775808 ≤ q ∧ q ≤ 9223372036854775807 := by rw [hq]; exact wrap_range _
    have Hp := Lib.hid hp; have Hq := Lib.hid hq
    clear hp hq
    have hszr := hbl.size
    by_cases hlt : k < 64
    · obtain ⟨bd, y, rfl, hcy, huy⟩ := (hs1.below hbl).num hlt
      rw [bitsTo_at b 64 k hlt] at huy
      have hy := Option.some.inj huy
      have Hy := Lib.hid hy
      have hy1 : 0 ≤ y ∧ y < 2 := by omega
      clear huy hy
      have hd : decide ((k : Int) < 64) = true := decide_eq_true (by omega)
      have Hdbl := Lib.hid (show wrap64 (p + p) = wrap64 (a * 2 ^ (k + 1)) by rw [Hp.out]; exact wrap_double a k)
      by_cases hy2 : y = 1
      · have Hsum := Lib.hid (show wrap64 (q + p) = wrap64 (a * (b % 2 ^ (k + 1))) by rw [Hp.out, Hq.out]; exact wrap_more a b k (by rw [Hy.out]; exact hy2))
        subst hy2
        go_wp2_with fail
        obtain ⟨s, hs⟩ : ∃ s, s = wrap64 (q + p) := ⟨_, rfl⟩
        refine (radd_is s q p _ hq1.1 hq1.2 hp1.1 hp1.2 hs).mono ?_
        rintro e w5 ⟨rfl, hb5⟩
        rw [← hs] at Hsum
        clear hs
        have hb5' := hbl.trans (hb5.mono hszr)
        go_wp2_with fail
        obtain ⟨t, ht⟩ : ∃ t, t = wrap64 (p + p) := ⟨_, rfl⟩
        refine (radd_is t p p _ hp1.1 hp1.2 hp1.1 hp1.2 ht).mono ?_
        rintro e w6 ⟨rfl, hb6⟩
        rw [← ht] at Hdbl
        clear ht
        have hb6' := hb5'.trans (hb6.mono hb5'.size)
        go_wp2_with fail
        go_roundw
        case rel => exact ⟨k + 1, t, s, by omega, by go_num, rfl, rfl, Hdbl.out, Hsum.out, hb6'⟩
        case measure => simp [intOf] <;> omega
      · have Hsum := Lib.hid (show q = wrap64 (a * (b % 2 ^ (k + 1))) by rw [Hq.out]; exact wrap_stay a b k (by rw [Hy.out]; omega))
        have hye : (y == 1) = false := by simpa using hy2
        go_wp2_with fail
        obtain ⟨t, ht⟩ : ∃ t, t = wrap64 (p + p) := ⟨_, rfl⟩
        refine (radd_is t p p _ hp1.1 hp1.2 hp1.1 hp1.2 ht).mono ?_
        rintro e w6 ⟨rfl, hb6⟩
        rw [← ht] at Hdbl
        clear ht
        have hb6' := hbl.trans (hb6.mono hszr)
        go_wp2_with fail
        go_roundw
        case rel => exact ⟨k + 1, t, q, by omega, by go_num, rfl, rfl, Hdbl.out, Hsum.out, hb6'⟩
        case measure => simp [intOf] <;> omega
    · have hd : decide ((k : Int) < 64) = false := decide_eq_false (by omega)
      have hfin := Hq.out
      rw [show k = 64 by omega, wrap_whole] at hfin
      have Hfin := Lib.hid hfin
      have hbf := hbl1.trans (hbl.mono hszw)
      clear hfin
      go_wp2_with fail
      go_ret
      exact ⟨ret_int Hfin.out, hbf⟩
end Go.Proofs.Ytjokcofbabfcfaa
