import Derived.Test.YtpmhjmbiiihfoaaDoorVals
namespace Go.Proofs.YtpmhjmbiiihfoaaDoor
open Go.RowKit


set_option maxHeartbeats 400000 in
theorem bit_any (n : Int) (k : Nat) (w : World) (h1 : -9223372036854775808 ≤ n) (h2 : n ≤ 9223372036854775807) (hk : k ≤ 1000) :
    Calls Tryd.prog 27 #[.int .i64 n, .int .i64 k] w fun e w' => e = .returned (.int .i64 (n / 2 ^ k % 2)) ∧ w' = w := by
  go_enter Tryd.func27, Tryd.ntmps27
  go_wp2
  go_loop [0, 5] (fun m i => ∃ j : Nat, j ≤ k ∧ i = .int .i64 j ∧ ∃ q : Int, m = .int .i64 q ∧ -9223372036854775808 ≤ q ∧ q ≤ 9223372036854775807 ∧ q = n / 2 ^ j) (fun _ i => k - (intOf i).toNat)
  case atStart => exact ⟨0, by omega, rfl, n, rfl, h1, h2, by simp⟩
  case round =>
    obtain ⟨j, hj, rfl, q, rfl, hq1, hq2, hq⟩ := hrel
    have Hq := Lib.hid hq
    clear hq
    by_cases hlt : j < k
    · by_cases hneg : q < 0
      · go_wp2
        · go_roundw
          case rel => exact ⟨j + 1, by omega, by go_num, q / 2, val_int (bit_odd hneg hq1 (by assumption)), by omega, by omega, by rw [Hq.out, half_pow]⟩
          case measure => simp [intOf]; omega
        · go_roundw
          case rel => exact ⟨j + 1, by omega, by go_num, q / 2, val_int (bit_even hneg (by assumption)), by omega, by omega, by rw [Hq.out, half_pow]⟩
          case measure => simp [intOf]; omega
      · go_wp2
        go_roundw
        case rel => exact ⟨j + 1, by omega, by go_num, q / 2, rfl, by omega, by omega, by rw [Hq.out, half_pow]⟩
        case measure => simp [intOf]; omega
    · have : j = k := by omega
      subst this
      go_wp2
      · go_ret
        exact ⟨ret_int (by rw [← Hq.out, bit_zero (by assumption)]), rfl⟩
      · go_ret
        exact ⟨ret_int (by rw [← Hq.out, bit_one (by assumption)]), rfl⟩
end Go.Proofs.YtpmhjmbiiihfoaaDoor
