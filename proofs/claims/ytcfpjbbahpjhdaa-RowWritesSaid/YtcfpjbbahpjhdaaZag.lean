import Derived.Test.YtcfpjbbahpjhdaaReadU
namespace Go.Proofs.Ytcfpjbbahpjhdaa
open Go.RowKit

/-- The number whose turned one it is. -/
def back (t : Int) : Int := if t % 2 = 1 then -1 - t / 2 else t / 2
theorem back_odd {t : Int} (h : t % 2 = 1) : back t = -1 - t / 2 := by rw [back, if_pos h]
theorem back_even {t : Int} (h : t % 2 = 0) : back t = t / 2 := by rw [back, if_neg (by omega)]

set_option maxHeartbeats 400000 in
theorem turnback_any (t : Int) (w : World) (h1 : 0 ≤ t) (h2 : t < 18446744073709551616) :
    Calls Try.prog 38 #[.int .u64 t] w fun e w' => e = .returned (.int .i64 (back t)) ∧ w' = w := by
  by_cases h : t % 2 = 1
  · have Hb := Lib.hid (back_odd h)
    go_enter Try.func38, Try.ntmps38
    go_wp2
    go_ret
    exact ⟨ret_int (by rw [Hb.out]; exact i64_not _ (by omega) (by omega)), rfl⟩
  · have Hb := Lib.hid (back_even (t := t) (by omega))
    go_enter Try.func38, Try.ntmps38
    go_wp2
    go_ret
    exact ⟨ret_int (by rw [Hb.out]), rfl⟩
theorem digs_len_le (b : List Int) (k : Nat) : (digs b k).length ≤ k := by simp [digs]; omega
theorem zTurned_range {b : List Int} (hb : ∀ x ∈ b, 0 ≤ x ∧ x < 256) : 0 ≤ zTurned b ∧ zTurned b < 18446744073709551616 := by
  unfold zTurned
  by_cases hz : zbad b = true
  · have : zSize b = 0 := by simp [zSize, hz]
    rw [this]; simp [digs, val]
  · have hz1 : zbad b = true → False := hz
    have hz : zSize b = endSize b 10 := by simp [zSize, hz]
    by_cases he : endErr b 10 = 0
    · obtain ⟨g1, g2, g3⟩ := end_good he
      rw [← hz] at g1 g2 g3
      have hv := digs_val b (zSize b) g3
      refine ⟨hv.1, ?_⟩
      rcases (show zSize b ≤ 9 ∨ zSize b = 10 by omega) with h | h
      · have : (2 : Int) ^ (7 * zSize b) ≤ 2 ^ 63 := by exact_mod_cast Nat.pow_le_pow_right (show 0 < 2 by omega) (by omega)
        omega
      · have hl : 9 < b.length := by omega
        have hu : b[9]? = some b[9] := List.getElem?_eq_getElem hl
        have h1 : ¬ 1 < b.getD 9 0 := by
          intro h1
          exact hz1 (by unfold zbad; rw [decide_eq_true he, decide_eq_true (show endSize b 10 = 10 by omega), decide_eq_true h1]; rfl)
        have hv9 := digs_val b 9 (by omega)
        rw [h, digs_next hu]
        simp [List.getD, hu] at h1
        have h9 := hb b[9] (List.getElem_mem hl)
        have h9' : b[9] % 128 ≤ 1 := by omega
        have h63 : (2 : Int) ^ (7 * 9) = 9223372036854775808 := by decide
        rw [h63] at hv9 ⊢
        omega
    · have : zSize b = 0 := by rw [hz, end_bad he]
      rw [this]; simp [digs, val]

set_option maxHeartbeats 400000 in
theorem zag_any (A : Option Addr) (n c : Nat) (b : List Int) (w : World) (hx : Sl w A n (u8s b)) (hb : ∀ x ∈ b, 0 ≤ x ∧ x < 256) (hn : n ≤ 9223372036854775807) :
    Calls Try.prog 31 #[.slice A n c] w fun e w' => e = .returned (.tuple #[.int .i64 (back (zTurned b)), .int .i64 (zSize b), .int .i64 (zErr b)]) ∧ w' = w := by
  go_enter Try.func31, Try.ntmps31
  go_wp2_with fail
  refine (readu_any _ _ _ _ _ hx hb hn).mono ?_
  rintro e w' ⟨rfl, rfl⟩
  go_wp2_with fail
  refine (turnback_any _ _ (zTurned_range hb).1 (zTurned_range hb).2).mono ?_
  rintro e w' ⟨rfl, rfl⟩
  go_wp2_with fail
  go_ret3
  exact ⟨rfl, rfl⟩
end Go.Proofs.Ytcfpjbbahpjhdaa
