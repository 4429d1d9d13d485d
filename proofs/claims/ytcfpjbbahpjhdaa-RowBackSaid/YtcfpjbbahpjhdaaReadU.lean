import Derived.Test.YtcfpjbbahpjhdaaRead
import Derived.Test.YtcfpjbbahpjhdaaVals
namespace Go.Proofs.Ytcfpjbbahpjhdaa
open Go.RowKit

/-- Ten bytes whose tenth is above 1. -/
def zbad (b : List Int) : Bool := decide (endErr b 10 = 0) && decide (endSize b 10 = 10) && decide (1 < b.getD 9 0)
def zErr (b : List Int) : Int := if zbad b then 11 else endErr b 10
def zSize (b : List Int) : Nat := if zbad b then 0 else endSize b 10
def zTurned (b : List Int) : Int := val 128 (digs b (zSize b))
theorem zbad_err {b : List Int} (h : endErr b 10 ≠ 0) : zErr b = endErr b 10 ∧ zSize b = 0 := by
  have : zbad b = false := by simp [zbad, h]
  simp [zErr, zSize, this, end_bad h]
theorem zbad_small {b : List Int} (h : endSize b 10 ≠ 10) : zErr b = endErr b 10 ∧ zSize b = endSize b 10 := by
  have : zbad b = false := by simp [zbad, h]
  simp [zErr, zSize, this]
theorem zbad_one {b : List Int} (h : b.getD 9 0 ≤ 1) : zErr b = endErr b 10 ∧ zSize b = endSize b 10 := by
  have : zbad b = false := by unfold zbad; rw [decide_eq_false (show ¬ 1 < b.getD 9 0 by omega)]; simp
  simp [zErr, zSize, this]
theorem zbad_two {b : List Int} (h : endErr b 10 = 0) (h1 : endSize b 10 = 10) (h2 : 1 < b.getD 9 0) : zErr b = 11 ∧ zSize b = 0 := by
  have : zbad b = true := by unfold zbad; rw [decide_eq_true h, decide_eq_true h1, decide_eq_true h2]; rfl
  simp [zErr, zSize, this]

theorem or_ninth (q d : Int) (k : Nat) (hk : k = 9) (hq : 0 ≤ q) (hq2 : q < 2 ^ (7 * k)) (hd : 0 ≤ d) (hd2 : d < 128) :
    bits .or .u64 q (IntKind.u64.wrap (d * 2 ^ (7 * k))) = q + d % 2 * 2 ^ (7 * k) ∧ q + d % 2 * 2 ^ (7 * k) < 18446744073709551616 ∧ (q + d % 2 * 2 ^ (7 * k)) / 2 ^ (7 * k) = d % 2 := by
  subst hk
  have hw : IntKind.u64.wrap (d * 2 ^ (7 * 9)) = IntKind.u64.wrap (d % 2 * 2 ^ (7 * 9)) := by
    rw [IntKind.wrap_u64, IntKind.wrap_u64]; omega
  rw [hw]
  have hj := or_join q (d % 2) (7 * 9) 1 hq hq2 (by omega) (by omega) (by omega)
  exact ⟨hj.1, hj.2, shr_back q (d % 2) (7 * 9) hq hq2⟩

set_option maxHeartbeats 8000000 in
theorem readu_any (A : Option Addr) (n c : Nat) (b : List Int) (w : World) (hx : Sl w A n (u8s b)) (hb : ∀ x ∈ b, 0 ≤ x ∧ x < 256) (hn : n ≤ 9223372036854775807) :
    Calls Try.prog 37 #[.slice A n c, .int .i64 10] w fun e w' => e = .returned (.tuple #[.int .u64 (zTurned b), .int .i64 (zSize b), .int .i64 (zErr b)]) ∧ w' = w := by
  have hlen : b.length = n := by simpa using hx.1
  have Hlen := Lib.hid hlen
  have Hb := Lib.hid hb
  clear hlen hb
  rcases (show n ≤ 10 ∨ 10 < n by omega) with hcase | hcase
  all_goals
    go_enter Try.func37, Try.ntmps37
    go_wp2
    go_loop [4, 14] (fun v i => ∃ (k : Nat) (q : Int), k ≤ n ∧ k ≤ 10 ∧ i = .int .i64 k ∧ v = .int .u64 q ∧ 0 ≤ q ∧ q < 18446744073709551616 ∧ (k ≤ 9 → q = val 128 (digs b k)) ∧ ∀ x ∈ b.take k, 128 ≤ x) (fun _ i => 10 - (intOf i).toNat)
    case atStart => exact ⟨0, 0, by omega, by omega, rfl, rfl, by omega, by omega, fun _ => rfl, by simp⟩
    case round =>
      obtain ⟨k, q, hk, hkm, rfl, rfl, q1, q2, hq, hall⟩ := hrel
      have Hall := Lib.hid hall
      have Hq := Lib.hid hq
      clear hall hq
      by_cases h1 : k < n
      · by_cases h2 : k < 10
        · obtain ⟨ad, u, rfl, hc, hu⟩ := hx.num h1
          have hu1 : 0 ≤ u ∧ u < 256 := Hb.out u (List.mem_of_getElem? hu)
          have Hu := Lib.hid hu
          have hv := digs_val b k (by rw [Hlen.out]; omega)
          have hq := Hq.out (by omega)
          rw [← hq] at hv
          obtain ⟨nx, sh, hbit, hsb, hnx0, hnx1, hnx⟩ : ∃ nx sh, bits .or .u64 q (IntKind.u64.wrap (u % 128 * 2 ^ (7 * k))) = nx ∧ nx / 2 ^ (7 * k) = sh ∧ 0 ≤ nx ∧ nx < 18446744073709551616 ∧
              ((k < 9 ∨ u % 128 < 2) → nx = val 128 (digs b (k + 1)) ∧ sh = u % 128) ∧ (k = 9 → sh < 2) := by
            by_cases hk9 : k < 9
            · have hj := or_join q (u % 128) (7 * k) 7 q1 hv.2 (by omega) (by omega) (by omega)
              have hp : 0 ≤ u % 128 * 2 ^ (7 * k) := Int.mul_nonneg (by omega) (Int.le_of_lt (Int.pow_pos (by omega)))
              exact ⟨_, _, hj.1, rfl, by omega, hj.2, fun _ => ⟨by rw [digs_next hu, hq], shr_back q (u % 128) (7 * k) q1 hv.2⟩, fun h => by omega⟩
            · have hj := or_ninth q (u % 128) k (by omega) q1 hv.2 (by omega) (by omega)
              have hp : 0 ≤ u % 128 % 2 * 2 ^ (7 * k) := Int.mul_nonneg (by omega) (Int.le_of_lt (Int.pow_pos (by omega)))
              refine ⟨_, _, hj.1, rfl, by omega, hj.2.1, fun h => ?_, fun _ => by rw [hj.2.2]; omega⟩
              have e : u % 128 % 2 = u % 128 := by omega
              rw [hj.2.2, e]
              exact ⟨by rw [digs_next hu, hq], rfl⟩
          have Hnx := Lib.hid hnx
          clear hu hv hnx hq
          by_cases h3 : u < 128
          · have hst := Lib.hid (show Stops b 10 k u from ⟨h2, Hu.out, h3, Hall.out⟩)
            by_cases h4 : 0 < k
            · by_cases h5 : u = 0
              · subst h5
                have Hr := Lib.hid (end_zero hst.out h4)
                have Hz := Lib.hid (zbad_err (b := b) (by rw [Hr.out.1]; omega))
                go_wp2
                go_ret3
                exact ⟨ret_three (by rw [zTurned, Hz.out.2]; rfl) (by rw [Hz.out.2]; rfl) (by rw [Hz.out.1, Hr.out.1]), rfl⟩
              · have Hr := Lib.hid (end_ok hst.out (fun h => h5 h.2))
                by_cases h6 : k < 9 ∨ u % 128 < 2
                · have hsh : sh = u % 128 := (Hnx.out.1 h6).2
                  have Hz : Hid (zErr b = 0 ∧ zSize b = k + 1) := Lib.hid (by
                    rcases h6 with h6 | h6
                    · have := zbad_small (b := b) (by rw [Hr.out.2]; omega)
                      rw [this.1, this.2]; exact Hr.out
                    · rcases (show k < 9 ∨ k = 9 by omega) with h7 | h7
                      · have := zbad_small (b := b) (by rw [Hr.out.2]; omega)
                        rw [this.1, this.2]; exact Hr.out
                      · have := zbad_one (b := b) (by have h8 := Hu.out; rw [h7] at h8; simp [List.getD, h8]; omega)
                        rw [this.1, this.2]; exact Hr.out)
                  have H6 := Lib.hid h6
                  clear h6
                  subst hsh
                  go_wp2
                  go_ret3
                  exact ⟨ret_three (by rw [zTurned, Hz.out.2, (Hnx.out.1 H6.out).1]) (by rw [Hz.out.2]; omega) Hz.out.1.symm, rfl⟩
                · have hk9 : 9 ≤ k := by omega
                  have hsh : sh < 2 := Hnx.out.2 (by omega)
                  have hne : ¬ sh = u % 128 := by omega
                  have Hz : Hid (zErr b = 11 ∧ zSize b = 0) := Lib.hid (zbad_two Hr.out.1 (by rw [Hr.out.2]; omega) (by have h8 := Hu.out; rw [show k = 9 by omega] at h8; simp [List.getD, h8]; omega))
                  clear h6
                  go_wp2
                  go_ret3
                  exact ⟨ret_three (by rw [zTurned, Hz.out.2]; rfl) (by rw [Hz.out.2]; rfl) Hz.out.1.symm, rfl⟩
            · have Hr := Lib.hid (end_ok hst.out (fun h => h4 h.1))
              have hsh : sh = u % 128 := (Hnx.out.1 (.inl (by omega))).2
              have Hz : Hid (zErr b = 0 ∧ zSize b = k + 1) := Lib.hid (by
                have := zbad_small (b := b) (by rw [Hr.out.2]; omega)
                rw [this.1, this.2]; exact Hr.out)
              subst hsh
              go_wp2
              go_ret3
              exact ⟨ret_three (by rw [zTurned, Hz.out.2, (Hnx.out.1 (.inl (by omega))).1]) (by rw [Hz.out.2]; omega) Hz.out.1.symm, rfl⟩
          · go_wp2
            go_round
            case rel => exact ⟨k + 1, nx, by omega, by omega, by go_num, rfl, hnx0, hnx1, fun h => (Hnx.out.1 (.inl (by omega))).1, by rw [take_snoc _ _ _ Hu.out]; intro x hx; rcases List.mem_append.1 hx with h | h; exact Hall.out x h; simp at h; omega⟩
            case measure => simp [intOf] <;> omega
        · have hk2 : k = 10 := by omega
          subst hk2
          have Hr := Lib.hid (end_long (b := b) (m := 10) Hall.out (by rw [Hlen.out]; omega))
          have Hz := Lib.hid (zbad_err (b := b) (by rw [Hr.out.1]; omega))
          go_wp2
          all_goals (go_ret3; exact ⟨ret_three (by rw [zTurned, Hz.out.2]; rfl) (by rw [Hz.out.2]; rfl) (by rw [Hz.out.1, Hr.out.1]), rfl⟩)
      · have hk2 : k = n := by omega
        subst hk2
        have hrun : Runs b 10 := fun x hx => Hall.out x (by rw [List.take_of_length_le (by rw [Hlen.out]; omega)] at hx ⊢; exact hx)
        by_cases h6 : k < 10
        · have Hr := Lib.hid (end_short hrun (by rw [Hlen.out]; exact h6))
          have Hz := Lib.hid (zbad_err (b := b) (by rw [Hr.out.1]; omega))
          clear hrun
          go_wp2
          all_goals (go_ret3; exact ⟨ret_three (by rw [zTurned, Hz.out.2]; rfl) (by rw [Hz.out.2]; rfl) (by rw [Hz.out.1, Hr.out.1]), rfl⟩)
        · have Hr := Lib.hid (end_long hrun (by rw [Hlen.out]; exact h6))
          have Hz := Lib.hid (zbad_err (b := b) (by rw [Hr.out.1]; omega))
          clear hrun
          go_wp2
          all_goals (go_ret3; exact ⟨ret_three (by rw [zTurned, Hz.out.2]; rfl) (by rw [Hz.out.2]; rfl) (by rw [Hz.out.1, Hr.out.1]), rfl⟩)
end Go.Proofs.Ytcfpjbbahpjhdaa
