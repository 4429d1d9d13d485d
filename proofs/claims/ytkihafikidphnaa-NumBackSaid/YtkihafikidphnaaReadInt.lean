import Derived.Test.YtkihafikidphnaaLong
namespace Go.Proofs.Ytkihafikidphnaa
open Go.RowKit

theorem or_join_i (q u : Int) (a d : Nat) (hq : 0 ≤ q) (hq2 : q < 2 ^ a) (hu : 0 ≤ u) (hu2 : u < 2 ^ d) (ha : a + d ≤ 63) :
    bits .or .i64 q (u * 2 ^ a) = q + u * 2 ^ a ∧ q + u * 2 ^ a < 9223372036854775808 ∧ 0 ≤ u * 2 ^ a ∧ u * 2 ^ a < 9223372036854775808 := by
  obtain ⟨x, rfl⟩ := Int.eq_ofNat_of_zero_le hq
  obtain ⟨y, rfl⟩ := Int.eq_ofNat_of_zero_le hu
  have hx : x < 2 ^ a := by exact_mod_cast hq2
  have hy : y < 2 ^ d := by exact_mod_cast hu2
  have h1 : (y + 1) * 2 ^ a ≤ 2 ^ d * 2 ^ a := Nat.mul_le_mul_right _ hy
  have h2 : 2 ^ d * 2 ^ a ≤ 2 ^ 63 := by rw [← Nat.pow_add]; exact Nat.pow_le_pow_right (by omega) (by omega)
  have h3 : (2 : Nat) ^ 63 = 9223372036854775808 := by decide
  rw [Nat.add_mul] at h1
  have e : ((y : Int) * 2 ^ a) = ((y * 2 ^ a : Nat) : Int) := by simp
  rw [e]
  have hz : y * 2 ^ a < 9223372036854775808 := by omega
  have hm : x < 9223372036854775808 := by omega
  have hor : bits .or .i64 (x : Int) ((y * 2 ^ a : Nat) : Int) = ((x + y * 2 ^ a : Nat) : Int) := by
    show IntKind.i64.wrap ((BitVec.ofInt 64 (x : Int) ||| BitVec.ofInt 64 ((y * 2 ^ a : Nat) : Int)).toNat : Int) = _
    rw [BitVec.toNat_or, ofInt_u64 x (by omega), ofInt_u64 _ (by omega), Nat.or_comm, nat_join a (y * 2 ^ a) x (by simp) hx, IntKind.wrap_i64]
    omega
  rw [hor]
  omega

/-- What is shifted to its place and laid on comes back by the shift. -/
theorem shr_back (q u : Int) (a : Nat) (hq : 0 ≤ q) (hq2 : q < 2 ^ a) : (q + u * 2 ^ a) / 2 ^ a = u := by
  have hp : (0 : Int) < 2 ^ a := Int.pow_pos (by omega)
  rw [Int.add_mul_ediv_right _ _ (by omega), Int.ediv_eq_zero_of_lt hq hq2]; omega

set_option maxHeartbeats 4000000 in
theorem readint_any (A : Option Addr) (n c : Nat) (b : List Int) (w : World) (hx : Sl w A n (u8s b)) (hb : ∀ x ∈ b, 0 ≤ x ∧ x < 256) (hn : n ≤ 9223372036854775807) :
    Calls Try.prog 24 #[.slice A n c, .int .i64 9] w fun e w' => e = .returned (.tuple #[.int .i64 (longVal b), .int .i64 (endSize b 9), .int .i64 (endErr b 9)]) ∧ w' = w := by
  have hlen : b.length = n := by simpa using hx.1
  have Hlen := Lib.hid hlen
  have Hb := Lib.hid hb
  clear hlen hb
  rcases (show n ≤ 9 ∨ 9 < n by omega) with hcase | hcase
  all_goals
    go_enter Try.func24, Try.ntmps24
    go_wp2
    go_loop [4, 14] (fun v i => ∃ (k : Nat) (q : Int), k ≤ n ∧ k ≤ 9 ∧ i = .int .i64 k ∧ v = .int .i64 q ∧ 0 ≤ q ∧ q = val 128 (digs b k) ∧ ∀ x ∈ b.take k, 128 ≤ x) (fun _ i => 9 - (intOf i).toNat)
    case atStart => exact ⟨0, 0, by omega, by omega, rfl, rfl, by omega, rfl, by simp⟩
    case round =>
      obtain ⟨k, q, hk, hkm, rfl, rfl, q1, hq, hall⟩ := hrel
      have Hall := Lib.hid hall
      have Hq := Lib.hid hq
      clear hall hq
      by_cases h1 : k < n
      · by_cases h2 : k < 9
        · obtain ⟨ad, u, rfl, hc, hu⟩ := hx.num h1
          have hu1 : 0 ≤ u ∧ u < 256 := Hb.out u (List.mem_of_getElem? hu)
          have Hu := Lib.hid hu
          have hv := digs_val b k (by rw [Hlen.out]; omega)
          rw [← Hq.out] at hv
          have hj := or_join_i q (u % 128) (7 * k) 7 q1 hv.2 (by omega) (by omega) (by omega)
          have hsb := shr_back q (u % 128) (7 * k) q1 hv.2
          obtain ⟨nx, hnx⟩ : ∃ nx, nx = q + u % 128 * 2 ^ (7 * k) := ⟨_, rfl⟩
          have hn1 : nx = val 128 (digs b (k + 1)) := by rw [hnx, digs_next hu, Hq.out]
          rw [← hnx] at hj hsb
          have hbit : bits .or .i64 q (wrap64 (u % 128 * 2 ^ (7 * k))) = nx := by rw [IntWalk.wrap64_in _ ⟨by omega, by omega⟩]; exact hj.1
          have hnx0 : 0 ≤ nx := by omega
          have Hnx := Lib.hid hn1
          clear hu hv hnx hn1 hj
          by_cases h3 : u < 128
          · have hst := Lib.hid (show Stops b 9 k u from ⟨h2, Hu.out, h3, Hall.out⟩)
            by_cases h4 : 0 < k
            · by_cases h5 : u = 0
              · subst h5
                have Hr := Lib.hid (end_zero hst.out h4)
                go_wp2
                go_ret3
                exact ⟨ret_three (by rw [longVal, Hr.out.2]; rfl) (by rw [Hr.out.2]; rfl) Hr.out.1.symm, rfl⟩
              · have Hr := Lib.hid (end_ok hst.out (fun h => h5 h.2))
                go_wp2
                go_ret3
                exact ⟨ret_three (by rw [longVal, Hr.out.2, Hnx.out]) (by rw [Hr.out.2]; omega) Hr.out.1.symm, rfl⟩
            · have Hr := Lib.hid (end_ok hst.out (fun h => h4 h.1))
              go_wp2
              go_ret3
              exact ⟨ret_three (by rw [longVal, Hr.out.2, Hnx.out]) (by rw [Hr.out.2]; omega) Hr.out.1.symm, rfl⟩
          · go_wp2
            go_round
            case rel => exact ⟨k + 1, nx, by omega, by omega, by go_num, rfl, hnx0, Hnx.out, by rw [take_snoc _ _ _ Hu.out]; intro x hx; rcases List.mem_append.1 hx with h | h; exact Hall.out x h; simp at h; omega⟩
            case measure => simp [intOf] <;> omega
        · have hk2 : k = 9 := by omega
          subst hk2
          have Hr := Lib.hid (end_long (b := b) (m := 9) Hall.out (by rw [Hlen.out]; omega))
          go_wp2
          all_goals (go_ret3; exact ⟨ret_three (by rw [longVal, Hr.out.2]; rfl) (by rw [Hr.out.2]; rfl) Hr.out.1.symm, rfl⟩)
      · have hk2 : k = n := by omega
        subst hk2
        have hrun : Runs b 9 := fun x hx => Hall.out x (by rw [List.take_of_length_le (by rw [Hlen.out]; omega)] at hx ⊢; exact hx)
        by_cases h6 : k < 9
        · have Hr := Lib.hid (end_short hrun (by rw [Hlen.out]; exact h6))
          clear hrun
          go_wp2
          all_goals (go_ret3; exact ⟨ret_three (by rw [longVal, Hr.out.2]; rfl) (by rw [Hr.out.2]; rfl) Hr.out.1.symm, rfl⟩)
        · have Hr := Lib.hid (end_long hrun (by rw [Hlen.out]; exact h6))
          clear hrun
          go_wp2
          all_goals (go_ret3; exact ⟨ret_three (by rw [longVal, Hr.out.2]; rfl) (by rw [Hr.out.2]; rfl) Hr.out.1.symm, rfl⟩)
set_option maxHeartbeats 400000 in
theorem long_any (A : Option Addr) (n c : Nat) (b : List Int) (w : World) (hx : Sl w A n (u8s b)) (hb : ∀ x ∈ b, 0 ≤ x ∧ x < 256) (hn : n ≤ 9223372036854775807) :
    Calls Try.prog 15 #[.slice A n c] w fun e w' => e = .returned (.tuple #[.int .i64 (longVal b), .int .i64 (endSize b 9), .int .i64 (endErr b 9)]) ∧ w' = w := by
  go_enter Try.func15, Try.ntmps15
  go_wp2_with fail
  refine (readint_any _ _ _ _ _ hx hb hn).mono ?_
  rintro e w' ⟨rfl, rfl⟩
  go_wp2_with fail
  go_ret3
  exact ⟨rfl, rfl⟩
end Go.Proofs.Ytkihafikidphnaa
