import Derived.Test.YtcfpjbbahpjhdaaRead
import Derived.Test.YtcfpjbbahpjhdaaVals
namespace Go.Proofs.Ytcfpjbbahpjhdaa
open Go.RowKit

set_option maxHeartbeats 1000000 in
theorem ends_any (A : Option Addr) (n c : Nat) (b : List Int) (m : Nat) (w : World) (hx : Sl w A n (u8s b)) (hb : ∀ x ∈ b, 0 ≤ x ∧ x < 256) (hn : n ≤ 9223372036854775807) (hm : m ≤ 1000) :
    Calls Try.prog 32 #[.slice A n c, .int .i64 m] w fun e w' => e = .returned (.tuple #[.int .i64 (endSize b m), .int .i64 (endErr b m)]) ∧ w' = w := by
  have hlen : b.length = n := by simpa using hx.1
  have Hlen := Lib.hid hlen
  have Hb := Lib.hid hb
  clear hlen hb
  go_enter Try.func32, Try.ntmps32
  go_wp2
  go_loop [6] (fun i => ∃ k : Nat, k ≤ n ∧ k ≤ m ∧ i = .int .i64 k ∧ ∀ x ∈ b.take k, 128 ≤ x) (fun i => n - (intOf i).toNat)
  case atStart => exact ⟨0, by omega, by omega, rfl, by simp⟩
  case round =>
    obtain ⟨k, hk, hkm, rfl, hall⟩ := hrel
    have Hall := Lib.hid hall
    clear hall
    by_cases h1 : k < n
    · by_cases h2 : k < m
      · obtain ⟨ad, u, rfl, hc, hu⟩ := hx.num h1
        have hu1 : 0 ≤ u ∧ u < 256 := Hb.out u (List.mem_of_getElem? hu)
        have Hu := Lib.hid hu
        clear hu
        by_cases h3 : u < 128
        · have hst := Lib.hid (show Stops b m k u from ⟨h2, Hu.out, h3, Hall.out⟩)
          by_cases h4 : 0 < k
          · by_cases h5 : u = 0
            · subst h5
              have Hr := Lib.hid (end_zero hst.out h4)
              go_wp2
              go_ret2
              exact ⟨ret_two (by rw [Hr.out.2]; rfl) Hr.out.1.symm, rfl⟩
            · have Hr := Lib.hid (end_ok hst.out (fun h => h5 h.2))
              go_wp2
              go_ret2
              exact ⟨ret_two (by rw [Hr.out.2]; omega) Hr.out.1.symm, rfl⟩
          · have Hr := Lib.hid (end_ok hst.out (fun h => h4 h.1))
            go_wp2
            go_ret2
            exact ⟨ret_two (by rw [Hr.out.2]; omega) Hr.out.1.symm, rfl⟩
        · go_wp2
          go_round
          case rel => exact ⟨k + 1, by omega, by omega, by go_num, by rw [take_snoc _ _ _ Hu.out]; intro x hx; rcases List.mem_append.1 hx with h | h; exact Hall.out x h; simp at h; omega⟩
          case measure => simp [intOf] <;> omega
      · have hk2 : k = m := by omega
        subst hk2
        have Hr := Lib.hid (end_long (b := b) (m := k) Hall.out (by rw [Hlen.out]; omega))
        go_wp2
        go_ret2
        exact ⟨ret_two (by rw [Hr.out.2]; rfl) Hr.out.1.symm, rfl⟩
    · have hk2 : k = n := by omega
      subst hk2
      have hrun : Runs b m := fun x hx => Hall.out x (by rw [List.take_of_length_le (by rw [Hlen.out]; omega)] at hx ⊢; exact hx)
      by_cases h6 : k < m
      · have Hr := Lib.hid (end_short hrun (by rw [Hlen.out]; exact h6))
        clear hrun
        go_wp2
        go_ret2
        exact ⟨ret_two (by rw [Hr.out.2]; rfl) Hr.out.1.symm, rfl⟩
      · have Hr := Lib.hid (end_long hrun (by rw [Hlen.out]; exact h6))
        clear hrun
        go_wp2
        go_ret2
        exact ⟨ret_two (by rw [Hr.out.2]; rfl) Hr.out.1.symm, rfl⟩
end Go.Proofs.Ytcfpjbbahpjhdaa
