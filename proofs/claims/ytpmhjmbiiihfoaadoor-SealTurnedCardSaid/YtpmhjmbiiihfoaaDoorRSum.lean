import Derived.Test.YtpmhjmbiiihfoaaDoorRBits
namespace Go.Proofs.YtpmhjmbiiihfoaaDoor
open Go.RowKit

theorem val_drop_next {L : List Int} {j : Nat} {u : Int} (hu : L[j]? = some u) : val 2 (L.drop j) = u + 2 * val 2 (L.drop (j + 1)) := by
  rw [drop_at L j u hu, val_cons]

set_option maxHeartbeats 1600000 in
theorem rsum_any (A : Option Addr) (n c : Nat) (xs : List Int) (w : World) (hx : Sl w A n (u8s xs)) (hb : Bytes xs) (hn : n ≤ 1000) :
    Calls Tryd.prog 23 #[.slice A n c] w fun e w' => e = .returned (.int .i64 ((ones ^^^ reg ones xs : Nat) : Int)) ∧ Below w.heap.size w w' := by
  have hlt := flip_lt (reg_lt ones_lt hb)
  have Hb := Lib.hid hb
  go_enter Tryd.func23, Tryd.ntmps23
  go_wp2_with fail
  refine (rbits_any A n c xs w hx Hb.out hn).mono ?_
  rintro e w1 ⟨v1, rfl, hown1, hb1⟩
  obtain ⟨B, cb, rfl, hs⟩ := own_form hown1
  clear hown1 hx hb
  obtain ⟨f, hf⟩ : ∃ f, f = ones ^^^ reg ones xs := ⟨_, rfl⟩
  rw [← hf] at hs hlt
  have Hf := Lib.hid hf
  have hbits : ∀ x ∈ bl f, 0 ≤ x ∧ x < 2 := by
    intro x hx
    obtain ⟨i, _, rfl⟩ := List.mem_map.1 hx
    exact bit_range _ _
  have Hbits := Lib.hid hbits
  clear hf hbits
  go_wp2_with fail
  go_loop [4, 5] (fun v i => ∃ (j : Nat) (q iv : Int), j ≤ 32 ∧ i = .int .i64 iv ∧ iv = (j : Int) - 1 ∧ v = .int .i64 q ∧ 0 ≤ q ∧ q < 2 ^ (32 - j) ∧ q = val 2 ((bl f).drop j)) (fun _ i => (intOf i + 1).toNat)
  case atStart => exact ⟨32, 0, 31, by omega, rfl, by omega, rfl, by omega, by omega, by rw [List.drop_of_length_le (by rw [bl_length]; omega)]; rfl⟩
  case round =>
    obtain ⟨j, q, iv, hj, rfl, hiv, rfl, q1, q2, hq⟩ := hrel
    have Hq := Lib.hid hq
    clear hq
    rcases j with _ | j
    · obtain rfl : iv = -1 := by omega
      have hqf : q = (f : Int) := by rw [Hq.out, List.drop_zero, val_bl hlt]
      clear hiv q1 q2
      go_wp2
      go_ret
      exact ⟨ret_int (by rw [Hf.out]), hb1⟩
    · obtain rfl : iv = (j : Int) := by omega
      clear hiv
      obtain ⟨ad, u, rfl, hc, hu⟩ := hs.num (k := j) (by omega)
      have hu1 : 0 ≤ u ∧ u < 2 := Hbits.out u (List.mem_of_getElem? hu)
      have Hn := Lib.hid (val_drop_next hu)
      have hq3 : 2 * q + u < 2 ^ (32 - j) := by
        rw [show 32 - j = (32 - (j + 1)) + 1 by omega, Int.pow_succ]; omega
      have hq4 : q < 4294967296 := by
        have : (2 : Int) ^ (32 - (j + 1)) ≤ 2 ^ 32 := by exact_mod_cast Nat.pow_le_pow_right (show 0 < 2 by omega) (by omega)
        omega
      clear hu q2
      go_wp2
      go_round
      case rel => exact ⟨j, 2 * q + u, (j : Int) - 1, by omega, by go_num, rfl, by go_num, by omega, hq3, by rw [Hn.out, ← Hq.out]; omega⟩
      case measure => simp [intOf] <;> omega
end Go.Proofs.YtpmhjmbiiihfoaaDoor
