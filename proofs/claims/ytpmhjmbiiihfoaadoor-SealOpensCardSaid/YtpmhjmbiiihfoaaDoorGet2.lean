import Derived.Test.YtpmhjmbiiihfoaaDoorGet
namespace Go.Proofs.YtpmhjmbiiihfoaaDoor
open Go.RowKit

set_option maxHeartbeats 800000 in
theorem get_any (A : Option Addr) (n c : Nat) (b : List Int) (w : World) (hx : Sl w A n (u8s b)) (hb : ∀ x ∈ b, 0 ≤ x ∧ x < 256) (hn : n ≤ 1000) :
    Calls Tryd.prog 19 #[.slice A n c] w fun e w' => Below w.heap.size w w' ∧
      e = .returned (.tuple #[.int .i64 (getVal b), .int .i64 (getErr n)]) := by
  have hlen : b.length = n := by simpa using hx.1
  have Hlen := Lib.hid hlen
  clear hlen
  by_cases h1 : n < 8
  · go_enter Tryd.func19, Tryd.ntmps19
    go_wp2
    go_ret2
    exact ⟨Below.refl _ _, ret_two (getVal_not (by rw [Hlen.out]; omega)).symm (getErr_lo h1).symm⟩
  · by_cases h2 : 8 < n
    · go_enter Tryd.func19, Tryd.ntmps19
      go_wp2
      go_ret2
      exact ⟨Below.refl _ _, ret_two (getVal_not (by rw [Hlen.out]; omega)).symm (getErr_hi h2).symm⟩
    · obtain rfl : n = 8 := by omega
      clear hn h1 h2
      have Hb := Lib.hid hb
      clear hb
      go_enter Tryd.func19, Tryd.ntmps19
      go_wp2
      go_loop [4, 15] (fun v i => ∃ (k : Nat) (q : Int), k ≤ 8 ∧ i = .int .i64 k ∧ v = .int .u64 q ∧ 0 ≤ q ∧ q < 18446744073709551616 ∧ q = val 256 (b.take k)) (fun _ i => 8 - (intOf i).toNat)
      case atStart => exact ⟨0, 0, by omega, rfl, rfl, by omega, by omega, rfl⟩
      case round =>
        obtain ⟨k, q, hk, rfl, rfl, q1, q2, hq⟩ := hrel
        have Hq := Lib.hid hq
        clear hq
        by_cases hlt : k < 8
        · obtain ⟨ad, u, rfl, hc, hu⟩ := hx.num hlt
          have hu1 : 0 ≤ u ∧ u < 256 := Hb.out u (List.mem_of_getElem? hu)
          have Hu := Lib.hid hu
          clear hu
          have hr := val_range 256 (by omega) (b.take k) fun x hx => Hb.out x (List.mem_of_mem_take hx)
          have hl : (b.take k).length = k := by rw [List.length_take, Hlen.out]; omega
          rw [← Hq.out, hl, ← pow256] at hr
          have hj := or_join q u (8 * k) 8 q1 hr.2 hu1.1 hu1.2 (by omega)
          have hv : q + u * 2 ^ (8 * k) = val 256 (b.take (k + 1)) := by rw [take_snoc _ _ _ Hu.out, val_snoc, hl, ← Hq.out, ← pow256, Int.mul_comm u]
          have hn : 0 ≤ u * 2 ^ (8 * k) := Int.mul_nonneg hu1.1 (Int.le_of_lt (Int.pow_pos (by omega)))
          have Hj := Lib.hid hj; have Hv := Lib.hid hv; have Hn := Lib.hid hn
          clear hj hv hr hl hn
          go_wp2
          go_roundw
          case rel => exact ⟨k + 1, q + u * 2 ^ (8 * k), by omega, by go_num, val_int Hj.out.1, by have := Hn.out; omega, Hj.out.2, Hv.out⟩
          case measure => simp [intOf] <;> omega
        · obtain rfl : k = 8 := by omega
          go_wp2
          go_ret2
          exact ⟨Below.refl _ _, ret_two (by rw [Hq.out, List.take_of_length_le (by rw [Hlen.out]; omega), getVal_is Hlen.out]) rfl⟩
end Go.Proofs.YtpmhjmbiiihfoaaDoor
