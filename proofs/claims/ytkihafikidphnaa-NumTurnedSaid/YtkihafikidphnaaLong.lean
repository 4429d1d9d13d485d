import Derived.Test.YtkihafikidphnaaEnds
namespace Go.Proofs.Ytkihafikidphnaa
open Go.RowKit

theorem longVal_bad {b : List Int} (h : endErr b 9 ≠ 0) : longVal b = 0 := by
  unfold longVal; rw [end_bad h]; rfl

set_option maxHeartbeats 1000000 in
theorem rlong_any (A : Option Addr) (n c : Nat) (b : List Int) (w : World) (hx : Sl w A n (u8s b)) (hb : ∀ x ∈ b, 0 ≤ x ∧ x < 256) (hn : n ≤ 9223372036854775807) :
    Calls Try.prog 16 #[.slice A n c] w fun e w' => e = .returned (.tuple #[.int .i64 (longVal b), .int .i64 (endSize b 9), .int .i64 (endErr b 9)]) ∧ w' = w := by
  have hlen : b.length = n := by simpa using hx.1
  have Hlen := Lib.hid hlen
  have Hb := Lib.hid hb
  clear hlen hb
  by_cases he : endErr b 9 = 0
  · obtain ⟨s1, s2, s3⟩ := end_good he
    have He := Lib.hid he
    clear he
    rw [Hlen.out] at s3
    obtain ⟨sz, hsz⟩ : ∃ sz, sz = endSize b 9 := ⟨_, rfl⟩
    rw [← hsz] at s1 s2 s3
    have Hsz := Lib.hid hsz
    clear hsz
    have hz : endErr b 9 = 0 ∧ endSize b 9 = sz := ⟨He.out, Hsz.out.symm⟩
    have Hz := Lib.hid hz
    clear hz
    go_enter Try.func16, Try.ntmps16
    go_wp2_with (go_at_call 25; refine (ends_any _ _ _ _ 9 _ hx Hb.out hn (by omega)).mono ?_; rintro e w' ⟨rfl, rfl⟩; rw [Hz.out.1, Hz.out.2])
    go_loop [7, 8] (fun v i => ∃ (j : Nat) (q : Int), j ≤ sz ∧ i = .int .i64 j ∧ v = .int .i64 q ∧ 0 ≤ q ∧ q < 9223372036854775808 ∧ q = val 128 ((digs b sz).drop j)) (fun _ i => (intOf i).toNat)
    case atStart => exact ⟨sz, 0, by omega, rfl, rfl, by omega, by omega, by rw [List.drop_of_length_le (by rw [digs_length (by rw [Hlen.out]; omega)]; omega)]; rfl⟩
    case round =>
      obtain ⟨j, q, hj, rfl, rfl, q1, q2, hq⟩ := hrel
      have Hq := Lib.hid hq
      clear hq
      rcases j with _ | j
      · go_wp2
        go_ret3
        exact ⟨ret_three (by rw [Hq.out, longVal, Hz.out.2]; rfl) (by rw [Hz.out.2]) He.out.symm, rfl⟩
      · obtain ⟨ad, u, rfl, hc, hu⟩ := hx.num (k := j) (by omega)
        have hu1 : 0 ≤ u ∧ u < 256 := Hb.out u (List.mem_of_getElem? hu)
        have Hu := Lib.hid hu
        clear hu
        have hd : 128 * q + u % 128 = val 128 ((digs b sz).drop j) := by
          rw [drop_at (digs b sz) j (u % 128) (by unfold digs; rw [List.getElem?_map, List.getElem?_take, if_pos (by omega), Hu.out]; rfl), val_cons, Hq.out]; omega
        have hr := val_range 128 (by omega) ((digs b sz).drop j) (fun x hx => digs_range b sz x (List.mem_of_mem_drop hx))
        rw [← hd] at hr
        have hp : (128 : Int) ^ ((digs b sz).drop j).length ≤ 128 ^ 9 := by
          exact_mod_cast Nat.pow_le_pow_right (show 0 < 128 by omega) (by rw [List.length_drop, digs_length (by rw [Hlen.out]; omega)]; omega)
        have Hd := Lib.hid hd
        have b1 : 0 ≤ 128 * q + u % 128 := hr.1
        have b2 : 128 * q + u % 128 < 9223372036854775808 := by have := hr.2; omega
        clear hd hr hp
        go_wp2
        go_round
        case rel => exact ⟨j, 128 * q + u % 128, by omega, by go_num, by go_num, b1, b2, Hd.out⟩
        case measure => simp [intOf] <;> omega
  · have He := Lib.hid he
    have hne : (endErr b 9 == 0) = false := by simpa using he
    have hne2 : (endErr b 9 != 0) = true := by simpa using he
    have Hv := Lib.hid (longVal_bad he)
    have Hs := Lib.hid (end_bad he)
    clear he
    go_enter Try.func16, Try.ntmps16
    go_wp2_with (go_at_call 25; refine (ends_any _ _ _ _ 9 _ hx Hb.out hn (by omega)).mono ?_; rintro e w' ⟨rfl, rfl⟩)
    go_ret3
    exact ⟨ret_three Hv.out.symm (by rw [Hs.out]; rfl) rfl, rfl⟩
end Go.Proofs.Ytkihafikidphnaa
