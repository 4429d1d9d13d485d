import Derived.Test.YtpmhjmbiiihfoaaDoorBits
namespace Go.Proofs.YtpmhjmbiiihfoaaDoor
open Go.RowKit

/-- What 'Number' makes of 64 bits. -/
def numOf (xs : List Int) : Int := val 2 (xs.take 63) - 9223372036854775808 * xs.getD 63 0

set_option maxHeartbeats 800000 in
theorem number_any (A : Option Addr) (c : Nat) (xs : List Int) (w : World) (hx : Sl w A 64 (i64s xs)) (hb : ∀ x ∈ xs, 0 ≤ x ∧ x < 2) :
    Calls Tryd.prog 24 #[.slice A 64 c] w fun e w' => e = .returned (.int .i64 (numOf xs)) ∧ w' = w := by
  have hlen : xs.length = 64 := by simpa using hx.1
  have Hlen := Lib.hid hlen
  have Hb := Lib.hid hb
  clear hlen hb
  go_enter Tryd.func24, Tryd.ntmps24
  go_wp2
  go_loop [3, 4] (fun v i => ∃ (j : Nat) (q : Int), j ≤ 63 ∧ i = .int .i64 ((j : Int) - 1) ∧ v = .int .i64 q ∧ 0 ≤ q ∧ q < 9223372036854775808 ∧ q = val 2 ((xs.take 63).drop j)) (fun _ i => (intOf i + 1).toNat)
  case atStart => exact ⟨63, 0, by omega, by go_num, rfl, by omega, by omega, by rw [List.drop_of_length_le (by rw [List.length_take]; omega)]; rfl⟩
  case round =>
    obtain ⟨j, q, hj, rfl, rfl, q1, q2, hq⟩ := hrel
    have Hq := Lib.hid hq
    clear hq
    rcases j with _ | j
    · obtain ⟨ad, u, rfl, hc, hu⟩ := hx.num (k := 63) (by omega)
      have hu1 : 0 ≤ u ∧ u < 2 := Hb.out u (List.mem_of_getElem? hu)
      have hu2 : numOf xs = q - 9223372036854775808 * u := by rw [Hq.out]; simp [numOf, hu]
      have Hu := Lib.hid hu2
      have hc : w.cell? ⟨ad.block, ad.off + 63, none⟩ = some (.int .i64 u) := hc
      clear hu hu2
      by_cases hu3 : u = 1
      · go_wp2
        go_ret
        exact ⟨ret_int (by rw [Hu.out]; go_num), rfl⟩
      · go_wp2
        go_ret
        exact ⟨ret_int (by rw [Hu.out]; go_num), rfl⟩
    · obtain ⟨ad, u, rfl, hc, hu⟩ := hx.num (k := j) (by omega)
      have hu1 : 0 ≤ u ∧ u < 2 := Hb.out u (List.mem_of_getElem? hu)
      have Hu := Lib.hid hu
      clear hu
      have hd : 2 * q + u = val 2 ((xs.take 63).drop j) := by
        rw [drop_at (xs.take 63) j u (by rw [List.getElem?_take, if_pos (by omega)]; exact Hu.out), val_cons, Hq.out]; omega
      have hr := val_range 2 (by omega) ((xs.take 63).drop j) (fun x hx => Hb.out x (List.mem_of_mem_take (List.mem_of_mem_drop hx)))
      rw [← hd] at hr
      have hp : (2 : Int) ^ ((xs.take 63).drop j).length ≤ 2 ^ 63 := by
        exact_mod_cast Nat.pow_le_pow_right (show 0 < 2 by omega) (by simp; omega)
      have Hd := Lib.hid hd
      have b1 : 0 ≤ 2 * q + u := hr.1
      have b2 : 2 * q + u < 9223372036854775808 := by have := hr.2; omega
      clear hd hr hp
      go_wp2
      go_roundw
      case rel => exact ⟨j, 2 * q + u, by omega, by go_num, by go_num, b1, b2, Hd.out⟩
      case measure => simp [intOf] <;> omega

theorem numOf_val (xs : List Int) (hl : xs.length = 64) (h : ∀ x ∈ xs, 0 ≤ x ∧ x < 2) : numOf xs = wrap64 (val 2 xs) := by
  have e : xs = xs.take 63 ++ [xs.getD 63 0] := by
    conv => lhs; rw [← List.take_append_drop 63 xs]
    rw [drop_at xs 63 (xs.getD 63 0) (by simp [List.getElem?_eq_getElem (show 63 < xs.length by omega)]), List.drop_of_length_le (by omega)]
  have hr := val_range 2 (by omega) (xs.take 63) fun x hx => h x (List.mem_of_mem_take hx)
  have hl2 : (xs.take 63).length = 63 := by rw [List.length_take]; omega
  have hu : 0 ≤ xs.getD 63 0 ∧ xs.getD 63 0 < 2 := h _ (by simp [List.getElem?_eq_getElem (show 63 < xs.length by omega)])
  have hv : val 2 xs = val 2 (xs.take 63) + 2 ^ 63 * xs.getD 63 0 := by conv => lhs; rw [e, val_snoc, hl2]
  rw [hl2] at hr
  unfold numOf
  rw [hv]
  unfold wrap64
  omega
end Go.Proofs.YtpmhjmbiiihfoaaDoor
