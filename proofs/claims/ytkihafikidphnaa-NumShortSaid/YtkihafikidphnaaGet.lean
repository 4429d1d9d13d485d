import Derived.Test.YtkihafikidphnaaPut
namespace Go.Proofs.Ytkihafikidphnaa
open Go.RowKit

/-- What 'Number' makes of 64 bits. -/
def numOf (xs : List Int) : Int := val 2 (xs.take 63) - 9223372036854775808 * xs.getD 63 0

set_option maxHeartbeats 800000 in
theorem number_any (A : Option Addr) (c : Nat) (xs : List Int) (w : World) (hx : Sl w A 64 (i64s xs)) (hb : ∀ x ∈ xs, 0 ≤ x ∧ x < 2) :
    Calls Try.prog 21 #[.slice A 64 c] w fun e w' => e = .returned (.int .i64 (numOf xs)) ∧ w' = w := by
  have hlen : xs.length = 64 := by simpa using hx.1
  have Hlen := Lib.hid hlen
  have Hb := Lib.hid hb
  clear hlen hb
  go_enter Try.func21, Try.ntmps21
  go_wp2
  go_loop [3, 4] (fun v i => ∃ (j : Nat) (q : Int), j ≤ 63 ∧ i = .int .i64 ((j : Int) - 1) ∧ v = .int .i64 q ∧ 0 ≤ q ∧ q < 9223372036854775808 ∧ q = val 2 ((xs.take 63).drop j)) (fun _ i => (intOf i + 1).toNat)
  case atStart => exact ⟨63, 0, by omega, by go_num, rfl, by omega, by omega, by rw [List.drop_of_length_le (by rw [List.length_take]; omega)]; rfl⟩
  case round =>
    obtain ⟨j, q, hj, rfl, rfl, q1, q2, hq⟩ := hrel
    have Hq := Lib.hid hq
    clear hq
    rcases j with _ | j
    · obtain ⟨ad, u, rfl, hc, hu⟩ := hx.num (k := 63) (by omega)
      have hu1 : 0 ≤ u ∧ u < 2 := Hb.out u (List.mem_of_getElem? hu)
      have hu2 : numOf xs = q - 9223372036854775808 * u := by rw [Hq.out]; simp [numOf, hu]
      have Hu := Lib.hid hu2
      have hc : w.cell? ⟨ad.block, ad.off + 63, none⟩ = some (.int .i64 u) := hc
      clear hu hu2
      by_cases hu3 : u = 1
      · go_wp2
        go_ret
        exact ⟨ret_int (by rw [Hu.out]; go_num), rfl⟩
      · go_wp2
        go_ret
        exact ⟨ret_int (by rw [Hu.out]; go_num), rfl⟩
    · obtain ⟨ad, u, rfl, hc, hu⟩ := hx.num (k := j) (by omega)
      have hu1 : 0 ≤ u ∧ u < 2 := Hb.out u (List.mem_of_getElem? hu)
      have Hu := Lib.hid hu
      clear hu
      have hd : 2 * q + u = val 2 ((xs.take 63).drop j) := by
        rw [drop_at (xs.take 63) j u (by rw [List.getElem?_take, if_pos (by omega)]; exact Hu.out), val_cons, Hq.out]; omega
      have hr := val_range 2 (by omega) ((xs.take 63).drop j) (fun x hx => Hb.out x (List.mem_of_mem_take (List.mem_of_mem_drop hx)))
      rw [← hd] at hr
      have hp : (2 : Int) ^ ((xs.take 63).drop j).length ≤ 2 ^ 63 := by
        exact_mod_cast Nat.pow_le_pow_right (show 0 < 2 by omega) (by simp; omega)
      have Hd := Lib.hid hd
      have b1 : 0 ≤ 2 * q + u := hr.1
      have b2 : 2 * q + u < 9223372036854775808 := by have := hr.2; omega
      clear hd hr hp
      go_wp2
      go_roundw
      case rel => exact ⟨j, 2 * q + u, by omega, by go_num, by go_num, b1, b2, Hd.out⟩
      case measure => simp [intOf] <;> omega

theorem val_bits8 (x : Int) (h : 0 ≤ x ∧ x < 256) : val 2 (bitsTo x 8) = x := by
  simp [bitsTo, List.range_succ, val]
  omega
theorem bits_flat (b : List Int) (h : ∀ x ∈ b, 0 ≤ x ∧ x < 256) : val 2 (b.flatMap fun x => bitsTo x 8) = val 256 b := by
  induction b with
  | nil => rfl
  | cons x b ih =>
    rw [List.flatMap_cons, val_append, val_bits8 x (h x List.mem_cons_self), ih fun y hy => h y (List.mem_cons_of_mem _ hy), bitsTo_length, val_cons]
    rfl
theorem flat_len (b : List Int) : (b.flatMap fun x => bitsTo x 8).length = 8 * b.length := by
  induction b with
  | nil => rfl
  | cons x b ih => rw [List.flatMap_cons, List.length_append, ih, bitsTo_length, List.length_cons]; omega
theorem flat_bit (b : List Int) : ∀ x ∈ (b.flatMap fun x => bitsTo x 8), 0 ≤ x ∧ x < 2 := by
  intro x hx
  obtain ⟨y, _, hy⟩ := List.mem_flatMap.1 hx
  simp only [bitsTo, List.mem_map] at hy
  obtain ⟨j, _, rfl⟩ := hy
  omega
theorem numOf_val (xs : List Int) (hl : xs.length = 64) (h : ∀ x ∈ xs, 0 ≤ x ∧ x < 2) : numOf xs = wrap64 (val 2 xs) := by
  have e : xs = xs.take 63 ++ [xs.getD 63 0] := by
    conv => lhs; rw [← List.take_append_drop 63 xs]
    rw [drop_at xs 63 (xs.getD 63 0) (by simp [List.getElem?_eq_getElem (show 63 < xs.length by omega)]), List.drop_of_length_le (by omega)]
  have hr := val_range 2 (by omega) (xs.take 63) fun x hx => h x (List.mem_of_mem_take hx)
  have hl2 : (xs.take 63).length = 63 := by rw [List.length_take]; omega
  have hu : 0 ≤ xs.getD 63 0 ∧ xs.getD 63 0 < 2 := h _ (by simp [List.getElem?_eq_getElem (show 63 < xs.length by omega)])
  have hv : val 2 xs = val 2 (xs.take 63) + 2 ^ 63 * xs.getD 63 0 := by conv => lhs; rw [e, val_snoc, hl2]
  rw [hl2] at hr
  unfold numOf
  rw [hv]
  unfold wrap64
  omega

def getVal (b : List Int) : Int := if b.length = 8 then wrap64 (val 256 b) else 0
def getErr (n : Nat) : Int := if n < 8 then 10 else if 8 < n then 12 else 0
theorem getVal_not {b : List Int} (h : b.length ≠ 8) : getVal b = 0 := by rw [getVal, if_neg h]
theorem getVal_is {b : List Int} (h : b.length = 8) : getVal b = wrap64 (val 256 b) := by rw [getVal, if_pos h]
theorem getErr_lo {n : Nat} (h : n < 8) : getErr n = 10 := by rw [getErr, if_pos h]
theorem getErr_hi {n : Nat} (h : 8 < n) : getErr n = 12 := by rw [getErr, if_neg (by omega), if_pos h]

theorem ret_two {k k' : IntKind} {a b c d : Int} (h : a = b) (h' : c = d) : Ending.returned (.tuple #[.int k a, .int k' c]) = .returned (.tuple #[.int k b, .int k' d]) := by rw [h, h']

set_option maxHeartbeats 800000 in
theorem rget_any (A : Option Addr) (n c : Nat) (b : List Int) (w : World) (hx : Sl w A n (u8s b)) (hb : ∀ x ∈ b, 0 ≤ x ∧ x < 256) (hn : n ≤ 1000) :
    Calls Try.prog 9 #[.slice A n c] w fun e w' => Below w.heap.size w w' ∧
      e = .returned (.tuple #[.int .i64 (getVal b), .int .i64 (getErr n)]) := by
  have hlen : b.length = n := by simpa using hx.1
  have Hlen := Lib.hid hlen
  clear hlen
  by_cases h1 : n < 8
  · go_enter Try.func9, Try.ntmps9
    go_wp2
    go_ret2
    exact ⟨Below.refl _ _, ret_two (getVal_not (by rw [Hlen.out]; omega)).symm (getErr_lo h1).symm⟩
  · by_cases h2 : 8 < n
    · go_enter Try.func9, Try.ntmps9
      go_wp2
      go_ret2
      exact ⟨Below.refl _ _, ret_two (getVal_not (by rw [Hlen.out]; omega)).symm (getErr_hi h2).symm⟩
    · obtain rfl : n = 8 := by omega
      clear hn h1 h2
      have Hb := Lib.hid hb
      clear hb
      obtain ⟨i0, hi0, hz0, hz1, hz2⟩ := info_parts info_int
      go_enter Try.func9, Try.ntmps9
      go_wp2
      go_loopw [4, 5] (fun v i wr => ∃ k : Nat, k ≤ 8 ∧ i = .int .i64 k ∧ wr.ownsRow w.heap.size 3 1 v (8 * k) (i64s ((b.take k).flatMap fun x => bitsTo x 8)) ∧ Below w.heap.size w wr) (fun _ i _ => 8 - (intOf i).toNat)
      case atStart => exact ⟨0, by omega, rfl, World.ownsRow_nil _ _ _ _, Below.refl _ _⟩
      case round =>
        obtain ⟨k, hk, rfl, hown, hbl⟩ := hrel
        have hs := hx.below hbl
        by_cases hlt : k < 8
        · have hsz := hbl.size
          obtain ⟨ad, u, rfl, hc, hu⟩ := hs.num hlt
          have hu1 : 0 ≤ u ∧ u < 256 := Hb.out u (List.mem_of_getElem? hu)
          have Hu := Lib.hid hu
          clear hu
          obtain ⟨wo, rfl⟩ : ∃ wo : World, wo = wr := ⟨_, rfl⟩
          have hd : decide ((k : Int) < 8) = true := decide_eq_true (by omega)
          go_wp2
          go_loopw [4, 6, 7] (fun v q i wr => ∃ (j : Nat) (r : Int), j ≤ 8 ∧ i = .int .i64 j ∧ q = .int .i64 r ∧ 0 ≤ r ∧ r < 256 ∧ r = u / 2 ^ j ∧ wr.ownsRow w.heap.size 3 1 v (8 * k + j) (i64s ((b.take k).flatMap (fun x => bitsTo x 8) ++ bitsTo u j)) ∧ Below w.heap.size w wr) (fun _ _ i _ => 8 - (intOf i).toNat)
          case atStart => exact ⟨0, u, by omega, rfl, rfl, hu1.1, hu1.2, by simp, by simpa [bitsTo] using hown, hbl⟩
          case round =>
            obtain ⟨j, r, hj, rfl, rfl, r1, r2, hr, hown2, hbl2⟩ := hrel
            have Hr := Lib.hid hr
            clear hr
            by_cases hjl : j < 8
            · have hsz2 := hbl2.size
              go_wp2_with (at_builtin; refine wpList_push _ _ 40 3 i0 _ _ 8 rfl rfl Try.underlying40 hi0 hz0 hz1 hz2 rfl w.heap.size _ _ _ hown2 rfl rfl rfl (by omega) (by omega) hsz2 ?_; intro v' w2 hown3 hg2 hb2 hs2)
              go_roundw
              case rel =>
                refine ⟨j + 1, r / 2, by omega, by go_num, rfl, by omega, by omega, by rw [Hr.out, half_pow], ?_, hbl2.trans hb2⟩
                rw [bitsTo_succ, ← Hr.out, ← List.append_assoc]
                simpa [i64s, Nat.add_assoc] using hown3
              case measure => simp [intOf] <;> omega
            · obtain rfl : j = 8 := by omega
              go_wp2
              go_roundw
              case rel =>
                refine ⟨k + 1, by omega, by go_num, ?_, hbl2⟩
                rw [take_snoc _ _ _ Hu.out, List.flatMap_append]
                simpa [Nat.mul_add] using hown2
              case measure => simp [intOf] <;> omega
        · obtain rfl : k = 8 := by omega
          rw [List.take_of_length_le (by rw [Hlen.out]; omega)] at hown
          obtain ⟨A', c', rfl, hsl⟩ := own_form hown
          clear hown
          go_wp2_with (go_at_call 21; refine (number_any _ _ _ _ hsl (flat_bit b)).mono ?_; rintro e w' ⟨rfl, rfl⟩)
          go_ret2
          exact ⟨hbl, ret_two (by rw [numOf_val _ (by rw [flat_len, Hlen.out]) (flat_bit b), bits_flat b Hb.out, getVal_is Hlen.out]) rfl⟩
end Go.Proofs.Ytkihafikidphnaa
