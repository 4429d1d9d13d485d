import Derived.Test.YtpmhjmbiiihfoaaDoorPut
import Derived.Test.YtpmhjmbiiihfoaaDoorNumber
namespace Go.Proofs.YtpmhjmbiiihfoaaDoor
open Go.RowKit

theorem val_bits8 (x : Int) (h : 0 ≤ x ∧ x < 256) : val 2 (bitsTo x 8) = x := by
  simp [bitsTo, List.range_succ, val]
  omega
theorem bits_flat (b : List Int) (h : ∀ x ∈ b, 0 ≤ x ∧ x < 256) : val 2 (b.flatMap fun x => bitsTo x 8) = val 256 b := by
  induction b with
  | nil => rfl
  | cons x b ih =>
    rw [List.flatMap_cons, val_append, val_bits8 x (h x List.mem_cons_self), ih fun y hy => h y (List.mem_cons_of_mem _ hy), bitsTo_length, val_cons]
    rfl
theorem flat_len (b : List Int) : (b.flatMap fun x => bitsTo x 8).length = 8 * b.length := by
  induction b with
  | nil => rfl
  | cons x b ih => rw [List.flatMap_cons, List.length_append, ih, bitsTo_length, List.length_cons]; omega
theorem flat_bit (b : List Int) : ∀ x ∈ (b.flatMap fun x => bitsTo x 8), 0 ≤ x ∧ x < 2 := by
  intro x hx
  obtain ⟨y, _, hy⟩ := List.mem_flatMap.1 hx
  simp only [bitsTo, List.mem_map] at hy
  obtain ⟨j, _, rfl⟩ := hy
  omega
def getVal (b : List Int) : Int := if b.length = 8 then wrap64 (val 256 b) else 0
def getErr (n : Nat) : Int := if n < 8 then 10 else if 8 < n then 12 else 0
theorem getVal_not {b : List Int} (h : b.length ≠ 8) : getVal b = 0 := by rw [getVal, if_neg h]
theorem getVal_is {b : List Int} (h : b.length = 8) : getVal b = wrap64 (val 256 b) := by rw [getVal, if_pos h]
theorem getErr_lo {n : Nat} (h : n < 8) : getErr n = 10 := by rw [getErr, if_pos h]
theorem getErr_hi {n : Nat} (h : 8 < n) : getErr n = 12 := by rw [getErr, if_neg (by omega), if_pos h]



set_option maxHeartbeats 800000 in
theorem rget_any (A : Option Addr) (n c : Nat) (b : List Int) (w : World) (hx : Sl w A n (u8s b)) (hb : ∀ x ∈ b, 0 ≤ x ∧ x < 256) (hn : n ≤ 1000) :
    Calls Tryd.prog 20 #[.slice A n c] w fun e w' => Below w.heap.size w w' ∧
      e = .returned (.tuple #[.int .i64 (getVal b), .int .i64 (getErr n)]) := by
  have hlen : b.length = n := by simpa using hx.1
  have Hlen := Lib.hid hlen
  clear hlen
  by_cases h1 : n < 8
  · go_enter Tryd.func20, Tryd.ntmps20
    go_wp2
    go_ret2
    exact ⟨Below.refl _ _, ret_two (getVal_not (by rw [Hlen.out]; omega)).symm (getErr_lo h1).symm⟩
  · by_cases h2 : 8 < n
    · go_enter Tryd.func20, Tryd.ntmps20
      go_wp2
      go_ret2
      exact ⟨Below.refl _ _, ret_two (getVal_not (by rw [Hlen.out]; omega)).symm (getErr_hi h2).symm⟩
    · obtain rfl : n = 8 := by omega
      clear hn h1 h2
      have Hb := Lib.hid hb
      clear hb
      obtain ⟨i0, hi0, hz0, hz1, hz2⟩ := info_parts info_int
      go_enter Tryd.func20, Tryd.ntmps20
      go_wp2
      go_loopw [4, 5] (fun v i wr => ∃ k : Nat, k ≤ 8 ∧ i = .int .i64 k ∧ wr.ownsRow w.heap.size 3 1 v (8 * k) (i64s ((b.take k).flatMap fun x => bitsTo x 8)) ∧ Below w.heap.size w wr) (fun _ i _ => 8 - (intOf i).toNat)
      case atStart => exact ⟨0, by omega, rfl, World.ownsRow_nil _ _ _ _, Below.refl _ _⟩
      case round =>
        obtain ⟨k, hk, rfl, hown, hbl⟩ := hrel
        have hs := hx.below hbl
        by_cases hlt : k < 8
        · have hsz := hbl.size
          obtain ⟨ad, u, rfl, hc, hu⟩ := hs.num hlt
          have hu1 : 0 ≤ u ∧ u < 256 := Hb.out u (List.mem_of_getElem? hu)
          have Hu := Lib.hid hu
          clear hu
          obtain ⟨wo, rfl⟩ : ∃ wo : World, wo = wr := ⟨_, rfl⟩
          have hd : decide ((k : Int) < 8) = true := decide_eq_true (by omega)
          go_wp2
          go_loopw [4, 6, 7] (fun v q i wr => ∃ (j : Nat) (r : Int), j ≤ 8 ∧ i = .int .i64 j ∧ q = .int .i64 r ∧ 0 ≤ r ∧ r < 256 ∧ r = u / 2 ^ j ∧ wr.ownsRow w.heap.size 3 1 v (8 * k + j) (i64s ((b.take k).flatMap (fun x => bitsTo x 8) ++ bitsTo u j)) ∧ Below w.heap.size w wr) (fun _ _ i _ => 8 - (intOf i).toNat)
          case atStart => exact ⟨0, u, by omega, rfl, rfl, hu1.1, hu1.2, by simp, by simpa [bitsTo] using hown, hbl⟩
          case round =>
            obtain ⟨j, r, hj, rfl, rfl, r1, r2, hr, hown2, hbl2⟩ := hrel
            have Hr := Lib.hid hr
            clear hr
            by_cases hjl : j < 8
            · have hsz2 := hbl2.size
              go_wp2_with (at_builtin; refine wpList_push _ _ 55 3 i0 _ _ 8 rfl rfl Tryd.underlying55 hi0 hz0 hz1 hz2 rfl w.heap.size _ _ _ hown2 rfl rfl rfl (by omega) (by omega) hsz2 ?_; intro v' w2 hown3 hg2 hb2 hs2)
              go_roundw
              case rel =>
                refine ⟨j + 1, r / 2, by omega, by go_num, rfl, by omega, by omega, by rw [Hr.out, half_pow], ?_, hbl2.trans hb2⟩
                rw [bitsTo_succ, ← Hr.out, ← List.append_assoc]
                simpa [i64s, Nat.add_assoc] using hown3
              case measure => simp [intOf] <;> omega
            · obtain rfl : j = 8 := by omega
              go_wp2
              go_roundw
              case rel =>
                refine ⟨k + 1, by omega, by go_num, ?_, hbl2⟩
                rw [take_snoc _ _ _ Hu.out, List.flatMap_append]
                simpa [Nat.mul_add] using hown2
              case measure => simp [intOf] <;> omega
        · obtain rfl : k = 8 := by omega
          rw [List.take_of_length_le (by rw [Hlen.out]; omega)] at hown
          obtain ⟨A', c', rfl, hsl⟩ := own_form hown
          clear hown
          go_wp2_with (go_at_call 24; refine (number_any _ _ _ _ hsl (flat_bit b)).mono ?_; rintro e w' ⟨rfl, rfl⟩)
          go_ret2
          exact ⟨hbl, ret_two (by rw [numOf_val _ (by rw [flat_len, Hlen.out]) (flat_bit b), bits_flat b Hb.out, getVal_is Hlen.out]) rfl⟩
end Go.Proofs.YtpmhjmbiiihfoaaDoor
