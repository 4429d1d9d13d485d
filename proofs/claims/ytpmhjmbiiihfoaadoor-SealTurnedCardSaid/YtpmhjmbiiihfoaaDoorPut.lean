import Derived.Test.YtpmhjmbiiihfoaaDoorBits
namespace Go.Proofs.YtpmhjmbiiihfoaaDoor
open Go.RowKit

def bytesOf (n : Int) : List Int := (List.range 8).map (byteAt n)


set_option maxHeartbeats 400000 in
theorem put_any (n : Int) (w : World) :
    Calls Tryd.prog 15 #[.int .i64 n] w fun e w' => ∃ v, e = .returned v ∧ w'.ownsRow w.heap.size 5 1 v 8 (u8s (bytesOf n)) ∧ Below w.heap.size w w' := by
  obtain ⟨i0, hi0, hz0, hz1, hz2⟩ := info_parts info_u8
  go_enter Tryd.func15, Tryd.ntmps15
  go_wp2_with (at_make; refine wpList_mk _ _ 22 5 i0 _ 1 8 rfl rfl Tryd.underlying22 hi0 hz0 hz1 hz2 rfl .i64 .i64 _ _ rfl rfl rfl rfl (by omega) (by omega) ?_; intro w1 hown1 hb1)
  go_loopw [8] (fun i wr => ∃ k : Nat, k ≤ 8 ∧ i = .int .i64 k ∧ wr.ownsRow w.heap.size 5 1 (.slice (some ⟨w.heap.size, 0, none⟩) 8 8) 8 (u8s (fillTo (byteAt n) 0 8 k)) ∧ Below w.heap.size w wr) (fun i _ => 8 - (intOf i).toNat)
  case atStart => exact ⟨0, by omega, rfl, by rw [fillTo_zero]; exact hown1, hb1⟩
  case round =>
    obtain ⟨k, hk, rfl, hown, hbl⟩ := hrel
    have hfr := hown.frozenAt k
    by_cases hlt : k < 8
    · have hce := hown.cellAt k (by omega)
      rw [List.getElem?_eq_getElem (by simp [fillTo_length]; omega)] at hce
      go_wp2
      go_roundw
      case rel =>
        rw [byte_of_wrap n k hlt]
        have h2 := (hown.stored k (.int .u8 (byteAt n k))).1
        rw [set_u8, fillTo_set] at h2
        exact ⟨k + 1, by omega, by go_num, h2, hbl.setCell (Nat.le_refl _) _⟩
      case measure => simp [intOf] <;> omega
    · have : k = 8 := by omega
      subst this
      rw [fillTo_full] at hown
      go_wp2
      go_ret
      exact ⟨_, rfl, hown, hbl⟩


set_option maxHeartbeats 800000 in
theorem rput_any (n : Int) (w : World) (h1 : -9223372036854775808 ≤ n) (h2 : n ≤ 9223372036854775807) :
    Calls Tryd.prog 22 #[.int .i64 n] w fun e w' => ∃ v, e = .returned v ∧ w'.ownsRow w.heap.size 5 1 v 8 (u8s (bytesOf n)) ∧ Below w.heap.size w w' := by
  obtain ⟨i0, hi0, hz0, hz1, hz2⟩ := info_parts info_u8
  go_enter Tryd.func22, Tryd.ntmps22
  go_wp2_with (go_at_call 25; refine (bits_any n _ h1 h2).mono ?_; rintro e w1 ⟨v1, rfl, hown1, hb1⟩; obtain ⟨A, c, rfl, hsl⟩ := own_form hown1; clear hown1)
  have hsz1 := hb1.size
  go_loopw [4, 5] (fun v i wr => ∃ k : Nat, k ≤ 8 ∧ i = .int .i64 k ∧ wr.ownsRow w1.heap.size 5 1 v k (u8s ((List.range k).map (byteAt n))) ∧ Below w1.heap.size w1 wr) (fun _ i _ => 8 - (intOf i).toNat)
  case atStart => exact ⟨0, by omega, rfl, World.ownsRow_nil _ _ _ _, Below.refl _ _⟩
  case round =>
    obtain ⟨k, hk, rfl, hown, hbl⟩ := hrel
    by_cases hlt : k < 8
    · have hsz := hbl.size
      have hs := hsl.below hbl
      obtain ⟨wo, rfl⟩ : ∃ wo : World, wo = wr := ⟨_, rfl⟩
      go_wp2
      go_loop [6, 7] (fun c i => ∃ (j : Nat) (q : Int), j ≤ 8 ∧ i = .int .i64 ((j : Int) - 1) ∧ c = .int .i64 q ∧ 0 ≤ q ∧ q < 256 ∧ q = n / 2 ^ (8 * k + j) % 2 ^ (8 - j)) (fun _ i => (intOf i + 1).toNat)
      case atStart => exact ⟨8, 0, by omega, by go_num, rfl, by omega, by omega, by simp [Int.emod_one]⟩
      case round =>
        obtain ⟨j, q, hj, rfl, rfl, q1, q2, hq⟩ := hrel
        have Hq := Lib.hid hq
        clear hq
        rcases j with _ | j
        · go_wp2_with (at_builtin; refine wpList_push _ _ 22 5 i0 _ _ 1 rfl rfl Tryd.underlying22 hi0 hz0 hz1 hz2 rfl w1.heap.size _ _ _ hown rfl rfl rfl (by omega) (by omega) hsz ?_; intro v' w2 hown2 hg2 hb2 hs2)
          go_roundw
          case rel =>
            refine ⟨k + 1, by omega, by go_num, ?_, hbl.trans hb2⟩
            have e : q = byteAt n k := Hq.out
            simpa [List.range_succ, u8s, e] using hown2
          case measure => simp [intOf] <;> omega
        · obtain ⟨ad, u, rfl, hc, hu⟩ := hs.num (k := 8 * k + j) (by omega)
          rw [bitsTo_at n 64 _ (by omega)] at hu
          have hu' : u = n / 2 ^ (8 * k + j) % 2 := by simpa using hu.symm
          have u1 : 0 ≤ u ∧ u ≤ 1 := by omega
          have Hu := Lib.hid hu'
          clear hu hu'
          have q4 : q < 128 := by rw [Hq.out]; exact (emod_pow_lt _ _ 7 (by omega)).2
          go_wp2
          go_roundw
          case rel =>
            refine ⟨j, 2 * q + u, by omega, by go_num, by go_num, by omega, by omega, ?_⟩
            · rw [Hq.out, Hu.out]
              have := bits_step n (8 * k + j) (8 - (j + 1))
              rw [show 8 - (j + 1) + 1 = 8 - j by omega] at this
              exact this
          case measure => simp [intOf] <;> omega
    · have : k = 8 := by omega
      subst this
      go_wp2
      go_ret
      exact ⟨_, rfl, own_base hown hsz1, hb1.trans (hbl.mono hsz1)⟩
end Go.Proofs.YtpmhjmbiiihfoaaDoor
