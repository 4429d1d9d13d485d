import Derived.Test.YtcfpjbbahpjhdaaSh
import Derived.Test.YtcfpjbbahpjhdaaBits
import Derived.Test.YtcfpjbbahpjhdaaNumber
namespace Go.Proofs.Ytcfpjbbahpjhdaa
open Go.RowKit








set_option maxHeartbeats 1000000 in
theorem turned_any (n : Int) (w : World) (h1 : -9223372036854775808 ≤ n) (h2 : n ≤ 9223372036854775807) :
    Calls Try.prog 30 #[.int .i64 n] w fun e w' => ∃ v, e = .returned v ∧ w'.ownsRow w.heap.size 3 1 v 64 (i64s (bitsTo (turned n) 64)) ∧ Below w.heap.size w w' := by
  obtain ⟨i0, hi0, hz0, hz1, hz2⟩ := info_parts info_int
  obtain ⟨s, hs⟩ : ∃ s, s = n / 2 ^ 63 % 2 := ⟨_, rfl⟩
  have hs1 : (n < 0 ∧ s = 1) ∨ (¬ n < 0 ∧ s = 0) := by rw [hs]; simp; omega
  have Hs := Lib.hid hs
  have Hs1 := Lib.hid hs1
  clear hs hs1
  go_enter Try.func30, Try.ntmps30
  go_wp2_with fail
  refine (bits_any n _ h1 h2).mono ?_
  rintro e w1 ⟨v1, rfl, hown1, hb1⟩
  obtain ⟨A, c, rfl, hsl⟩ := own_form hown1
  obtain ⟨ad, u, rfl, hc63, hu⟩ := hsl.num (k := 63) (by omega)
  rw [bitsTo_at n 64 63 (by omega), ← Hs.out] at hu
  obtain rfl : s = u := by simpa using hu
  clear hown1 hu
  have hc63 : w1.cell? ⟨ad.block, ad.off + 63, none⟩ = some (.int .i64 s) := hc63
  have hsz1 := hb1.size
  go_wp2
  go_loopw [4, 5] (fun v i wr => ∃ k : Nat, k ≤ 63 ∧ i = .int .i64 k ∧ wr.ownsRow w1.heap.size 3 1 v (k + 1) (i64s (bitsTo (turned n) (k + 1))) ∧ Below w1.heap.size w1 wr) (fun _ i _ => 63 - (intOf i).toNat)
  case atStart => exact ⟨0, by omega, rfl, by rw [bitsTo_succ, turned_bit0 n h1 h2, ← Hs.out]; exact own_new w1 3 (i64s [s]) 1 rfl (by omega), below_alloc w1 _⟩
  case round =>
    obtain ⟨k, hk, rfl, hown, hbl⟩ := hrel
    have hsz := hbl.size
    by_cases hlt : k < 63
    · have hsl2 := hsl.below hbl
      obtain ⟨ad', u, he, hc, hu⟩ := hsl2.num (k := k) (by omega)
      obtain rfl : ad = ad' := by simpa using he
      rw [bitsTo_at n 64 k (by omega)] at hu
      have hu' : u = n / 2 ^ k % 2 := by simpa using hu.symm
      have hu2 : 0 ≤ u ∧ u ≤ 1 := by omega
      have Hu := Lib.hid hu'
      have hc63' : wr.cell? ⟨ad.block, ad.off + 63, none⟩ = some (.int .i64 s) := (hbl.cell (World.block_lt_of_cell? w1 _ hc63)).trans hc63
      clear hu hu' he hsl2
      rcases Hs1.out with ⟨hneg, hss⟩ | ⟨hpos, hss⟩
      · subst hss
        go_wp2_with (at_builtin; refine wpList_push _ _ 22 3 i0 _ _ 8 rfl rfl Try.underlying22 hi0 hz0 hz1 hz2 rfl w1.heap.size _ _ _ hown rfl rfl rfl (by omega) (by omega) hsz ?_; intro v' w2 hown2 hg2 hb2 hs2)
        go_roundw
        case rel => exact ⟨k + 1, by omega, by go_num, by rw [bitsTo_succ, turned_bit_neg n k hneg, ← Hu.out]; simpa [i64s] using hown2, hbl.trans hb2⟩
        case measure => simp [intOf] <;> omega
      · subst hss
        go_wp2_with (at_builtin; refine wpList_push _ _ 22 3 i0 _ _ 8 rfl rfl Try.underlying22 hi0 hz0 hz1 hz2 rfl w1.heap.size _ _ _ hown rfl rfl rfl (by omega) (by omega) hsz ?_; intro v' w2 hown2 hg2 hb2 hs2)
        go_roundw
        case rel => exact ⟨k + 1, by omega, by go_num, by rw [bitsTo_succ, turned_bit_pos n k (by omega), ← Hu.out]; simpa [i64s] using hown2, hbl.trans hb2⟩
        case measure => simp [intOf] <;> omega
    · obtain rfl : k = 63 := by omega
      go_wp2
      go_ret
      exact ⟨_, rfl, own_base hown hsz1, hb1.trans (hbl.mono hsz1)⟩
end Go.Proofs.Ytcfpjbbahpjhdaa
