import Derived.Test.YtcfpjbbahpjhdaaSh
namespace Go.Proofs.Ytcfpjbbahpjhdaa
open Go.RowKit

set_option maxHeartbeats 800000 in
theorem write_any (n : Int) (w : World) (h0 : 0 ≤ n) (h1 : n < 18446744073709551616) :
    Calls Try.prog 34 #[.int .u64 n] w fun e w' => ∃ v m, e = .returned v ∧ w'.ownsRow w.heap.size 5 1 v m (u8s (sh 10 n)) ∧ Below w.heap.size w w' := by
  obtain ⟨i0, hi0, hz0, hz1, hz2⟩ := info_parts info_u8
  go_enter Try.func34, Try.ntmps34
  go_wp2
  go_loopw [0, 3] (fun q v wr => ∃ (k : Nat) (r : Int) (out : List Int), k ≤ 9 ∧ q = .int .u64 r ∧ 0 ≤ r ∧ r < 18446744073709551616 ∧ r < 128 ^ (10 - k) ∧ out ++ sh (10 - k) r = sh 10 n ∧ wr.ownsRow w.heap.size 5 1 v k (u8s out) ∧ Below w.heap.size w wr) (fun q _ _ => (intOf q).toNat)
  case atStart => exact ⟨0, n, [], by omega, rfl, h0, h1, by omega, rfl, World.ownsRow_nil _ _ _ _, Below.refl _ _⟩
  case round =>
    obtain ⟨k, r, out, hk, rfl, r0, r1, r2, hr, hown, hbl⟩ := hrel
    have R2 := Lib.hid r2
    have Hr := Lib.hid hr
    clear r2 hr
    have hsz := hbl.size
    by_cases hlt : r < 128
    · go_wp2_with (at_builtin; refine wpList_push _ _ 27 5 i0 _ _ 1 rfl rfl Try.underlying27 hi0 hz0 hz1 hz2 rfl w.heap.size _ _ _ hown rfl rfl rfl (by omega) (by omega) hsz ?_; intro v' w2 hown2 hg2 hb2 hs2)
      go_ret
      refine ⟨_, k + 1, rfl, ?_, hbl.trans hb2⟩
      rw [← Hr.out, show 10 - k = (9 - k) + 1 by omega, sh_last _ _ hlt]
      simpa [u8s] using hown2
    · have hk8 : k ≤ 8 := by
        rcases (show k ≤ 8 ∨ k = 9 by omega) with h | rfl
        · exact h
        · have := R2.out; simp at this; omega
      go_wp2_with (at_builtin; refine wpList_push _ _ 27 5 i0 _ _ 1 rfl rfl Try.underlying27 hi0 hz0 hz1 hz2 rfl w.heap.size _ _ _ hown rfl rfl rfl (by omega) (by omega) hsz ?_; intro v' w2 hown2 hg2 hb2 hs2)
      go_roundw
      case rel =>
        refine ⟨k + 1, r / 128, out ++ [r % 128 + 128], by omega, rfl, by omega, by omega, ?_, ?_, ?_, hbl.trans hb2⟩
        · have h3 := R2.out
          rw [show 10 - k = (10 - (k + 1)) + 1 by omega, Int.pow_succ] at h3
          exact Int.ediv_lt_of_lt_mul (by omega) h3
        · rw [← Hr.out, show 10 - k = (10 - (k + 1)) + 1 by omega, sh_more _ _ hlt]
          simp
        · simpa [u8s] using hown2
      case measure => simp [intOf] <;> omega
end Go.Proofs.Ytcfpjbbahpjhdaa
