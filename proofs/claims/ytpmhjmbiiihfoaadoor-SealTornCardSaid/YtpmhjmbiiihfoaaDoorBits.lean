import Derived.Test.YtpmhjmbiiihfoaaDoorBit
import Derived.Test.YtpmhjmbiiihfoaaDoorVals
namespace Go.Proofs.YtpmhjmbiiihfoaaDoor
open Go.RowKit

set_option maxHeartbeats 400000 in
theorem bits_any (n : Int) (w : World) (h1 : -9223372036854775808 ≤ n) (h2 : n ≤ 9223372036854775807) :
    Calls Tryd.prog 25 #[.int .i64 n] w fun e w' => ∃ v, e = .returned v ∧ w'.ownsRow w.heap.size 3 1 v 64 (i64s (bitsTo n 64)) ∧ Below w.heap.size w w' := by
  obtain ⟨i0, hi0, hz0, hz1, hz2⟩ := info_parts info_int
  go_enter Tryd.func25, Tryd.ntmps25
  go_wp2
  go_loopw [3, 4] (fun v i wr => ∃ k : Nat, k ≤ 64 ∧ i = .int .i64 k ∧ wr.ownsRow w.heap.size 3 1 v k (i64s (bitsTo n k)) ∧ Below w.heap.size w wr) (fun _ i _ => 64 - (intOf i).toNat)
  case atStart => exact ⟨0, by omega, rfl, World.ownsRow_nil _ _ _ _, Below.refl _ _⟩
  case round =>
    obtain ⟨k, hk, rfl, hown, hbl⟩ := hrel
    by_cases hlt : k < 64
    · have hsz := hbl.size
      go_wp2_with (first
        | (go_at_call 27; refine (bit_any n k _ h1 h2 (by omega)).mono ?_; rintro e w' ⟨rfl, rfl⟩)
        | (at_builtin; refine wpList_push _ _ 55 3 i0 _ _ 8 rfl rfl Tryd.underlying55 hi0 hz0 hz1 hz2 rfl w.heap.size _ _ _ hown rfl rfl rfl (by omega) (by omega) hsz ?_; intro v' w1 hown1 hg1 hb1 hs1))
      go_roundw
      case rel => exact ⟨k + 1, by omega, by go_num, by simpa [bitsTo_succ] using hown1, hbl.trans hb1⟩
      case measure => simp [intOf]; omega
    · have : k = 64 := by omega
      subst this
      go_wp2
      go_ret
      exact ⟨_, rfl, hown, hbl⟩
end Go.Proofs.YtpmhjmbiiihfoaaDoor
