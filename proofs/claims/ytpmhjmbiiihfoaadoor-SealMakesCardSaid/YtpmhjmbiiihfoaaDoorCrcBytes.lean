import Derived.Test.YtpmhjmbiiihfoaaDoorRSum
import Derived.Test.YtpmhjmbiiihfoaaDoorSumOne
namespace Go.Proofs.YtpmhjmbiiihfoaaDoor
open Go.RowKit

theorem rsum_is (r : Nat) (A : Option Addr) (n c : Nat) (xs : List Int) (w : World) (hx : Sl w A n (u8s xs)) (hb : Bytes xs) (hn : n ≤ 1000) (hr : r = sumOf xs) :
    Calls Tryd.prog 23 #[.slice A n c] w fun e w' => e = .returned (.int .i64 (r : Int)) ∧ Below w.heap.size w w' := by
  rw [hr, show sumOf xs = ones ^^^ reg ones xs by unfold sumOf moreOf; rw [Nat.xor_zero]]
  exact rsum_any A n c xs w hx hb hn

theorem bytes_any (s : Nat) (hs : s < 4294967296) (w : World) :
    Calls Tryd.prog 16 #[.int .u32 s] w fun e w' => (∃ b0 b1 b2 b3 : Nat, e = .returned (.agg #[.int .u8 b0, .int .u8 b1, .int .u8 b2, .int .u8 b3]) ∧ b0 < 256 ∧ b1 < 256 ∧ b2 < 256 ∧ b3 < 256 ∧ b0 + 256 * b1 + 65536 * b2 + 16777216 * b3 = s) ∧ Below w.heap.size w w' := by
  obtain ⟨b0, hb0, hc0⟩ : ∃ b : Nat, b = s % 256 ∧ (s : Int) % 256 = (b : Int) := ⟨_, rfl, by omega⟩
  obtain ⟨b1, hb1, hc1⟩ : ∃ b : Nat, b = s / 256 % 256 ∧ (s : Int) / 256 % 256 = (b : Int) := ⟨_, rfl, by omega⟩
  obtain ⟨b2, hb2, hc2⟩ : ∃ b : Nat, b = s / 65536 % 256 ∧ (s : Int) / 65536 % 256 = (b : Int) := ⟨_, rfl, by omega⟩
  obtain ⟨b3, hb3, hc3⟩ : ∃ b : Nat, b = s / 16777216 ∧ (s : Int) / 16777216 = (b : Int) := ⟨_, rfl, by omega⟩
  have hb : Hid (b0 < 256 ∧ b1 < 256 ∧ b2 < 256 ∧ b3 < 256 ∧ b0 + 256 * b1 + 65536 * b2 + 16777216 * b3 = s) := Lib.hid (by omega)
  clear hb0 hb1 hb2 hb3
  go_enter Tryd.func16, Tryd.ntmps16
  go_wp2
  refine bodyPost_ret (v := .agg #[.int .u8 b0, .int .u8 b1, .int .u8 b2, .int .u8 b3]) ?_ rfl ⟨⟨b0, b1, b2, b3, rfl, hb.out⟩, below_alloc _ _⟩
  exact results_cell_row rfl _ _ w.heap.size 39 _ (0, 0) _ rfl (heap_alloc_new w _) Tryd.underlying39 rfl (by kernel_rfl)
end Go.Proofs.YtpmhjmbiiihfoaaDoor
