import Derived.Test.YtcfpjbbahpjhdaaWrite
namespace Go.Proofs.Ytcfpjbbahpjhdaa
open Go.RowKit

set_option maxHeartbeats 400000 in
theorem nturn_any (n : Int) (w : World) (h1 : -9223372036854775808 ≤ n) (h2 : n ≤ 9223372036854775807) :
    Calls Try.prog 35 #[.int .i64 n] w fun e w' => e = .returned (.int .u64 (turned n)) ∧ w' = w := by
  have hs : IntKind.u64.signed = false := rfl
  by_cases h : n < 0
  · have hx := u64_not (IntKind.u64.wrap (IntKind.u64.wrap n * 2)) (by rw [IntKind.wrap_u64]; omega) (by rw [IntKind.wrap_u64]; omega)
    have ht : bits .xor .u64 IntKind.u64.max (IntKind.u64.wrap (IntKind.u64.wrap n * 2)) = turned n := by
      rw [hx, turned_lo h, IntKind.wrap_u64, IntKind.wrap_u64]; omega
    have Ht := Lib.hid ht
    clear hx ht
    go_enter Try.func35, Try.ntmps35
    go_wp2
    go_ret
    exact ⟨ret_int Ht.out, rfl⟩
  · have Ht := Lib.hid (turned_hi h)
    go_enter Try.func35, Try.ntmps35
    go_wp2
    go_ret
    exact ⟨ret_int (by rw [Ht.out]; omega), rfl⟩

set_option maxHeartbeats 400000 in
theorem zig_any (n : Int) (w : World) (h1 : -9223372036854775808 ≤ n) (h2 : n ≤ 9223372036854775807) :
    Calls Try.prog 29 #[.int .i64 n] w fun e w' => ∃ v m, e = .returned v ∧ w'.ownsRow w.heap.size 5 1 v m (u8s (sh 10 (turned n))) ∧ Below w.heap.size w w' := by
  obtain ⟨t1, t2⟩ := turned_range h1 h2
  go_enter Try.func29, Try.ntmps29
  go_wp2_with (first
    | (go_at_call 35; refine (nturn_any n _ h1 h2).mono ?_; rintro e w1 ⟨rfl, rfl⟩)
    | (go_at_call 34; refine (write_any _ _ t1 t2).mono ?_; rintro e w2 ⟨v, m, rfl, hown, hbl⟩))
  go_ret
  exact ⟨_, _, rfl, hown, hbl⟩
end Go.Proofs.Ytcfpjbbahpjhdaa
