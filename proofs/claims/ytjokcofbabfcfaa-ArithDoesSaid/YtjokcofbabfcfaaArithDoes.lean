import Derived.Test.YtjokcofbabfcfaaArithRing
import Derived.Test.YtjokcofbabfcfaaArithDo
namespace Go.Proofs.Ytjokcofbabfcfaa
open Go.RowKit

theorem one_is (r : Int) (p : Bool) (op a : Int) (w : World) (hop : -9223372036854775808 ≤ op ∧ op ≤ 9223372036854775807) (ha : -9223372036854775808 ≤ a ∧ a ≤ 9223372036854775807) (hr : oneOf op a = (r, p)) :
    Calls Try.prog 8 #[.int .i64 op, .int .i64 a] w fun e w' => e = .returned (.tuple #[.int .i64 r, .bool p]) ∧ Below w.heap.size w w' := by
  have h := one_any op a w hop ha.1 ha.2
  rw [hr] at h; exact h
theorem rone_is (r : Int) (p : Bool) (op a : Int) (w : World) (ha : -9223372036854775808 ≤ a ∧ a ≤ 9223372036854775807) (hr : oneOf op a = (r, p)) :
    Calls Try.prog 9 #[.int .i64 op, .int .i64 a] w fun e w' => e = .returned (.tuple #[.int .i64 r, .bool p]) ∧ Below w.heap.size w w' := by
  have h := rone_any op a w ha.1 ha.2
  rw [hr] at h; exact h
theorem do_is (r : Int) (p : Bool) (op a b : Int) (w : World) (hop : -9223372036854775808 ≤ op ∧ op ≤ 9223372036854775807) (ha : -9223372036854775808 ≤ a ∧ a ≤ 9223372036854775807) (hb : -9223372036854775808 ≤ b ∧ b ≤ 9223372036854775807) (hr : doOf op a b = (r, p)) :
    Calls Try.prog 10 #[.int .i64 op, .int .i64 a, .int .i64 b] w fun e w' => e = .returned (.tuple #[.int .i64 r, .bool p]) ∧ Below w.heap.size w w' := by
  have h := do_any op a b w hop ha.1 ha.2 hb.1 hb.2
  rw [hr] at h; exact h
theorem rdo_is (r : Int) (p : Bool) (op a b : Int) (w : World) (ha : -9223372036854775808 ≤ a ∧ a ≤ 9223372036854775807) (hb : -9223372036854775808 ≤ b ∧ b ≤ 9223372036854775807) (hr : doOf op a b = (r, p)) :
    Calls Try.prog 11 #[.int .i64 op, .int .i64 a, .int .i64 b] w fun e w' => e = .returned (.tuple #[.int .i64 r, .bool p]) ∧ Below w.heap.size w w' := by
  have h := rdo_any op a b w ha.1 ha.2 hb.1 hb.2
  rw [hr] at h; exact h
theorem sign_is (x y : Int) (p : Bool) (op : Int) (w : World) (hop : -9223372036854775808 ≤ op ∧ op ≤ 9223372036854775807) (hr : signOf op = (x, y, p)) :
    Calls Try.prog 13 #[.int .i64 op] w fun e w' => e = .returned (.tuple #[.int .i64 x, .int .i64 y, .bool p]) ∧ Below w.heap.size w w' := by
  have h := sign_any op w hop.1 hop.2
  rw [hr] at h; exact h
theorem rsign_is (x y : Int) (p : Bool) (op : Int) (w : World) (hop : -9223372036854775808 ≤ op ∧ op ≤ 9223372036854775807) (hr : signOf op = (x, y, p)) :
    Calls Try.prog 14 #[.int .i64 op] w fun e w' => e = .returned (.tuple #[.int .i64 x, .int .i64 y, .bool p]) ∧ Below w.heap.size w w' := by
  have h := rsign_any op w hop.1 hop.2
  rw [hr] at h; exact h

set_option maxRecDepth 100000 in
set_option maxHeartbeats 3200000 in
theorem arithDoes_walk (w : World) (op : Int) (hop : -9223372036854775808 ≤ op ∧ op ≤ 9223372036854775807) (a : Int) (ha : -9223372036854775808 ≤ a ∧ a ≤ 9223372036854775807) (b : Int) (hb : -9223372036854775808 ≤ b ∧ b ≤ 9223372036854775807) :
    Calls Try.prog 3 #[.int .i64 op, .int .i64 a, .int .i64 b] w fun e w' => e = .returned (.bool true) ∧ Below w.heap.size w w' := by
  obtain ⟨x, p, hx⟩ : ∃ x p, oneOf op a = (x, p) := ⟨_, _, rfl⟩
  obtain ⟨z, q, hz⟩ : ∃ z q, doOf op a b = (z, q) := ⟨_, _, rfl⟩
  have Hx := Lib.hid hx; have Hz := Lib.hid hz
  clear hx hz
  go_enter Try.func3, Try.ntmps3
  go_wp2_with fail
  refine (awake3_any w).mono ?_
  rintro e w1 ⟨rfl, hn1⟩
  have hb1 := hn1
  clear hn1
  go_wp2_with fail
  refine (one_is x p op a w1 hop ha Hx.out).mono ?_
  rintro e w2 ⟨rfl, hn2⟩
  have hb2 := hb1.trans (hn2.mono hb1.size)
  clear hn2
  go_wp2_with fail
  refine (rone_is x p op a w2 ha Hx.out).mono ?_
  rintro e w3 ⟨rfl, hn3⟩
  have hb3 := hb2.trans (hn3.mono hb2.size)
  clear hn3
  go_wp2_with fail
  refine (do_is z q op a b w3 hop ha hb Hz.out).mono ?_
  rintro e w4 ⟨rfl, hn4⟩
  have hb4 := hb3.trans (hn4.mono hb3.size)
  clear hn4
  go_wp2_with fail
  refine (rdo_is z q op a b w4 ha hb Hz.out).mono ?_
  rintro e w5 ⟨rfl, hn5⟩
  have hb5 := hb4.trans (hn5.mono hb4.size)
  clear hn5
  go_wp2_with fail
  refine (flag_is 1 true w5 rfl).mono ?_
  rintro e w6 ⟨rfl, hn6⟩
  have hb6 := hb5.trans (hn6.mono hb5.size)
  clear hn6
  go_wp2_with fail
  refine (flag_is 0 false w6 rfl).mono ?_
  rintro e w7 ⟨rfl, hn7⟩
  have hb7 := hb6.trans (hn7.mono hb6.size)
  clear hn7
  go_wp2_with fail
  go_ret
  exact ⟨rfl, hb7⟩
end Go.Proofs.Ytjokcofbabfcfaa
