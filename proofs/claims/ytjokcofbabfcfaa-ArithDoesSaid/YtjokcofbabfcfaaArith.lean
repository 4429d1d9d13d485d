/- The program's own reckoning. -/
import Derived.Test.YtjokcofbabfcfaaRDo
import Derived.Test.YtjokcofbabfcfaaRSign
namespace Go.Proofs.Ytjokcofbabfcfaa
open Go.RowKit

theorem wrap_i64 (x : Int) : IntKind.i64.wrap x = wrap64 x := by unfold wrap64; exact IntKind.wrap_i64 x
theorem add_is (r a b : Int) (w : World) (ha1 : -9223372036854775808 ≤ a) (ha2 : a ≤ 9223372036854775807) (hb1 : -9223372036854775808 ≤ b) (hb2 : b ≤ 9223372036854775807) (hr : r = wrap64 (a + b)) :
    Calls Try.prog 17 #[.int .i64 a, .int .i64 b] w fun e w' => e = .returned (.int .i64 r) ∧ Below w.heap.size w w' := by
  have e : IntKind.i64.wrap (a + b) = r := by rw [hr, wrap_i64]
  clear hr
  go_enter Try.func17, Try.ntmps17
  go_wp2
  go_ret
  exact ⟨rfl, Below.refl _ _⟩
theorem sub_is (r a b : Int) (w : World) (ha1 : -9223372036854775808 ≤ a) (ha2 : a ≤ 9223372036854775807) (hb1 : -9223372036854775808 ≤ b) (hb2 : b ≤ 9223372036854775807) (hr : r = wrap64 (a - b)) :
    Calls Try.prog 20 #[.int .i64 a, .int .i64 b] w fun e w' => e = .returned (.int .i64 r) ∧ Below w.heap.size w w' := by
  have e : IntKind.i64.wrap (a - b) = r := by rw [hr, wrap_i64]
  clear hr
  go_enter Try.func20, Try.ntmps20
  go_wp2
  go_ret
  exact ⟨rfl, Below.refl _ _⟩
theorem mul_is (r a b : Int) (w : World) (ha1 : -9223372036854775808 ≤ a) (ha2 : a ≤ 9223372036854775807) (hb1 : -9223372036854775808 ≤ b) (hb2 : b ≤ 9223372036854775807) (hr : r = wrap64 (a * b)) :
    Calls Try.prog 18 #[.int .i64 a, .int .i64 b] w fun e w' => e = .returned (.int .i64 r) ∧ Below w.heap.size w w' := by
  have e : IntKind.i64.wrap (a * b) = r := by rw [hr, wrap_i64]
  clear hr
  go_enter Try.func18, Try.ntmps18
  go_wp2
  go_ret
  exact ⟨rfl, Below.refl _ _⟩
theorem neg_is (r a : Int) (w : World) (ha1 : -9223372036854775808 ≤ a) (ha2 : a ≤ 9223372036854775807) (hr : r = wrap64 (-a)) :
    Calls Try.prog 19 #[.int .i64 a] w fun e w' => e = .returned (.int .i64 r) ∧ Below w.heap.size w w' := by
  have e : IntKind.i64.wrap (-a) = r := by rw [hr, wrap_i64]
  clear hr
  go_enter Try.func19, Try.ntmps19
  go_wp2
  go_ret
  exact ⟨rfl, Below.refl _ _⟩
theorem div_is (r a b : Int) (w : World) (ha1 : -9223372036854775808 ≤ a) (ha2 : a ≤ 9223372036854775807) (hb1 : -9223372036854775808 ≤ b) (hb2 : b ≤ 9223372036854775807) (hr : r = divOf a b) :
    Calls Try.prog 15 #[.int .i64 a, .int .i64 b] w fun e w' => e = .returned (.int .i64 r) ∧ Below w.heap.size w w' := by
  by_cases hb : b = 0
  · subst hb
    have e : r = 0 := by rw [hr]; rfl
    subst e
    clear hr
    go_enter Try.func15, Try.ntmps15
    go_wp2
    go_ret
    exact ⟨rfl, Below.refl _ _⟩
  · have e : IntKind.i64.wrap (a.tdiv b) = r := by rw [hr, wrap_i64, divOf, if_neg hb]
    have hbe : (b == 0) = false := by simpa using hb
    clear hr
    go_enter Try.func15, Try.ntmps15
    go_wp2
    go_ret
    exact ⟨rfl, Below.refl _ _⟩
theorem mod_by_sub {a b : Int} (ha1 : -9223372036854775808 ≤ a) (ha2 : a ≤ 9223372036854775807) : wrap64 (a - wrap64 (divOf a b * b)) = modOf a b := by
  rw [← mod_by ha1 ha2]
  generalize divOf a b * b = x
  unfold wrap64; omega
set_option maxHeartbeats 800000 in
theorem mod_is (r a b : Int) (w : World) (ha1 : -9223372036854775808 ≤ a) (ha2 : a ≤ 9223372036854775807) (hb1 : -9223372036854775808 ≤ b) (hb2 : b ≤ 9223372036854775807) (hr : r = modOf a b) :
    Calls Try.prog 16 #[.int .i64 a, .int .i64 b] w fun e w' => e = .returned (.int .i64 r) ∧ Below w.heap.size w w' := by
  obtain ⟨q, hq⟩ : ∃ q, q = divOf a b := ⟨_, rfl⟩
  have hq1 : -9223372036854775808 ≤ q ∧ q ≤ 9223372036854775807 := by rw [hq]; exact div_range a b
  obtain ⟨p, hp⟩ : ∃ p, p = wrap64 (q * b) := ⟨_, rfl⟩
  have hp1 : -9223372036854775808 ≤ p ∧ p ≤ 9223372036854775807 := by rw [hp]; exact wrap_range _
  have Hr := Lib.hid (show r = wrap64 (a - p) by rw [hr, hp, hq, mod_by_sub ha1 ha2])
  have Hq := Lib.hid hq; have Hp := Lib.hid hp
  clear hr hq hp
  go_enter Try.func16, Try.ntmps16
  go_wp2_with fail
  refine (div_is q a b w ha1 ha2 hb1 hb2 Hq.out).mono ?_
  rintro e w1 ⟨rfl, h1⟩
  go_wp2_with fail
  refine (mul_is p q b w1 hq1.1 hq1.2 hb1 hb2 Hp.out).mono ?_
  rintro e w2 ⟨rfl, h2⟩
  have h2' := h1.trans (h2.mono h1.size)
  go_wp2_with fail
  refine (sub_is r a p w2 ha1 ha2 hp1.1 hp1.2 Hr.out).mono ?_
  rintro e w3 ⟨rfl, h3⟩
  have h3' := h2'.trans (h3.mono h2'.size)
  go_wp2_with fail
  go_ret
  exact ⟨rfl, h3'⟩
end Go.Proofs.Ytjokcofbabfcfaa
