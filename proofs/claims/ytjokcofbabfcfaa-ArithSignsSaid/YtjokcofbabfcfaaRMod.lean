import Derived.Test.YtjokcofbabfcfaaRDiv
namespace Go.Proofs.Ytjokcofbabfcfaa
open Go.RowKit

def divOf (a b : Int) : Int := if b = 0 then 0 else wrap64 (a.tdiv b)
def modOf (a b : Int) : Int := if b = 0 then a else a.tmod b
def flagOf (p : Bool) : Int := if p then 1 else 0
theorem div_range (a b : Int) : -9223372036854775808 ≤ divOf a b ∧ divOf a b ≤ 9223372036854775807 := by
  unfold divOf; split
  · omega
  · exact wrap_range _
theorem tmod_range {a b : Int} (ha1 : -9223372036854775808 ≤ a) (ha2 : a ≤ 9223372036854775807) (hb : b ≠ 0) : -9223372036854775808 ≤ a.tmod b ∧ a.tmod b ≤ 9223372036854775807 := by
  have h : a.tmod b = if a < 0 then -((-a).tmod b) else a.tmod b := by
    split
    · rw [Int.neg_tmod]; omega
    · rfl
  by_cases hn : a < 0
  · rw [h, if_pos hn]
    have h1 : 0 ≤ (-a).tmod b := Int.tmod_nonneg b (by omega)
    have h2 : (-a).tmod b ≤ -a := by
      have := Int.tmod_add_mul_tdiv (-a) b
      have h3 : 0 ≤ b * (-a).tdiv b := by
        rcases Int.lt_or_gt_of_ne hb with hb2 | hb2
        · have : b * (-a).tdiv b = (-b) * ((-a).tdiv (-b)) := by rw [Int.tdiv_neg, Int.neg_mul, Int.mul_neg, Int.neg_neg]
          rw [this]
          exact Int.mul_nonneg (by omega) (Int.tdiv_nonneg (by omega) (by omega))
        · exact Int.mul_nonneg (by omega) (Int.tdiv_nonneg (by omega) (by omega))
      omega
    omega
  · have h1 : 0 ≤ a.tmod b := Int.tmod_nonneg b (by omega)
    have h2 : a.tmod b ≤ a := by
      have := Int.tmod_add_mul_tdiv a b
      have h3 : 0 ≤ b * a.tdiv b := by
        rcases Int.lt_or_gt_of_ne hb with hb2 | hb2
        · have : b * a.tdiv b = (-b) * (a.tdiv (-b)) := by rw [Int.tdiv_neg, Int.neg_mul, Int.mul_neg, Int.neg_neg]
          rw [this]
          exact Int.mul_nonneg (by omega) (Int.tdiv_nonneg (by omega) (by omega))
        · exact Int.mul_nonneg (by omega) (Int.tdiv_nonneg (by omega) (by omega))
      omega
    omega
theorem mod_by {a b : Int} (ha1 : -9223372036854775808 ≤ a) (ha2 : a ≤ 9223372036854775807) : wrap64 (a + wrap64 (-wrap64 (divOf a b * b))) = modOf a b := by
  unfold divOf modOf
  by_cases hb : b = 0
  · rw [if_pos hb, if_pos hb, hb]
    unfold wrap64; omega
  · rw [if_neg hb, if_neg hb]
    have h1 := Int.tmod_add_mul_tdiv a b
    have h2 := tmod_range ha1 ha2 hb
    rw [wrap_mul, wrap_neg, ← wrap_self h2, ← wrap_self ⟨ha1, ha2⟩, wrap_add]
    have e : wrap64 a = a := wrap_self ⟨ha1, ha2⟩
    congr 1
    rw [e]
    rw [Int.mul_comm (a.tdiv b) b]
    omega

theorem rmul_is (r a b : Int) (w : World) (ha1 : -9223372036854775808 ≤ a) (ha2 : a ≤ 9223372036854775807) (hb1 : -9223372036854775808 ≤ b) (hb2 : b ≤ 9223372036854775807) (hr : r = wrap64 (a * b)) :
    Calls Try.prog 25 #[.int .i64 a, .int .i64 b] w fun e w' => e = .returned (.int .i64 r) ∧ Below w.heap.size w w' := by
  rw [hr]; exact rmul_any a b w ha1 ha2 hb1 hb2
theorem rdiv_is (r a b : Int) (w : World) (ha1 : -9223372036854775808 ≤ a) (ha2 : a ≤ 9223372036854775807) (hb1 : -9223372036854775808 ≤ b) (hb2 : b ≤ 9223372036854775807) (hr : r = divOf a b) :
    Calls Try.prog 26 #[.int .i64 a, .int .i64 b] w fun e w' => e = .returned (.int .i64 r) ∧ Below w.heap.size w w' := by
  rw [hr]; exact rdiv_any a b w ha1 ha2 hb1 hb2

set_option maxHeartbeats 800000 in
theorem rmod_is (r a b : Int) (w : World) (ha1 : -9223372036854775808 ≤ a) (ha2 : a ≤ 9223372036854775807) (hb1 : -9223372036854775808 ≤ b) (hb2 : b ≤ 9223372036854775807) (hr : r = modOf a b) :
    Calls Try.prog 27 #[.int .i64 a, .int .i64 b] w fun e w' => e = .returned (.int .i64 r) ∧ Below w.heap.size w w' := by
  obtain ⟨q, hq⟩ : ∃ q, q = divOf a b := ⟨_, rfl⟩
  have hq1 : -9223372036854775808 ≤ q ∧ q ≤ 9223372036854775807 := by rw [hq]; exact div_range a b
  obtain ⟨p, hp⟩ : ∃ p, p = wrap64 (q * b) := ⟨_, rfl⟩
  have hp1 : -9223372036854775808 ≤ p ∧ p ≤ 9223372036854775807 := by rw [hp]; exact wrap_range _
  obtain ⟨s, hs⟩ : ∃ s, s = wrap64 (-p) := ⟨_, rfl⟩
  have hs1 : -9223372036854775808 ≤ s ∧ s ≤ 9223372036854775807 := by rw [hs]; exact wrap_range _
  have Hr := Lib.hid (show r = wrap64 (a + s) by rw [hr, hs, hp, hq, mod_by ha1 ha2])
  have Hq := Lib.hid hq; have Hp := Lib.hid hp; have Hs := Lib.hid hs
  clear hr hq hp hs
  go_enter Try.func27, Try.ntmps27
  go_wp2_with fail
  refine (rdiv_is q a b w ha1 ha2 hb1 hb2 Hq.out).mono ?_
  rintro e w1 ⟨rfl, h1⟩
  go_wp2_with fail
  refine (rmul_is p q b w1 hq1.1 hq1.2 hb1 hb2 Hp.out).mono ?_
  rintro e w2 ⟨rfl, h2⟩
  have h2' := h1.trans (h2.mono h1.size)
  go_wp2_with fail
  refine (rneg_is s p w2 hp1.1 hp1.2 Hs.out).mono ?_
  rintro e w3 ⟨rfl, h3⟩
  have h3' := h2'.trans (h3.mono h2'.size)
  go_wp2_with fail
  refine (radd_is r a s w3 ha1 ha2 hs1.1 hs1.2 Hr.out).mono ?_
  rintro e w4 ⟨rfl, h4⟩
  have h4' := h3'.trans (h4.mono h3'.size)
  go_wp2_with fail
  go_ret
  exact ⟨rfl, h4'⟩

theorem rflag_is (r : Int) (p : Bool) (w : World) (hr : r = flagOf p) : Calls Try.prog 23 #[.bool p] w fun e w' => e = .returned (.int .i64 r) ∧ Below w.heap.size w w' := by
  subst hr
  cases p
  · go_enter Try.func23, Try.ntmps23
    go_wp2
    go_ret
    exact ⟨rfl, Below.refl _ _⟩
  · go_enter Try.func23, Try.ntmps23
    go_wp2
    go_ret
    exact ⟨rfl, Below.refl _ _⟩
end Go.Proofs.Ytjokcofbabfcfaa
