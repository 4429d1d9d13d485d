import Derived.Test.YtjokcofbabfcfaaArithRing
namespace Go.Proofs.Ytjokcofbabfcfaa
open Go.RowKit

theorem back_of {a b : Int} (ha : -9223372036854775808 ≤ a ∧ a ≤ 9223372036854775807) : a = wrap64 (wrap64 (divOf a b * b) + modOf a b) := by
  have h := mod_by (b := b) ha.1 ha.2
  rw [← h]
  conv => lhs; rw [← wrap_self ha]
  generalize divOf a b * b = p
  unfold wrap64; omega
theorem tmod_pos_lt (x : Int) {b : Int} (hb : 0 < b) : x.tmod b < b := Int.tmod_lt_of_pos x hb
theorem rest_fit {a b : Int} (hb : b ≠ 0) :
    (modOf a b = 0 ∨ (0 < modOf a b ∧ ¬ a < 0) ∨ (modOf a b < 0 ∧ a < 0)) ∧ (0 < b → modOf a b < b ∧ -b < modOf a b) ∧ (b < 0 → b < modOf a b ∧ modOf a b < -b) := by
  unfold modOf
  rw [if_neg hb]
  have hneg : (-a).tmod b = -(a.tmod b) := Int.neg_tmod a b
  refine ⟨?_, fun h => ⟨tmod_pos_lt a h, ?_⟩, fun h => ?_⟩
  · by_cases ha : a < 0
    · have := Int.tmod_nonneg b (show 0 ≤ -a by omega)
      omega
    · have := Int.tmod_nonneg b (show 0 ≤ a by omega)
      omega
  · have := tmod_pos_lt (-a) h
    omega
  · have h1 : a.tmod (-b) = a.tmod b := Int.tmod_neg a b
    have h2 := tmod_pos_lt a (show 0 < -b by omega)
    have h3 := tmod_pos_lt (-a) (show 0 < -b by omega)
    have h4 : (-a).tmod (-b) = -(a.tmod (-b)) := Int.neg_tmod a (-b)
    omega

set_option maxRecDepth 100000 in
set_option maxHeartbeats 3200000 in
theorem arithDivides_walk (w : World) (a : Int) (ha : -9223372036854775808 ≤ a ∧ a ≤ 9223372036854775807) (b : Int) (hb : -9223372036854775808 ≤ b ∧ b ≤ 9223372036854775807) :
    Calls Try.prog 5 #[.int .i64 a, .int .i64 b] w fun e w' => e = .returned (.bool true) ∧ Below w.heap.size w w' := by
  obtain ⟨q, hq⟩ : ∃ q, q = divOf a b := ⟨_, rfl⟩
  obtain ⟨m, hm⟩ : ∃ m, m = modOf a b := ⟨_, rfl⟩
  obtain ⟨p, hp⟩ : ∃ p, p = wrap64 (q * b) := ⟨_, rfl⟩
  have hq1 : -9223372036854775808 ≤ q ∧ q ≤ 9223372036854775807 := by rw [hq]; exact div_range a b
  have hp1 : -9223372036854775808 ≤ p ∧ p ≤ 9223372036854775807 := by rw [hp]; exact wrap_range _
  have hm1 : -9223372036854775808 ≤ m ∧ m ≤ 9223372036854775807 := by
    rw [hm]; unfold modOf; split
    · exact ha
    · exact tmod_range ha.1 ha.2 (by assumption)
  have Hback := Lib.hid (show a = wrap64 (p + m) by rw [hp, hq, hm]; exact back_of ha)
  have Hq := Lib.hid hq; have Hm := Lib.hid hm; have Hp := Lib.hid hp
  have hzero : b = 0 → q = 0 ∧ m = a := fun h => by rw [hq, hm]; unfold divOf modOf; rw [if_pos h, if_pos h]; exact ⟨rfl, rfl⟩
  have hfit : b ≠ 0 → (m = 0 ∨ (0 < m ∧ ¬ a < 0) ∨ (m < 0 ∧ a < 0)) ∧ (0 < b → m < b ∧ -b < m) ∧ (b < 0 → b < m ∧ m < -b) := fun h => by rw [hm]; exact rest_fit h
  clear hq hm hp
  by_cases hb0 : b = 0
  · obtain ⟨hq0, hma⟩ := hzero hb0
    subst hb0 hq0 hma
    clear hzero hfit
    go_enter Try.func5, Try.ntmps5
    go_wp2_with fail
    refine (awake3_any w).mono ?_
    rintro e w1 ⟨rfl, hn1⟩
    have hb1 := hn1
    clear hn1
    go_wp2_with fail
    refine (div_is 0 m 0 w1 ha.1 ha.2 hb.1 hb.2 Hq.out).mono ?_
    rintro e w2 ⟨rfl, hn2⟩
    have hb2 := hb1.trans (hn2.mono hb1.size)
    clear hn2
    go_wp2_with fail
    refine (mod_is m m 0 w2 ha.1 ha.2 hb.1 hb.2 Hm.out).mono ?_
    rintro e w3 ⟨rfl, hn3⟩
    have hb3 := hb2.trans (hn3.mono hb2.size)
    clear hn3
    go_wp2_with fail
    refine (mul_is p 0 0 w3 hq1.1 hq1.2 hb.1 hb.2 Hp.out).mono ?_
    rintro e w4 ⟨rfl, hn4⟩
    have hb4 := hb3.trans (hn4.mono hb3.size)
    clear hn4
    go_wp2_with fail
    refine (add_is m p m w4 hp1.1 hp1.2 hm1.1 hm1.2 Hback.out).mono ?_
    rintro e w5 ⟨rfl, hn5⟩
    have hb5 := hb4.trans (hn5.mono hb4.size)
    clear hn5
    go_wp2_with fail
    go_ret
    exact ⟨rfl, hb5⟩
  · obtain ⟨h1, h2, h3⟩ := hfit hb0
    have hbe : (b == 0) = false := by simpa using hb0
    clear hzero hfit
    rcases h1 with rfl | hs
    · clear h2 h3
      go_enter Try.func5, Try.ntmps5
      go_wp2_with fail
      refine (awake3_any w).mono ?_
      rintro e w1 ⟨rfl, hn1⟩
      have hb1 := hn1
      clear hn1
      go_wp2_with fail
      refine (div_is q a b w1 ha.1 ha.2 hb.1 hb.2 Hq.out).mono ?_
      rintro e w2 ⟨rfl, hn2⟩
      have hb2 := hb1.trans (hn2.mono hb1.size)
      clear hn2
      go_wp2_with fail
      refine (mod_is 0 a b w2 ha.1 ha.2 hb.1 hb.2 Hm.out).mono ?_
      rintro e w3 ⟨rfl, hn3⟩
      have hb3 := hb2.trans (hn3.mono hb2.size)
      clear hn3
      go_wp2_with fail
      refine (mul_is p q b w3 hq1.1 hq1.2 hb.1 hb.2 Hp.out).mono ?_
      rintro e w4 ⟨rfl, hn4⟩
      have hb4 := hb3.trans (hn4.mono hb3.size)
      clear hn4
      go_wp2_with fail
      refine (add_is a p 0 w4 hp1.1 hp1.2 hm1.1 hm1.2 Hback.out).mono ?_
      rintro e w5 ⟨rfl, hn5⟩
      have hb5 := hb4.trans (hn5.mono hb4.size)
      clear hn5
      go_wp2_with fail
      go_ret
      exact ⟨rfl, hb5⟩
    · have hm0 : (m == 0) = false := by simp; omega
      by_cases hpos : 0 < b
      · obtain ⟨h4, h5⟩ := h2 hpos
        obtain ⟨nb, hnb⟩ : ∃ nb, nb = -b := ⟨_, rfl⟩
        have Hnb := Lib.hid (show nb = wrap64 (-b) by rw [hnb, wrap_self ⟨by omega, by omega⟩])
        have h6 : nb < m := by omega
        clear h2 h3 h5 hnb
        rcases hs with ⟨s1, s2⟩ | ⟨s1, s2⟩
        · have hm2 : decide (m < 0) = false := decide_eq_false (by omega)
          have ha2' : decide (a < 0) = false := decide_eq_false s2
          go_enter Try.func5, Try.ntmps5
          go_wp2_with fail
          refine (awake3_any w).mono ?_
          rintro e w1 ⟨rfl, hn1⟩
          have hb1 := hn1
          clear hn1
          go_wp2_with fail
          refine (div_is q a b w1 ha.1 ha.2 hb.1 hb.2 Hq.out).mono ?_
          rintro e w2 ⟨rfl, hn2⟩
          have hb2 := hb1.trans (hn2.mono hb1.size)
          clear hn2
          go_wp2_with fail
          refine (mod_is m a b w2 ha.1 ha.2 hb.1 hb.2 Hm.out).mono ?_
          rintro e w3 ⟨rfl, hn3⟩
          have hb3 := hb2.trans (hn3.mono hb2.size)
          clear hn3
          go_wp2_with fail
          refine (mul_is p q b w3 hq1.1 hq1.2 hb.1 hb.2 Hp.out).mono ?_
          rintro e w4 ⟨rfl, hn4⟩
          have hb4 := hb3.trans (hn4.mono hb3.size)
          clear hn4
          go_wp2_with fail
          refine (add_is a p m w4 hp1.1 hp1.2 hm1.1 hm1.2 Hback.out).mono ?_
          rintro e w5 ⟨rfl, hn5⟩
          have hb5 := hb4.trans (hn5.mono hb4.size)
          clear hn5
          go_wp2_with fail
          refine (neg_is nb b w5 hb.1 hb.2 Hnb.out).mono ?_
          rintro e w6 ⟨rfl, hn6⟩
          have hb6 := hb5.trans (hn6.mono hb5.size)
          clear hn6
          go_wp2_with fail
          go_ret
          exact ⟨rfl, hb6⟩
        · go_enter Try.func5, Try.ntmps5
          go_wp2_with fail
          refine (awake3_any w).mono ?_
          rintro e w1 ⟨rfl, hn1⟩
          have hb1 := hn1
          clear hn1
          go_wp2_with fail
          refine (div_is q a b w1 ha.1 ha.2 hb.1 hb.2 Hq.out).mono ?_
          rintro e w2 ⟨rfl, hn2⟩
          have hb2 := hb1.trans (hn2.mono hb1.size)
          clear hn2
          go_wp2_with fail
          refine (mod_is m a b w2 ha.1 ha.2 hb.1 hb.2 Hm.out).mono ?_
          rintro e w3 ⟨rfl, hn3⟩
          have hb3 := hb2.trans (hn3.mono hb2.size)
          clear hn3
          go_wp2_with fail
          refine (mul_is p q b w3 hq1.1 hq1.2 hb.1 hb.2 Hp.out).mono ?_
          rintro e w4 ⟨rfl, hn4⟩
          have hb4 := hb3.trans (hn4.mono hb3.size)
          clear hn4
          go_wp2_with fail
          refine (add_is a p m w4 hp1.1 hp1.2 hm1.1 hm1.2 Hback.out).mono ?_
          rintro e w5 ⟨rfl, hn5⟩
          have hb5 := hb4.trans (hn5.mono hb4.size)
          clear hn5
          go_wp2_with fail
          refine (neg_is nb b w5 hb.1 hb.2 Hnb.out).mono ?_
          rintro e w6 ⟨rfl, hn6⟩
          have hb6 := hb5.trans (hn6.mono hb5.size)
          clear hn6
          go_wp2_with fail
          go_ret
          exact ⟨rfl, hb6⟩
      · have hbn : b < 0 := by omega
        obtain ⟨h4, h5⟩ := h3 hbn
        by_cases hmin : b = -9223372036854775808
        · have hbm : (b == -9223372036854775808) = true := by simpa using hmin
          clear h2 h3 h5 hmin
          rcases hs with ⟨s1, s2⟩ | ⟨s1, s2⟩
          · have hm2 : decide (m < 0) = false := decide_eq_false (by omega)
            have ha2' : decide (a < 0) = false := decide_eq_false s2
            go_enter Try.func5, Try.ntmps5
            go_wp2_with fail
            refine (awake3_any w).mono ?_
            rintro e w1 ⟨rfl, hn1⟩
            have hb1 := hn1
            clear hn1
            go_wp2_with fail
            refine (div_is q a b w1 ha.1 ha.2 hb.1 hb.2 Hq.out).mono ?_
            rintro e w2 ⟨rfl, hn2⟩
            have hb2 := hb1.trans (hn2.mono hb1.size)
            clear hn2
            go_wp2_with fail
            refine (mod_is m a b w2 ha.1 ha.2 hb.1 hb.2 Hm.out).mono ?_
            rintro e w3 ⟨rfl, hn3⟩
            have hb3 := hb2.trans (hn3.mono hb2.size)
            clear hn3
            go_wp2_with fail
            refine (mul_is p q b w3 hq1.1 hq1.2 hb.1 hb.2 Hp.out).mono ?_
            rintro e w4 ⟨rfl, hn4⟩
            have hb4 := hb3.trans (hn4.mono hb3.size)
            clear hn4
            go_wp2_with fail
            refine (add_is a p m w4 hp1.1 hp1.2 hm1.1 hm1.2 Hback.out).mono ?_
            rintro e w5 ⟨rfl, hn5⟩
            have hb5 := hb4.trans (hn5.mono hb4.size)
            clear hn5
            go_wp2_with fail
            go_ret
            exact ⟨rfl, hb5⟩
          · go_enter Try.func5, Try.ntmps5
            go_wp2_with fail
            refine (awake3_any w).mono ?_
            rintro e w1 ⟨rfl, hn1⟩
            have hb1 := hn1
            clear hn1
            go_wp2_with fail
            refine (div_is q a b w1 ha.1 ha.2 hb.1 hb.2 Hq.out).mono ?_
            rintro e w2 ⟨rfl, hn2⟩
            have hb2 := hb1.trans (hn2.mono hb1.size)
            clear hn2
            go_wp2_with fail
            refine (mod_is m a b w2 ha.1 ha.2 hb.1 hb.2 Hm.out).mono ?_
            rintro e w3 ⟨rfl, hn3⟩
            have hb3 := hb2.trans (hn3.mono hb2.size)
            clear hn3
            go_wp2_with fail
            refine (mul_is p q b w3 hq1.1 hq1.2 hb.1 hb.2 Hp.out).mono ?_
            rintro e w4 ⟨rfl, hn4⟩
            have hb4 := hb3.trans (hn4.mono hb3.size)
            clear hn4
            go_wp2_with fail
            refine (add_is a p m w4 hp1.1 hp1.2 hm1.1 hm1.2 Hback.out).mono ?_
            rintro e w5 ⟨rfl, hn5⟩
            have hb5 := hb4.trans (hn5.mono hb4.size)
            clear hn5
            go_wp2_with fail
            go_ret
            exact ⟨rfl, hb5⟩
        · have hbm : (b == -9223372036854775808) = false := by simpa using hmin
          obtain ⟨nb, hnb⟩ : ∃ nb, nb = -b := ⟨_, rfl⟩
          have Hnb := Lib.hid (show nb = wrap64 (-b) by rw [hnb, wrap_self ⟨by omega, by omega⟩])
          have h6 : m < nb := by omega
          clear h2 h3 h5 hnb
          rcases hs with ⟨s1, s2⟩ | ⟨s1, s2⟩
          · have hm2 : decide (m < 0) = false := decide_eq_false (by omega)
            have ha2' : decide (a < 0) = false := decide_eq_false s2
            go_enter Try.func5, Try.ntmps5
            go_wp2_with fail
            refine (awake3_any w).mono ?_
            rintro e w1 ⟨rfl, hn1⟩
            have hb1 := hn1
            clear hn1
            go_wp2_with fail
            refine (div_is q a b w1 ha.1 ha.2 hb.1 hb.2 Hq.out).mono ?_
            rintro e w2 ⟨rfl, hn2⟩
            have hb2 := hb1.trans (hn2.mono hb1.size)
            clear hn2
            go_wp2_with fail
            refine (mod_is m a b w2 ha.1 ha.2 hb.1 hb.2 Hm.out).mono ?_
            rintro e w3 ⟨rfl, hn3⟩
            have hb3 := hb2.trans (hn3.mono hb2.size)
            clear hn3
            go_wp2_with fail
            refine (mul_is p q b w3 hq1.1 hq1.2 hb.1 hb.2 Hp.out).mono ?_
            rintro e w4 ⟨rfl, hn4⟩
            have hb4 := hb3.trans (hn4.mono hb3.size)
            clear hn4
            go_wp2_with fail
            refine (add_is a p m w4 hp1.1 hp1.2 hm1.1 hm1.2 Hback.out).mono ?_
            rintro e w5 ⟨rfl, hn5⟩
            have hb5 := hb4.trans (hn5.mono hb4.size)
            clear hn5
            go_wp2_with fail
            refine (neg_is nb b w5 hb.1 hb.2 Hnb.out).mono ?_
            rintro e w6 ⟨rfl, hn6⟩
            have hb6 := hb5.trans (hn6.mono hb5.size)
            clear hn6
            go_wp2_with fail
            go_ret
            exact ⟨rfl, hb6⟩
          · go_enter Try.func5, Try.ntmps5
            go_wp2_with fail
            refine (awake3_any w).mono ?_
            rintro e w1 ⟨rfl, hn1⟩
            have hb1 := hn1
            clear hn1
            go_wp2_with fail
            refine (div_is q a b w1 ha.1 ha.2 hb.1 hb.2 Hq.out).mono ?_
            rintro e w2 ⟨rfl, hn2⟩
            have hb2 := hb1.trans (hn2.mono hb1.size)
            clear hn2
            go_wp2_with fail
            refine (mod_is m a b w2 ha.1 ha.2 hb.1 hb.2 Hm.out).mono ?_
            rintro e w3 ⟨rfl, hn3⟩
            have hb3 := hb2.trans (hn3.mono hb2.size)
            clear hn3
            go_wp2_with fail
            refine (mul_is p q b w3 hq1.1 hq1.2 hb.1 hb.2 Hp.out).mono ?_
            rintro e w4 ⟨rfl, hn4⟩
            have hb4 := hb3.trans (hn4.mono hb3.size)
            clear hn4
            go_wp2_with fail
            refine (add_is a p m w4 hp1.1 hp1.2 hm1.1 hm1.2 Hback.out).mono ?_
            rintro e w5 ⟨rfl, hn5⟩
            have hb5 := hb4.trans (hn5.mono hb4.size)
            clear hn5
            go_wp2_with fail
            refine (neg_is nb b w5 hb.1 hb.2 Hnb.out).mono ?_
            rintro e w6 ⟨rfl, hn6⟩
            have hb6 := hb5.trans (hn6.mono hb5.size)
            clear hn6
            go_wp2_with fail
            go_ret
            exact ⟨rfl, hb6⟩
end Go.Proofs.Ytjokcofbabfcfaa
