import Derived.Test.YtjokcofbabfcfaaArith
namespace Go.Proofs.Ytjokcofbabfcfaa
open Go.RowKit

set_option maxHeartbeats 800000 in
theorem awake3_any (w : World) : Calls Try.prog 7 #[] w fun e w' => e = .returned (.bool true) ∧ Below w.heap.size w w' := by
  go_enter Try.func7, Try.ntmps7
  go_wp2_with fail
  refine (div_is (-3) (-7) 2 w (by omega) (by omega) (by omega) (by omega) (by unfold divOf wrap64; decide)).mono ?_
  rintro e w1 ⟨rfl, hn1⟩
  have hb1 := hn1
  clear hn1
  go_wp2_with fail
  refine (mod_is (-1) (-7) 2 w1 (by omega) (by omega) (by omega) (by omega) (by unfold modOf; decide)).mono ?_
  rintro e w2 ⟨rfl, hn2⟩
  have hb2 := hb1.trans (hn2.mono hb1.size)
  clear hn2
  go_wp2_with fail
  refine (div_is 0 5 0 w2 (by omega) (by omega) (by omega) (by omega) (by unfold divOf; decide)).mono ?_
  rintro e w3 ⟨rfl, hn3⟩
  have hb3 := hb2.trans (hn3.mono hb2.size)
  clear hn3
  go_wp2_with fail
  refine (mod_is 5 5 0 w3 (by omega) (by omega) (by omega) (by omega) (by unfold modOf; decide)).mono ?_
  rintro e w4 ⟨rfl, hn4⟩
  have hb4 := hb3.trans (hn4.mono hb3.size)
  clear hn4
  go_wp2_with fail
  go_ret
  exact ⟨rfl, hb4⟩

set_option maxRecDepth 100000 in
set_option maxHeartbeats 3200000 in
theorem arithRing_walk (w : World) (a : Int) (ha : -9223372036854775808 ≤ a ∧ a ≤ 9223372036854775807) (b : Int) (hb : -9223372036854775808 ≤ b ∧ b ≤ 9223372036854775807) (c : Int) (hc : -9223372036854775808 ≤ c ∧ c ≤ 9223372036854775807) :
    Calls Try.prog 6 #[.int .i64 a, .int .i64 b, .int .i64 c] w fun e w' => e = .returned (.bool true) ∧ Below w.heap.size w w' := by
  obtain ⟨r1, er1⟩ : ∃ r1, r1 = wrap64 (a + b) := ⟨_, rfl⟩
  have hr1 : -9223372036854775808 ≤ r1 ∧ r1 ≤ 9223372036854775807 := by rw [er1]; exact wrap_range _
  obtain ⟨p1, ep1⟩ : ∃ p1, p1 = wrap64 (a * b) := ⟨_, rfl⟩
  have hp1 : -9223372036854775808 ≤ p1 ∧ p1 ≤ 9223372036854775807 := by rw [ep1]; exact wrap_range _
  obtain ⟨r2, er2⟩ : ∃ r2, r2 = wrap64 (r1 + c) := ⟨_, rfl⟩
  have hr2 : -9223372036854775808 ≤ r2 ∧ r2 ≤ 9223372036854775807 := by rw [er2]; exact wrap_range _
  obtain ⟨r3, er3⟩ : ∃ r3, r3 = wrap64 (b + c) := ⟨_, rfl⟩
  have hr3 : -9223372036854775808 ≤ r3 ∧ r3 ≤ 9223372036854775807 := by rw [er3]; exact wrap_range _
  obtain ⟨p2, ep2⟩ : ∃ p2, p2 = wrap64 (p1 * c) := ⟨_, rfl⟩
  have hp2 : -9223372036854775808 ≤ p2 ∧ p2 ≤ 9223372036854775807 := by rw [ep2]; exact wrap_range _
  obtain ⟨p3, ep3⟩ : ∃ p3, p3 = wrap64 (b * c) := ⟨_, rfl⟩
  have hp3 : -9223372036854775808 ≤ p3 ∧ p3 ≤ 9223372036854775807 := by rw [ep3]; exact wrap_range _
  obtain ⟨p4, ep4⟩ : ∃ p4, p4 = wrap64 (a * r3) := ⟨_, rfl⟩
  have hp4 : -9223372036854775808 ≤ p4 ∧ p4 ≤ 9223372036854775807 := by rw [ep4]; exact wrap_range _
  obtain ⟨p5, ep5⟩ : ∃ p5, p5 = wrap64 (a * c) := ⟨_, rfl⟩
  have hp5 : -9223372036854775808 ≤ p5 ∧ p5 ≤ 9223372036854775807 := by rw [ep5]; exact wrap_range _
  obtain ⟨s1, es1⟩ : ∃ s1, s1 = wrap64 (a - b) := ⟨_, rfl⟩
  have hs1 : -9223372036854775808 ≤ s1 ∧ s1 ≤ 9223372036854775807 := by rw [es1]; exact wrap_range _
  obtain ⟨n1, en1⟩ : ∃ n1, n1 = wrap64 (-b) := ⟨_, rfl⟩
  have hn1 : -9223372036854775808 ≤ n1 ∧ n1 ≤ 9223372036854775807 := by rw [en1]; exact wrap_range _
  obtain ⟨n2, en2⟩ : ∃ n2, n2 = wrap64 (-a) := ⟨_, rfl⟩
  have hn2 : -9223372036854775808 ≤ n2 ∧ n2 ≤ 9223372036854775807 := by rw [en2]; exact wrap_range _
  have f1 := Lib.hid (show r1 = wrap64 (b + a) by rw [er1, Int.add_comm])
  have f2 := Lib.hid (show p1 = wrap64 (b * a) by rw [ep1, Int.mul_comm])
  have f3 := Lib.hid (show r2 = wrap64 (a + r3) by rw [er2, er1, er3]; unfold wrap64; omega)
  have f4 := Lib.hid (show p2 = wrap64 (a * p3) by rw [ep2, ep1, ep3, wrap_mul, wrap_mul_right, Int.mul_assoc])
  have f5 := Lib.hid (show p4 = wrap64 (p1 + p5) by rw [ep4, ep1, ep5, er3, wrap_mul_right, wrap_add, Int.mul_add])
  have f6 := Lib.hid (show s1 = wrap64 (a + n1) by rw [es1, en1]; unfold wrap64; omega)
  have f7 := Lib.hid (show (0 : Int) = wrap64 (a + n2) by rw [en2]; unfold wrap64; omega)
  have f8 := Lib.hid (show a = wrap64 (a * 1) by rw [Int.mul_one, wrap_self ha])
  have f9 := Lib.hid (show n2 = wrap64 (a * -1) by rw [en2, Int.mul_neg, Int.mul_one])
  have gr1 := Lib.hid er1
  have gp1 := Lib.hid ep1
  have gr2 := Lib.hid er2
  have gr3 := Lib.hid er3
  have gp2 := Lib.hid ep2
  have gp3 := Lib.hid ep3
  have gp4 := Lib.hid ep4
  have gp5 := Lib.hid ep5
  have gs1 := Lib.hid es1
  have gn1 := Lib.hid en1
  have gn2 := Lib.hid en2
  clear er1 ep1 er2 er3 ep2 ep3 ep4 ep5 es1 en1 en2
  go_enter Try.func6, Try.ntmps6
  go_wp2_with fail
  refine (awake3_any w).mono ?_
  rintro e w1 ⟨rfl, hn1⟩
  have hb1 := hn1
  clear hn1
  go_wp2_with fail
  refine (add_is r1 a b w1 ha.1 ha.2 hb.1 hb.2 gr1.out).mono ?_
  rintro e w2 ⟨rfl, hn2⟩
  have hb2 := hb1.trans (hn2.mono hb1.size)
  clear hn2
  go_wp2_with fail
  refine (add_is r1 b a w2 hb.1 hb.2 ha.1 ha.2 f1.out).mono ?_
  rintro e w3 ⟨rfl, hn3⟩
  have hb3 := hb2.trans (hn3.mono hb2.size)
  clear hn3
  go_wp2_with fail
  refine (mul_is p1 a b w3 ha.1 ha.2 hb.1 hb.2 gp1.out).mono ?_
  rintro e w4 ⟨rfl, hn4⟩
  have hb4 := hb3.trans (hn4.mono hb3.size)
  clear hn4
  go_wp2_with fail
  refine (mul_is p1 b a w4 hb.1 hb.2 ha.1 ha.2 f2.out).mono ?_
  rintro e w5 ⟨rfl, hn5⟩
  have hb5 := hb4.trans (hn5.mono hb4.size)
  clear hn5
  go_wp2_with fail
  refine (add_is r1 a b w5 ha.1 ha.2 hb.1 hb.2 gr1.out).mono ?_
  rintro e w6 ⟨rfl, hn6⟩
  have hb6 := hb5.trans (hn6.mono hb5.size)
  clear hn6
  go_wp2_with fail
  refine (add_is r2 r1 c w6 hr1.1 hr1.2 hc.1 hc.2 gr2.out).mono ?_
  rintro e w7 ⟨rfl, hn7⟩
  have hb7 := hb6.trans (hn7.mono hb6.size)
  clear hn7
  go_wp2_with fail
  refine (add_is r3 b c w7 hb.1 hb.2 hc.1 hc.2 gr3.out).mono ?_
  rintro e w8 ⟨rfl, hn8⟩
  have hb8 := hb7.trans (hn8.mono hb7.size)
  clear hn8
  go_wp2_with fail
  refine (add_is r2 a r3 w8 ha.1 ha.2 hr3.1 hr3.2 f3.out).mono ?_
  rintro e w9 ⟨rfl, hn9⟩
  have hb9 := hb8.trans (hn9.mono hb8.size)
  clear hn9
  go_wp2_with fail
  refine (mul_is p1 a b w9 ha.1 ha.2 hb.1 hb.2 gp1.out).mono ?_
  rintro e w10 ⟨rfl, hn10⟩
  have hb10 := hb9.trans (hn10.mono hb9.size)
  clear hn10
  go_wp2_with fail
  refine (mul_is p2 p1 c w10 hp1.1 hp1.2 hc.1 hc.2 gp2.out).mono ?_
  rintro e w11 ⟨rfl, hn11⟩
  have hb11 := hb10.trans (hn11.mono hb10.size)
  clear hn11
  go_wp2_with fail
  refine (mul_is p3 b c w11 hb.1 hb.2 hc.1 hc.2 gp3.out).mono ?_
  rintro e w12 ⟨rfl, hn12⟩
  have hb12 := hb11.trans (hn12.mono hb11.size)
  clear hn12
  go_wp2_with fail
  refine (mul_is p2 a p3 w12 ha.1 ha.2 hp3.1 hp3.2 f4.out).mono ?_
  rintro e w13 ⟨rfl, hn13⟩
  have hb13 := hb12.trans (hn13.mono hb12.size)
  clear hn13
  go_wp2_with fail
  refine (add_is r3 b c w13 hb.1 hb.2 hc.1 hc.2 gr3.out).mono ?_
  rintro e w14 ⟨rfl, hn14⟩
  have hb14 := hb13.trans (hn14.mono hb13.size)
  clear hn14
  go_wp2_with fail
  refine (mul_is p4 a r3 w14 ha.1 ha.2 hr3.1 hr3.2 gp4.out).mono ?_
  rintro e w15 ⟨rfl, hn15⟩
  have hb15 := hb14.trans (hn15.mono hb14.size)
  clear hn15
  go_wp2_with fail
  refine (mul_is p1 a b w15 ha.1 ha.2 hb.1 hb.2 gp1.out).mono ?_
  rintro e w16 ⟨rfl, hn16⟩
  have hb16 := hb15.trans (hn16.mono hb15.size)
  clear hn16
  go_wp2_with fail
  refine (mul_is p5 a c w16 ha.1 ha.2 hc.1 hc.2 gp5.out).mono ?_
  rintro e w17 ⟨rfl, hn17⟩
  have hb17 := hb16.trans (hn17.mono hb16.size)
  clear hn17
  go_wp2_with fail
  refine (add_is p4 p1 p5 w17 hp1.1 hp1.2 hp5.1 hp5.2 f5.out).mono ?_
  rintro e w18 ⟨rfl, hn18⟩
  have hb18 := hb17.trans (hn18.mono hb17.size)
  clear hn18
  go_wp2_with fail
  refine (sub_is s1 a b w18 ha.1 ha.2 hb.1 hb.2 gs1.out).mono ?_
  rintro e w19 ⟨rfl, hn19⟩
  have hb19 := hb18.trans (hn19.mono hb18.size)
  clear hn19
  go_wp2_with fail
  refine (neg_is n1 b w19 hb.1 hb.2 gn1.out).mono ?_
  rintro e w20 ⟨rfl, hn20⟩
  have hb20 := hb19.trans (hn20.mono hb19.size)
  clear hn20
  go_wp2_with fail
  refine (add_is s1 a n1 w20 ha.1 ha.2 hn1.1 hn1.2 f6.out).mono ?_
  rintro e w21 ⟨rfl, hn21⟩
  have hb21 := hb20.trans (hn21.mono hb20.size)
  clear hn21
  go_wp2_with fail
  refine (neg_is n2 a w21 ha.1 ha.2 gn2.out).mono ?_
  rintro e w22 ⟨rfl, hn22⟩
  have hb22 := hb21.trans (hn22.mono hb21.size)
  clear hn22
  go_wp2_with fail
  refine (add_is 0 a n2 w22 ha.1 ha.2 hn2.1 hn2.2 f7.out).mono ?_
  rintro e w23 ⟨rfl, hn23⟩
  have hb23 := hb22.trans (hn23.mono hb22.size)
  clear hn23
  go_wp2_with fail
  refine (mul_is a a 1 w23 ha.1 ha.2 (by omega) (by omega) f8.out).mono ?_
  rintro e w24 ⟨rfl, hn24⟩
  have hb24 := hb23.trans (hn24.mono hb23.size)
  clear hn24
  go_wp2_with fail
  refine (mul_is n2 a (-1) w24 ha.1 ha.2 (by omega) (by omega) f9.out).mono ?_
  rintro e w25 ⟨rfl, hn25⟩
  have hb25 := hb24.trans (hn25.mono hb24.size)
  clear hn25
  go_wp2_with fail
  refine (neg_is n2 a w25 ha.1 ha.2 gn2.out).mono ?_
  rintro e w26 ⟨rfl, hn26⟩
  have hb26 := hb25.trans (hn26.mono hb25.size)
  clear hn26
  go_wp2_with fail
  go_ret
  exact ⟨rfl, hb26⟩
end Go.Proofs.Ytjokcofbabfcfaa
