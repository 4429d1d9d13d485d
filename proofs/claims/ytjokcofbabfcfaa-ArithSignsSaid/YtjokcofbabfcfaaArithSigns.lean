import Derived.Test.YtjokcofbabfcfaaArithDoes
namespace Go.Proofs.Ytjokcofbabfcfaa
open Go.RowKit

theorem flag_bit (p : Bool) : flagOf p = 0 ∨ flagOf p = 1 := by cases p <;> simp [flagOf]
theorem sign_none {op : Int} (h : op < 5 ∨ 20 < op) : signOf op = (0, 0, false) := by unfold signOf; rw [if_pos h]
theorem one_none {op a : Int} (h : op < 5 ∨ 6 < op) : oneOf op a = (0, false) := by unfold oneOf; rw [if_neg (by omega), if_neg (by omega)]
/-- What an op is of, and what comes of it. -/
theorem signs_fit {op a b i o v u : Int} {ok done one : Bool} (hs : signOf op = (i, o, ok)) (hd : doOf op a b = (v, done)) (hn : oneOf op a = (u, one)) :
    (done = false ∧ one = false ∧ ok = false ∧ v = 0 ∧ u = 0) ∨ (((done = true ∧ one = false) ∨ (done = false ∧ one = true)) ∧ ok = true ∧ (o = 1 ∨ (o ≠ 1 ∧ (v = 0 ∨ v = 1) ∧ (u = 0 ∨ u = 1)))) := by
  rcases (show op = 5 ∨ op = 6 ∨ op = 7 ∨ op = 8 ∨ op = 9 ∨ op = 10 ∨ op = 11 ∨ op = 12 ∨ op = 13 ∨ op = 14 ∨ op = 15 ∨ op = 16 ∨ op = 17 ∨ op = 18 ∨ op = 19 ∨ op = 20 ∨ (op < 5 ∨ 20 < op) by omega) with rfl | rfl | rfl | rfl | rfl | rfl | rfl | rfl | rfl | rfl | rfl | rfl | rfl | rfl | rfl | rfl | h
  · have e : signOf 5 = (1, 1, true) := by decide
    rw [e] at hs
    rw [do_none (by omega)] at hd
    have e2 : oneOf 5 a = (wrap64 (-a), true) := rfl
    rw [e2] at hn
    simp only [Prod.mk.injEq] at hs hd hn
    obtain ⟨rfl, rfl, rfl⟩ := hs
    obtain ⟨rfl, rfl⟩ := hd
    obtain ⟨rfl, rfl⟩ := hn
    exact .inr ⟨.inr ⟨rfl, rfl⟩, rfl, .inl rfl⟩
  · have e : signOf 6 = (2, 2, true) := by decide
    rw [e] at hs
    rw [do_none (by omega)] at hd
    have e2 : oneOf 6 a = (flagOf (decide (a = 0)), true) := rfl
    rw [e2] at hn
    simp only [Prod.mk.injEq] at hs hd hn
    obtain ⟨rfl, rfl, rfl⟩ := hs
    obtain ⟨rfl, rfl⟩ := hd
    obtain ⟨rfl, rfl⟩ := hn
    exact .inr ⟨.inr ⟨rfl, rfl⟩, rfl, .inr ⟨by omega, .inl rfl, flag_bit _⟩⟩
  · have e : signOf 7 = (1, 1, true) := by decide
    rw [e] at hs
    rw [one_none (by omega)] at hn
    have e2 : (doOf 7 a b).2 = true := rfl
    rw [hd] at e2
    simp only [Prod.mk.injEq] at hs hn
    obtain ⟨rfl, rfl, rfl⟩ := hs
    obtain ⟨rfl, rfl⟩ := hn
    exact .inr ⟨.inl ⟨e2, rfl⟩, rfl, .inl rfl⟩
  · have e : signOf 8 = (1, 1, true) := by decide
    rw [e] at hs
    rw [one_none (by omega)] at hn
    have e2 : (doOf 8 a b).2 = true := rfl
    rw [hd] at e2
    simp only [Prod.mk.injEq] at hs hn
    obtain ⟨rfl, rfl, rfl⟩ := hs
    obtain ⟨rfl, rfl⟩ := hn
    exact .inr ⟨.inl ⟨e2, rfl⟩, rfl, .inl rfl⟩
  · have e : signOf 9 = (1, 1, true) := by decide
    rw [e] at hs
    rw [one_none (by omega)] at hn
    have e2 : (doOf 9 a b).2 = true := rfl
    rw [hd] at e2
    simp only [Prod.mk.injEq] at hs hn
    obtain ⟨rfl, rfl, rfl⟩ := hs
    obtain ⟨rfl, rfl⟩ := hn
    exact .inr ⟨.inl ⟨e2, rfl⟩, rfl, .inl rfl⟩
  · have e : signOf 10 = (1, 1, true) := by decide
    rw [e] at hs
    rw [one_none (by omega)] at hn
    have e2 : (doOf 10 a b).2 = true := rfl
    rw [hd] at e2
    simp only [Prod.mk.injEq] at hs hn
    obtain ⟨rfl, rfl, rfl⟩ := hs
    obtain ⟨rfl, rfl⟩ := hn
    exact .inr ⟨.inl ⟨e2, rfl⟩, rfl, .inl rfl⟩
  · have e : signOf 11 = (1, 1, true) := by decide
    rw [e] at hs
    rw [one_none (by omega)] at hn
    have e2 : (doOf 11 a b).2 = true := rfl
    rw [hd] at e2
    simp only [Prod.mk.injEq] at hs hn
    obtain ⟨rfl, rfl, rfl⟩ := hs
    obtain ⟨rfl, rfl⟩ := hn
    exact .inr ⟨.inl ⟨e2, rfl⟩, rfl, .inl rfl⟩
  · have e : signOf 12 = (0, 2, true) := by decide
    rw [e] at hs
    rw [one_none (by omega)] at hn
    have e2 : ∃ p, doOf 12 a b = (flagOf p, true) := ⟨_, rfl⟩
    obtain ⟨p, e2⟩ := e2
    rw [e2] at hd
    simp only [Prod.mk.injEq] at hs hd hn
    obtain ⟨rfl, rfl, rfl⟩ := hs
    obtain ⟨rfl, rfl⟩ := hd
    obtain ⟨rfl, rfl⟩ := hn
    exact .inr ⟨.inl ⟨rfl, rfl⟩, rfl, .inr ⟨by omega, flag_bit _, .inl rfl⟩⟩
  · have e : signOf 13 = (0, 2, true) := by decide
    rw [e] at hs
    rw [one_none (by omega)] at hn
    have e2 : ∃ p, doOf 13 a b = (flagOf p, true) := ⟨_, rfl⟩
    obtain ⟨p, e2⟩ := e2
    rw [e2] at hd
    simp only [Prod.mk.injEq] at hs hd hn
    obtain ⟨rfl, rfl, rfl⟩ := hs
    obtain ⟨rfl, rfl⟩ := hd
    obtain ⟨rfl, rfl⟩ := hn
    exact .inr ⟨.inl ⟨rfl, rfl⟩, rfl, .inr ⟨by omega, flag_bit _, .inl rfl⟩⟩
  · have e : signOf 14 = (1, 2, true) := by decide
    rw [e] at hs
    rw [one_none (by omega)] at hn
    have e2 : ∃ p, doOf 14 a b = (flagOf p, true) := ⟨_, rfl⟩
    obtain ⟨p, e2⟩ := e2
    rw [e2] at hd
    simp only [Prod.mk.injEq] at hs hd hn
    obtain ⟨rfl, rfl, rfl⟩ := hs
    obtain ⟨rfl, rfl⟩ := hd
    obtain ⟨rfl, rfl⟩ := hn
    exact .inr ⟨.inl ⟨rfl, rfl⟩, rfl, .inr ⟨by omega, flag_bit _, .inl rfl⟩⟩
  · have e : signOf 15 = (1, 2, true) := by decide
    rw [e] at hs
    rw [one_none (by omega)] at hn
    have e2 : ∃ p, doOf 15 a b = (flagOf p, true) := ⟨_, rfl⟩
    obtain ⟨p, e2⟩ := e2
    rw [e2] at hd
    simp only [Prod.mk.injEq] at hs hd hn
    obtain ⟨rfl, rfl, rfl⟩ := hs
    obtain ⟨rfl, rfl⟩ := hd
    obtain ⟨rfl, rfl⟩ := hn
    exact .inr ⟨.inl ⟨rfl, rfl⟩, rfl, .inr ⟨by omega, flag_bit _, .inl rfl⟩⟩
  · have e : signOf 16 = (1, 2, true) := by decide
    rw [e] at hs
    rw [one_none (by omega)] at hn
    have e2 : ∃ p, doOf 16 a b = (flagOf p, true) := ⟨_, rfl⟩
    obtain ⟨p, e2⟩ := e2
    rw [e2] at hd
    simp only [Prod.mk.injEq] at hs hd hn
    obtain ⟨rfl, rfl, rfl⟩ := hs
    obtain ⟨rfl, rfl⟩ := hd
    obtain ⟨rfl, rfl⟩ := hn
    exact .inr ⟨.inl ⟨rfl, rfl⟩, rfl, .inr ⟨by omega, flag_bit _, .inl rfl⟩⟩
  · have e : signOf 17 = (1, 2, true) := by decide
    rw [e] at hs
    rw [one_none (by omega)] at hn
    have e2 : ∃ p, doOf 17 a b = (flagOf p, true) := ⟨_, rfl⟩
    obtain ⟨p, e2⟩ := e2
    rw [e2] at hd
    simp only [Prod.mk.injEq] at hs hd hn
    obtain ⟨rfl, rfl, rfl⟩ := hs
    obtain ⟨rfl, rfl⟩ := hd
    obtain ⟨rfl, rfl⟩ := hn
    exact .inr ⟨.inl ⟨rfl, rfl⟩, rfl, .inr ⟨by omega, flag_bit _, .inl rfl⟩⟩
  · have e : signOf 18 = (2, 2, true) := by decide
    rw [e] at hs
    rw [one_none (by omega)] at hn
    have e2 : ∃ p, doOf 18 a b = (flagOf p, true) := ⟨_, rfl⟩
    obtain ⟨p, e2⟩ := e2
    rw [e2] at hd
    simp only [Prod.mk.injEq] at hs hd hn
    obtain ⟨rfl, rfl, rfl⟩ := hs
    obtain ⟨rfl, rfl⟩ := hd
    obtain ⟨rfl, rfl⟩ := hn
    exact .inr ⟨.inl ⟨rfl, rfl⟩, rfl, .inr ⟨by omega, flag_bit _, .inl rfl⟩⟩
  · have e : signOf 19 = (2, 2, true) := by decide
    rw [e] at hs
    rw [one_none (by omega)] at hn
    have e2 : ∃ p, doOf 19 a b = (flagOf p, true) := ⟨_, rfl⟩
    obtain ⟨p, e2⟩ := e2
    rw [e2] at hd
    simp only [Prod.mk.injEq] at hs hd hn
    obtain ⟨rfl, rfl, rfl⟩ := hs
    obtain ⟨rfl, rfl⟩ := hd
    obtain ⟨rfl, rfl⟩ := hn
    exact .inr ⟨.inl ⟨rfl, rfl⟩, rfl, .inr ⟨by omega, flag_bit _, .inl rfl⟩⟩
  · have e : signOf 20 = (2, 2, true) := by decide
    rw [e] at hs
    rw [one_none (by omega)] at hn
    have e2 : ∃ p, doOf 20 a b = (flagOf p, true) := ⟨_, rfl⟩
    obtain ⟨p, e2⟩ := e2
    rw [e2] at hd
    simp only [Prod.mk.injEq] at hs hd hn
    obtain ⟨rfl, rfl, rfl⟩ := hs
    obtain ⟨rfl, rfl⟩ := hd
    obtain ⟨rfl, rfl⟩ := hn
    exact .inr ⟨.inl ⟨rfl, rfl⟩, rfl, .inr ⟨by omega, flag_bit _, .inl rfl⟩⟩
  · rw [sign_none h] at hs
    rw [do_none (by omega)] at hd
    rw [one_none (by omega)] at hn
    simp only [Prod.mk.injEq] at hs hd hn
    obtain ⟨rfl, rfl, rfl⟩ := hs
    obtain ⟨rfl, rfl⟩ := hd
    obtain ⟨rfl, rfl⟩ := hn
    exact .inl ⟨rfl, rfl, rfl, rfl, rfl⟩

set_option maxRecDepth 100000 in
set_option maxHeartbeats 3200000 in
theorem arithSigns_walk (w : World) (op : Int) (hop : -9223372036854775808 ≤ op ∧ op ≤ 9223372036854775807) (a : Int) (ha : -9223372036854775808 ≤ a ∧ a ≤ 9223372036854775807) (b : Int) (hb : -9223372036854775808 ≤ b ∧ b ≤ 9223372036854775807) :
    Calls Try.prog 4 #[.int .i64 op, .int .i64 a, .int .i64 b] w fun e w' => e = .returned (.bool true) ∧ Below w.heap.size w w' := by
  obtain ⟨i, o, ok, hs⟩ : ∃ i o ok, signOf op = (i, o, ok) := ⟨_, _, _, rfl⟩
  obtain ⟨v, done, hd⟩ : ∃ z q, doOf op a b = (z, q) := ⟨_, _, rfl⟩
  obtain ⟨u, one, hn⟩ : ∃ x p, oneOf op a = (x, p) := ⟨_, _, rfl⟩
  have hfit := signs_fit hs hd hn
  have Hs := Lib.hid hs; have Hd := Lib.hid hd; have Hn := Lib.hid hn
  clear hs hd hn
  rcases hfit with ⟨rfl, rfl, rfl, rfl, rfl⟩ | ⟨hdo, rfl, ho⟩
  · go_enter Try.func4, Try.ntmps4
    go_wp2_with fail
    refine (awake3_any w).mono ?_
    rintro e w1 ⟨rfl, hn1⟩
    have hb1 := hn1
    clear hn1
    go_wp2_with fail
    refine (sign_is i o false op w1 hop Hs.out).mono ?_
    rintro e w2 ⟨rfl, hn2⟩
    have hb2 := hb1.trans (hn2.mono hb1.size)
    clear hn2
    go_wp2_with fail
    refine (rsign_is i o false op w2 hop Hs.out).mono ?_
    rintro e w3 ⟨rfl, hn3⟩
    have hb3 := hb2.trans (hn3.mono hb2.size)
    clear hn3
    go_wp2_with fail
    refine (do_is 0 false op a b w3 hop ha hb Hd.out).mono ?_
    rintro e w4 ⟨rfl, hn4⟩
    have hb4 := hb3.trans (hn4.mono hb3.size)
    clear hn4
    go_wp2_with fail
    refine (one_is 0 false op a w4 hop ha Hn.out).mono ?_
    rintro e w5 ⟨rfl, hn5⟩
    have hb5 := hb4.trans (hn5.mono hb4.size)
    clear hn5
    go_wp2_with fail
    go_ret
    exact ⟨rfl, hb5⟩
  · rcases hdo with ⟨rfl, rfl⟩ | ⟨rfl, rfl⟩
    · rcases ho with rfl | ⟨ho, hv, hu⟩
      · go_enter Try.func4, Try.ntmps4
        go_wp2_with fail
        refine (awake3_any w).mono ?_
        rintro e w1 ⟨rfl, hn1⟩
        have hb1 := hn1
        clear hn1
        go_wp2_with fail
        refine (sign_is i 1 true op w1 hop Hs.out).mono ?_
        rintro e w2 ⟨rfl, hn2⟩
        have hb2 := hb1.trans (hn2.mono hb1.size)
        clear hn2
        go_wp2_with fail
        refine (rsign_is i 1 true op w2 hop Hs.out).mono ?_
        rintro e w3 ⟨rfl, hn3⟩
        have hb3 := hb2.trans (hn3.mono hb2.size)
        clear hn3
        go_wp2_with fail
        refine (do_is v true op a b w3 hop ha hb Hd.out).mono ?_
        rintro e w4 ⟨rfl, hn4⟩
        have hb4 := hb3.trans (hn4.mono hb3.size)
        clear hn4
        go_wp2_with fail
        refine (one_is u false op a w4 hop ha Hn.out).mono ?_
        rintro e w5 ⟨rfl, hn5⟩
        have hb5 := hb4.trans (hn5.mono hb4.size)
        clear hn5
        go_wp2_with fail
        go_ret
        exact ⟨rfl, hb5⟩
      · have hoe : (o == 1) = false := by simpa using ho
        rcases hv with rfl | rfl <;> rcases hu with rfl | rfl
        · go_enter Try.func4, Try.ntmps4
          go_wp2_with fail
          refine (awake3_any w).mono ?_
          rintro e w1 ⟨rfl, hn1⟩
          have hb1 := hn1
          clear hn1
          go_wp2_with fail
          refine (sign_is i o true op w1 hop Hs.out).mono ?_
          rintro e w2 ⟨rfl, hn2⟩
          have hb2 := hb1.trans (hn2.mono hb1.size)
          clear hn2
          go_wp2_with fail
          refine (rsign_is i o true op w2 hop Hs.out).mono ?_
          rintro e w3 ⟨rfl, hn3⟩
          have hb3 := hb2.trans (hn3.mono hb2.size)
          clear hn3
          go_wp2_with fail
          refine (do_is 0 true op a b w3 hop ha hb Hd.out).mono ?_
          rintro e w4 ⟨rfl, hn4⟩
          have hb4 := hb3.trans (hn4.mono hb3.size)
          clear hn4
          go_wp2_with fail
          refine (one_is 0 false op a w4 hop ha Hn.out).mono ?_
          rintro e w5 ⟨rfl, hn5⟩
          have hb5 := hb4.trans (hn5.mono hb4.size)
          clear hn5
          go_wp2_with fail
          go_ret
          exact ⟨rfl, hb5⟩
        · go_enter Try.func4, Try.ntmps4
          go_wp2_with fail
          refine (awake3_any w).mono ?_
          rintro e w1 ⟨rfl, hn1⟩
          have hb1 := hn1
          clear hn1
          go_wp2_with fail
          refine (sign_is i o true op w1 hop Hs.out).mono ?_
          rintro e w2 ⟨rfl, hn2⟩
          have hb2 := hb1.trans (hn2.mono hb1.size)
          clear hn2
          go_wp2_with fail
          refine (rsign_is i o true op w2 hop Hs.out).mono ?_
          rintro e w3 ⟨rfl, hn3⟩
          have hb3 := hb2.trans (hn3.mono hb2.size)
          clear hn3
          go_wp2_with fail
          refine (do_is 0 true op a b w3 hop ha hb Hd.out).mono ?_
          rintro e w4 ⟨rfl, hn4⟩
          have hb4 := hb3.trans (hn4.mono hb3.size)
          clear hn4
          go_wp2_with fail
          refine (one_is 1 false op a w4 hop ha Hn.out).mono ?_
          rintro e w5 ⟨rfl, hn5⟩
          have hb5 := hb4.trans (hn5.mono hb4.size)
          clear hn5
          go_wp2_with fail
          go_ret
          exact ⟨rfl, hb5⟩
        · go_enter Try.func4, Try.ntmps4
          go_wp2_with fail
          refine (awake3_any w).mono ?_
          rintro e w1 ⟨rfl, hn1⟩
          have hb1 := hn1
          clear hn1
          go_wp2_with fail
          refine (sign_is i o true op w1 hop Hs.out).mono ?_
          rintro e w2 ⟨rfl, hn2⟩
          have hb2 := hb1.trans (hn2.mono hb1.size)
          clear hn2
          go_wp2_with fail
          refine (rsign_is i o true op w2 hop Hs.out).mono ?_
          rintro e w3 ⟨rfl, hn3⟩
          have hb3 := hb2.trans (hn3.mono hb2.size)
          clear hn3
          go_wp2_with fail
          refine (do_is 1 true op a b w3 hop ha hb Hd.out).mono ?_
          rintro e w4 ⟨rfl, hn4⟩
          have hb4 := hb3.trans (hn4.mono hb3.size)
          clear hn4
          go_wp2_with fail
          refine (one_is 0 false op a w4 hop ha Hn.out).mono ?_
          rintro e w5 ⟨rfl, hn5⟩
          have hb5 := hb4.trans (hn5.mono hb4.size)
          clear hn5
          go_wp2_with fail
          go_ret
          exact ⟨rfl, hb5⟩
        · go_enter Try.func4, Try.ntmps4
          go_wp2_with fail
          refine (awake3_any w).mono ?_
          rintro e w1 ⟨rfl, hn1⟩
          have hb1 := hn1
          clear hn1
          go_wp2_with fail
          refine (sign_is i o true op w1 hop Hs.out).mono ?_
          rintro e w2 ⟨rfl, hn2⟩
          have hb2 := hb1.trans (hn2.mono hb1.size)
          clear hn2
          go_wp2_with fail
          refine (rsign_is i o true op w2 hop Hs.out).mono ?_
          rintro e w3 ⟨rfl, hn3⟩
          have hb3 := hb2.trans (hn3.mono hb2.size)
          clear hn3
          go_wp2_with fail
          refine (do_is 1 true op a b w3 hop ha hb Hd.out).mono ?_
          rintro e w4 ⟨rfl, hn4⟩
          have hb4 := hb3.trans (hn4.mono hb3.size)
          clear hn4
          go_wp2_with fail
          refine (one_is 1 false op a w4 hop ha Hn.out).mono ?_
          rintro e w5 ⟨rfl, hn5⟩
          have hb5 := hb4.trans (hn5.mono hb4.size)
          clear hn5
          go_wp2_with fail
          go_ret
          exact ⟨rfl, hb5⟩
    · rcases ho with rfl | ⟨ho, hv, hu⟩
      · go_enter Try.func4, Try.ntmps4
        go_wp2_with fail
        refine (awake3_any w).mono ?_
        rintro e w1 ⟨rfl, hn1⟩
        have hb1 := hn1
        clear hn1
        go_wp2_with fail
        refine (sign_is i 1 true op w1 hop Hs.out).mono ?_
        rintro e w2 ⟨rfl, hn2⟩
        have hb2 := hb1.trans (hn2.mono hb1.size)
        clear hn2
        go_wp2_with fail
        refine (rsign_is i 1 true op w2 hop Hs.out).mono ?_
        rintro e w3 ⟨rfl, hn3⟩
        have hb3 := hb2.trans (hn3.mono hb2.size)
        clear hn3
        go_wp2_with fail
        refine (do_is v false op a b w3 hop ha hb Hd.out).mono ?_
        rintro e w4 ⟨rfl, hn4⟩
        have hb4 := hb3.trans (hn4.mono hb3.size)
        clear hn4
        go_wp2_with fail
        refine (one_is u true op a w4 hop ha Hn.out).mono ?_
        rintro e w5 ⟨rfl, hn5⟩
        have hb5 := hb4.trans (hn5.mono hb4.size)
        clear hn5
        go_wp2_with fail
        go_ret
        exact ⟨rfl, hb5⟩
      · have hoe : (o == 1) = false := by simpa using ho
        rcases hv with rfl | rfl <;> rcases hu with rfl | rfl
        · go_enter Try.func4, Try.ntmps4
          go_wp2_with fail
          refine (awake3_any w).mono ?_
          rintro e w1 ⟨rfl, hn1⟩
          have hb1 := hn1
          clear hn1
          go_wp2_with fail
          refine (sign_is i o true op w1 hop Hs.out).mono ?_
          rintro e w2 ⟨rfl, hn2⟩
          have hb2 := hb1.trans (hn2.mono hb1.size)
          clear hn2
          go_wp2_with fail
          refine (rsign_is i o true op w2 hop Hs.out).mono ?_
          rintro e w3 ⟨rfl, hn3⟩
          have hb3 := hb2.trans (hn3.mono hb2.size)
          clear hn3
          go_wp2_with fail
          refine (do_is 0 false op a b w3 hop ha hb Hd.out).mono ?_
          rintro e w4 ⟨rfl, hn4⟩
          have hb4 := hb3.trans (hn4.mono hb3.size)
          clear hn4
          go_wp2_with fail
          refine (one_is 0 true op a w4 hop ha Hn.out).mono ?_
          rintro e w5 ⟨rfl, hn5⟩
          have hb5 := hb4.trans (hn5.mono hb4.size)
          clear hn5
          go_wp2_with fail
          go_ret
          exact ⟨rfl, hb5⟩
        · go_enter Try.func4, Try.ntmps4
          go_wp2_with fail
          refine (awake3_any w).mono ?_
          rintro e w1 ⟨rfl, hn1⟩
          have hb1 := hn1
          clear hn1
          go_wp2_with fail
          refine (sign_is i o true op w1 hop Hs.out).mono ?_
          rintro e w2 ⟨rfl, hn2⟩
          have hb2 := hb1.trans (hn2.mono hb1.size)
          clear hn2
          go_wp2_with fail
          refine (rsign_is i o true op w2 hop Hs.out).mono ?_
          rintro e w3 ⟨rfl, hn3⟩
          have hb3 := hb2.trans (hn3.mono hb2.size)
          clear hn3
          go_wp2_with fail
          refine (do_is 0 false op a b w3 hop ha hb Hd.out).mono ?_
          rintro e w4 ⟨rfl, hn4⟩
          have hb4 := hb3.trans (hn4.mono hb3.size)
          clear hn4
          go_wp2_with fail
          refine (one_is 1 true op a w4 hop ha Hn.out).mono ?_
          rintro e w5 ⟨rfl, hn5⟩
          have hb5 := hb4.trans (hn5.mono hb4.size)
          clear hn5
          go_wp2_with fail
          go_ret
          exact ⟨rfl, hb5⟩
        · go_enter Try.func4, Try.ntmps4
          go_wp2_with fail
          refine (awake3_any w).mono ?_
          rintro e w1 ⟨rfl, hn1⟩
          have hb1 := hn1
          clear hn1
          go_wp2_with fail
          refine (sign_is i o true op w1 hop Hs.out).mono ?_
          rintro e w2 ⟨rfl, hn2⟩
          have hb2 := hb1.trans (hn2.mono hb1.size)
          clear hn2
          go_wp2_with fail
          refine (rsign_is i o true op w2 hop Hs.out).mono ?_
          rintro e w3 ⟨rfl, hn3⟩
          have hb3 := hb2.trans (hn3.mono hb2.size)
          clear hn3
          go_wp2_with fail
          refine (do_is 1 false op a b w3 hop ha hb Hd.out).mono ?_
          rintro e w4 ⟨rfl, hn4⟩
          have hb4 := hb3.trans (hn4.mono hb3.size)
          clear hn4
          go_wp2_with fail
          refine (one_is 0 true op a w4 hop ha Hn.out).mono ?_
          rintro e w5 ⟨rfl, hn5⟩
          have hb5 := hb4.trans (hn5.mono hb4.size)
          clear hn5
          go_wp2_with fail
          go_ret
          exact ⟨rfl, hb5⟩
        · go_enter Try.func4, Try.ntmps4
          go_wp2_with fail
          refine (awake3_any w).mono ?_
          rintro e w1 ⟨rfl, hn1⟩
          have hb1 := hn1
          clear hn1
          go_wp2_with fail
          refine (sign_is i o true op w1 hop Hs.out).mono ?_
          rintro e w2 ⟨rfl, hn2⟩
          have hb2 := hb1.trans (hn2.mono hb1.size)
          clear hn2
          go_wp2_with fail
          refine (rsign_is i o true op w2 hop Hs.out).mono ?_
          rintro e w3 ⟨rfl, hn3⟩
          have hb3 := hb2.trans (hn3.mono hb2.size)
          clear hn3
          go_wp2_with fail
          refine (do_is 1 false op a b w3 hop ha hb Hd.out).mono ?_
          rintro e w4 ⟨rfl, hn4⟩
          have hb4 := hb3.trans (hn4.mono hb3.size)
          clear hn4
          go_wp2_with fail
          refine (one_is 1 true op a w4 hop ha Hn.out).mono ?_
          rintro e w5 ⟨rfl, hn5⟩
          have hb5 := hb4.trans (hn5.mono hb4.size)
          clear hn5
          go_wp2_with fail
          go_ret
          exact ⟨rfl, hb5⟩
end Go.Proofs.Ytjokcofbabfcfaa
