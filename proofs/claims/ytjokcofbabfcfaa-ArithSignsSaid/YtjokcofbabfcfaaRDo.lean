import Derived.Test.YtjokcofbabfcfaaRMod
namespace Go.Proofs.Ytjokcofbabfcfaa
open Go.RowKit

theorem ret_num_bool {a b : Int} {p q : Bool} (h : a = b) (h' : p = q) : Ending.returned (.tuple #[.int .i64 a, .bool p]) = .returned (.tuple #[.int .i64 b, .bool q]) := by rw [h, h']

/-- What comes of one number. -/
def oneOf (op a : Int) : Int × Bool := if op = 5 then (wrap64 (-a), true) else if op = 6 then (flagOf (decide (a = 0)), true) else (0, false)
/-- What comes of two numbers. -/
def doOf (op a b : Int) : Int × Bool :=
  if op = 7 then (wrap64 (a + b), true) else if op = 8 then (wrap64 (a - b), true) else if op = 9 then (wrap64 (a * b), true) else if op = 10 then (divOf a b, true) else if op = 11 then (modOf a b, true)
  else if op = 12 then (flagOf (decide (a = b)), true) else if op = 13 then (flagOf (!decide (a = b)), true) else if op = 14 then (flagOf (decide (a < b)), true) else if op = 15 then (flagOf (!decide (b < a)), true)
  else if op = 16 then (flagOf (decide (b < a)), true) else if op = 17 then (flagOf (!decide (a < b)), true)
  else if op = 18 then (flagOf (!decide (a = 0) && !decide (b = 0)), true) else if op = 19 then (flagOf (!decide (a = 0) || !decide (b = 0)), true) else if op = 20 then (flagOf (decide (a = 0) != decide (b = 0)), true)
  else (0, false)

set_option maxRecDepth 100000 in
set_option maxHeartbeats 800000 in
theorem rone_any (op a : Int) (w : World) (ha1 : -9223372036854775808 ≤ a) (ha2 : a ≤ 9223372036854775807) :
    Calls Try.prog 9 #[.int .i64 op, .int .i64 a] w fun e w' => e = .returned (.tuple #[.int .i64 (oneOf op a).1, .bool (oneOf op a).2]) ∧ Below w.heap.size w w' := by
  by_cases h5 : op = 5
  · subst h5
    go_enter Try.func9, Try.ntmps9
    go_wp2_with fail
    refine (rneg_is _ a _ ha1 ha2 rfl).mono ?_
    rintro e w1 ⟨rfl, h1⟩
    go_wp2_with fail
    go_ret2
    exact ⟨rfl, h1⟩
  · by_cases h6 : op = 6
    · subst h6
      obtain ⟨p, hp⟩ : ∃ p : Bool, p = decide (a = 0) := ⟨_, rfl⟩
      obtain ⟨r, hr⟩ : ∃ r, r = flagOf p := ⟨_, rfl⟩
      have hres := Lib.hid (show r = (oneOf 6 a).1 by rw [hr, hp]; rfl)
      have hpe : (a == 0) = p := by rw [hp]; rfl
      have Hrr := Lib.hid hr
      clear hp hr
      go_enter Try.func9, Try.ntmps9
      go_wp2_with fail
      refine (rflag_is r p _ Hrr.out).mono ?_
      rintro e w1 ⟨rfl, h1⟩
      go_wp2_with fail
      go_ret2
      exact ⟨ret_num_bool hres.out rfl, h1⟩
    · have e : oneOf op a = (0, false) := by unfold oneOf; rw [if_neg h5, if_neg h6]
      rw [e]
      have h5' : (op == 5) = false := by simpa using h5
      have h6' : (op == 6) = false := by simpa using h6
      go_enter Try.func9, Try.ntmps9
      go_wp2
      go_ret2
      exact ⟨rfl, Below.refl _ _⟩

set_option maxRecDepth 100000 in
set_option maxHeartbeats 1600000 in
theorem rdo_7 (a b : Int) (w : World) (ha1 : -9223372036854775808 ≤ a) (ha2 : a ≤ 9223372036854775807) (hb1 : -9223372036854775808 ≤ b) (hb2 : b ≤ 9223372036854775807) :
    Calls Try.prog 11 #[.int .i64 7, .int .i64 a, .int .i64 b] w fun e w' => e = .returned (.tuple #[.int .i64 (doOf 7 a b).1, .bool true]) ∧ Below w.heap.size w w' := by
  obtain ⟨r, hr⟩ : ∃ r, r = wrap64 (a + b) := ⟨_, rfl⟩
  have Hr := Lib.hid (show r = (doOf 7 a b).1 from hr)
  have Hrr := Lib.hid hr
  clear hr
  go_enter Try.func11, Try.ntmps11
  go_wp2_with fail
  refine (radd_is r a b w ha1 ha2 hb1 hb2 Hrr.out).mono ?_
  rintro e w1 ⟨rfl, h1⟩
  go_wp2_with fail
  go_ret2
  exact ⟨ret_num_bool Hr.out rfl, h1⟩
set_option maxRecDepth 100000 in
set_option maxHeartbeats 1600000 in
theorem rdo_8 (a b : Int) (w : World) (ha1 : -9223372036854775808 ≤ a) (ha2 : a ≤ 9223372036854775807) (hb1 : -9223372036854775808 ≤ b) (hb2 : b ≤ 9223372036854775807) :
    Calls Try.prog 11 #[.int .i64 8, .int .i64 a, .int .i64 b] w fun e w' => e = .returned (.tuple #[.int .i64 (doOf 8 a b).1, .bool true]) ∧ Below w.heap.size w w' := by
  obtain ⟨s, hs⟩ : ∃ s, s = wrap64 (-b) := ⟨_, rfl⟩
  have hs1 : -9223372036854775808 ≤ s ∧ s ≤ 9223372036854775807 := by rw [hs]; exact wrap_range _
  obtain ⟨r, hr⟩ : ∃ r, r = wrap64 (a + s) := ⟨_, rfl⟩
  have Hr := Lib.hid (show r = (doOf 8 a b).1 by
    show r = wrap64 (a - b)
    rw [hr, hs]; unfold wrap64; omega)
  have Hs := Lib.hid hs; have Hrr := Lib.hid hr
  clear hs hr
  go_enter Try.func11, Try.ntmps11
  go_wp2_with fail
  refine (rneg_is s b w hb1 hb2 Hs.out).mono ?_
  rintro e w1 ⟨rfl, h1⟩
  go_wp2_with fail
  refine (radd_is r a s w1 ha1 ha2 hs1.1 hs1.2 Hrr.out).mono ?_
  rintro e w2 ⟨rfl, h2⟩
  go_wp2_with fail
  go_ret2
  exact ⟨ret_num_bool Hr.out rfl, h1.trans (h2.mono h1.size)⟩
set_option maxRecDepth 100000 in
set_option maxHeartbeats 1600000 in
theorem rdo_9 (a b : Int) (w : World) (ha1 : -9223372036854775808 ≤ a) (ha2 : a ≤ 9223372036854775807) (hb1 : -9223372036854775808 ≤ b) (hb2 : b ≤ 9223372036854775807) :
    Calls Try.prog 11 #[.int .i64 9, .int .i64 a, .int .i64 b] w fun e w' => e = .returned (.tuple #[.int .i64 (doOf 9 a b).1, .bool true]) ∧ Below w.heap.size w w' := by
  obtain ⟨r, hr⟩ : ∃ r, r = wrap64 (a * b) := ⟨_, rfl⟩
  have Hr := Lib.hid (show r = (doOf 9 a b).1 from hr)
  have Hrr := Lib.hid hr
  clear hr
  go_enter Try.func11, Try.ntmps11
  go_wp2_with fail
  refine (rmul_is r a b w ha1 ha2 hb1 hb2 Hrr.out).mono ?_
  rintro e w1 ⟨rfl, h1⟩
  go_wp2_with fail
  go_ret2
  exact ⟨ret_num_bool Hr.out rfl, h1⟩
set_option maxRecDepth 100000 in
set_option maxHeartbeats 1600000 in
theorem rdo_10 (a b : Int) (w : World) (ha1 : -9223372036854775808 ≤ a) (ha2 : a ≤ 9223372036854775807) (hb1 : -9223372036854775808 ≤ b) (hb2 : b ≤ 9223372036854775807) :
    Calls Try.prog 11 #[.int .i64 10, .int .i64 a, .int .i64 b] w fun e w' => e = .returned (.tuple #[.int .i64 (doOf 10 a b).1, .bool true]) ∧ Below w.heap.size w w' := by
  obtain ⟨r, hr⟩ : ∃ r, r = divOf a b := ⟨_, rfl⟩
  have Hr := Lib.hid (show r = (doOf 10 a b).1 from hr)
  have Hrr := Lib.hid hr
  clear hr
  go_enter Try.func11, Try.ntmps11
  go_wp2_with fail
  refine (rdiv_is r a b w ha1 ha2 hb1 hb2 Hrr.out).mono ?_
  rintro e w1 ⟨rfl, h1⟩
  go_wp2_with fail
  go_ret2
  exact ⟨ret_num_bool Hr.out rfl, h1⟩
set_option maxRecDepth 100000 in
set_option maxHeartbeats 1600000 in
theorem rdo_11 (a b : Int) (w : World) (ha1 : -9223372036854775808 ≤ a) (ha2 : a ≤ 9223372036854775807) (hb1 : -9223372036854775808 ≤ b) (hb2 : b ≤ 9223372036854775807) :
    Calls Try.prog 11 #[.int .i64 11, .int .i64 a, .int .i64 b] w fun e w' => e = .returned (.tuple #[.int .i64 (doOf 11 a b).1, .bool true]) ∧ Below w.heap.size w w' := by
  obtain ⟨r, hr⟩ : ∃ r, r = modOf a b := ⟨_, rfl⟩
  have Hr := Lib.hid (show r = (doOf 11 a b).1 from hr)
  have Hrr := Lib.hid hr
  clear hr
  go_enter Try.func11, Try.ntmps11
  go_wp2_with fail
  refine (rmod_is r a b w ha1 ha2 hb1 hb2 Hrr.out).mono ?_
  rintro e w1 ⟨rfl, h1⟩
  go_wp2_with fail
  go_ret2
  exact ⟨ret_num_bool Hr.out rfl, h1⟩
set_option maxRecDepth 100000 in
set_option maxHeartbeats 1600000 in
theorem rdo_12 (a b : Int) (w : World) (ha1 : -9223372036854775808 ≤ a) (ha2 : a ≤ 9223372036854775807) (hb1 : -9223372036854775808 ≤ b) (hb2 : b ≤ 9223372036854775807) :
    Calls Try.prog 11 #[.int .i64 12, .int .i64 a, .int .i64 b] w fun e w' => e = .returned (.tuple #[.int .i64 (doOf 12 a b).1, .bool true]) ∧ Below w.heap.size w w' := by
  obtain ⟨p, hp⟩ : ∃ p : Bool, p = decide (a = b) := ⟨_, rfl⟩
  obtain ⟨r, hr⟩ : ∃ r, r = flagOf (p) := ⟨_, rfl⟩
  have Hr := Lib.hid (show r = (doOf 12 a b).1 by rw [hr, hp]; rfl)
  have hpe : (a == b) = p := by rw [hp]; rfl
  have Hrr := Lib.hid hr
  clear hp hr
  go_enter Try.func11, Try.ntmps11
  go_wp2_with fail
  refine (rflag_is r (p) w Hrr.out).mono ?_
  rintro e w1 ⟨rfl, h1⟩
  go_wp2_with fail
  go_ret2
  exact ⟨ret_num_bool Hr.out rfl, h1⟩
set_option maxRecDepth 100000 in
set_option maxHeartbeats 1600000 in
theorem rdo_13 (a b : Int) (w : World) (ha1 : -9223372036854775808 ≤ a) (ha2 : a ≤ 9223372036854775807) (hb1 : -9223372036854775808 ≤ b) (hb2 : b ≤ 9223372036854775807) :
    Calls Try.prog 11 #[.int .i64 13, .int .i64 a, .int .i64 b] w fun e w' => e = .returned (.tuple #[.int .i64 (doOf 13 a b).1, .bool true]) ∧ Below w.heap.size w w' := by
  obtain ⟨p, hp⟩ : ∃ p : Bool, p = !decide (a = b) := ⟨_, rfl⟩
  obtain ⟨r, hr⟩ : ∃ r, r = flagOf p := ⟨_, rfl⟩
  have Hr := Lib.hid (show r = (doOf 13 a b).1 by rw [hr, hp]; rfl)
  have hpe : (a != b) = p := by rw [hp]; rfl
  have Hrr := Lib.hid hr
  clear hp hr
  go_enter Try.func11, Try.ntmps11
  go_wp2_with fail
  refine (rflag_is r p w Hrr.out).mono ?_
  rintro e w1 ⟨rfl, h1⟩
  go_wp2_with fail
  go_ret2
  exact ⟨ret_num_bool Hr.out rfl, h1⟩
set_option maxRecDepth 100000 in
set_option maxHeartbeats 1600000 in
theorem rdo_14 (a b : Int) (w : World) (ha1 : -9223372036854775808 ≤ a) (ha2 : a ≤ 9223372036854775807) (hb1 : -9223372036854775808 ≤ b) (hb2 : b ≤ 9223372036854775807) :
    Calls Try.prog 11 #[.int .i64 14, .int .i64 a, .int .i64 b] w fun e w' => e = .returned (.tuple #[.int .i64 (doOf 14 a b).1, .bool true]) ∧ Below w.heap.size w w' := by
  obtain ⟨p, hp⟩ : ∃ p : Bool, p = decide (a < b) := ⟨_, rfl⟩
  obtain ⟨r, hr⟩ : ∃ r, r = flagOf (p) := ⟨_, rfl⟩
  have Hr := Lib.hid (show r = (doOf 14 a b).1 by rw [hr, hp]; rfl)
  have hpe : decide (a < b) = p := hp.symm
  have Hrr := Lib.hid hr
  clear hp hr
  go_enter Try.func11, Try.ntmps11
  go_wp2_with fail
  refine (rflag_is r (p) w Hrr.out).mono ?_
  rintro e w1 ⟨rfl, h1⟩
  go_wp2_with fail
  go_ret2
  exact ⟨ret_num_bool Hr.out rfl, h1⟩
set_option maxRecDepth 100000 in
set_option maxHeartbeats 1600000 in
theorem rdo_15 (a b : Int) (w : World) (ha1 : -9223372036854775808 ≤ a) (ha2 : a ≤ 9223372036854775807) (hb1 : -9223372036854775808 ≤ b) (hb2 : b ≤ 9223372036854775807) :
    Calls Try.prog 11 #[.int .i64 15, .int .i64 a, .int .i64 b] w fun e w' => e = .returned (.tuple #[.int .i64 (doOf 15 a b).1, .bool true]) ∧ Below w.heap.size w w' := by
  obtain ⟨p, hp⟩ : ∃ p : Bool, p = decide (b < a) := ⟨_, rfl⟩
  obtain ⟨r, hr⟩ : ∃ r, r = flagOf (!p) := ⟨_, rfl⟩
  have Hr := Lib.hid (show r = (doOf 15 a b).1 by rw [hr, hp]; rfl)
  have hpe : decide (b < a) = p := hp.symm
  have Hrr := Lib.hid hr
  clear hp hr
  go_enter Try.func11, Try.ntmps11
  go_wp2_with fail
  refine (rflag_is r (!p) w Hrr.out).mono ?_
  rintro e w1 ⟨rfl, h1⟩
  go_wp2_with fail
  go_ret2
  exact ⟨ret_num_bool Hr.out rfl, h1⟩
set_option maxRecDepth 100000 in
set_option maxHeartbeats 1600000 in
theorem rdo_16 (a b : Int) (w : World) (ha1 : -9223372036854775808 ≤ a) (ha2 : a ≤ 9223372036854775807) (hb1 : -9223372036854775808 ≤ b) (hb2 : b ≤ 9223372036854775807) :
    Calls Try.prog 11 #[.int .i64 16, .int .i64 a, .int .i64 b] w fun e w' => e = .returned (.tuple #[.int .i64 (doOf 16 a b).1, .bool true]) ∧ Below w.heap.size w w' := by
  obtain ⟨p, hp⟩ : ∃ p : Bool, p = decide (b < a) := ⟨_, rfl⟩
  obtain ⟨r, hr⟩ : ∃ r, r = flagOf (p) := ⟨_, rfl⟩
  have Hr := Lib.hid (show r = (doOf 16 a b).1 by rw [hr, hp]; rfl)
  have hpe : decide (b < a) = p := hp.symm
  have Hrr := Lib.hid hr
  clear hp hr
  go_enter Try.func11, Try.ntmps11
  go_wp2_with fail
  refine (rflag_is r (p) w Hrr.out).mono ?_
  rintro e w1 ⟨rfl, h1⟩
  go_wp2_with fail
  go_ret2
  exact ⟨ret_num_bool Hr.out rfl, h1⟩
set_option maxRecDepth 100000 in
set_option maxHeartbeats 1600000 in
theorem rdo_17 (a b : Int) (w : World) (ha1 : -9223372036854775808 ≤ a) (ha2 : a ≤ 9223372036854775807) (hb1 : -9223372036854775808 ≤ b) (hb2 : b ≤ 9223372036854775807) :
    Calls Try.prog 11 #[.int .i64 17, .int .i64 a, .int .i64 b] w fun e w' => e = .returned (.tuple #[.int .i64 (doOf 17 a b).1, .bool true]) ∧ Below w.heap.size w w' := by
  obtain ⟨p, hp⟩ : ∃ p : Bool, p = decide (a < b) := ⟨_, rfl⟩
  obtain ⟨r, hr⟩ : ∃ r, r = flagOf (!p) := ⟨_, rfl⟩
  have Hr := Lib.hid (show r = (doOf 17 a b).1 by rw [hr, hp]; rfl)
  have hpe : decide (a < b) = p := hp.symm
  have Hrr := Lib.hid hr
  clear hp hr
  go_enter Try.func11, Try.ntmps11
  go_wp2_with fail
  refine (rflag_is r (!p) w Hrr.out).mono ?_
  rintro e w1 ⟨rfl, h1⟩
  go_wp2_with fail
  go_ret2
  exact ⟨ret_num_bool Hr.out rfl, h1⟩
set_option maxRecDepth 100000 in
set_option maxHeartbeats 1600000 in
theorem rdo_18 (a b : Int) (w : World) (ha1 : -9223372036854775808 ≤ a) (ha2 : a ≤ 9223372036854775807) (hb1 : -9223372036854775808 ≤ b) (hb2 : b ≤ 9223372036854775807) :
    Calls Try.prog 11 #[.int .i64 18, .int .i64 a, .int .i64 b] w fun e w' => e = .returned (.tuple #[.int .i64 (doOf 18 a b).1, .bool true]) ∧ Below w.heap.size w w' := by
  by_cases ha : a = 0 <;> by_cases hb : b = 0
  · have Hr := Lib.hid (show 0 = (doOf 18 a b).1 by
      show (0 : Int) = flagOf _
      rw [decide_eq_true ha, decide_eq_true hb]; rfl)
    have hp : (a != 0) = false := by simpa using ha
    have hq : (b != 0) = false := by simpa using hb
    clear ha hb
    go_enter Try.func11, Try.ntmps11
    go_wp2_with fail
    refine (rflag_is 0 false w rfl).mono ?_
    rintro e w1 ⟨rfl, h1⟩
    go_wp2_with fail
    refine (rflag_is 0 false w1 rfl).mono ?_
    rintro e w2 ⟨rfl, h2⟩
    have h2' := h1.trans (h2.mono h1.size)
    go_wp2_with fail
    go_ret2
    exact ⟨ret_num_bool Hr.out rfl, h2'⟩
  · have Hr := Lib.hid (show 0 = (doOf 18 a b).1 by
      show (0 : Int) = flagOf _
      rw [decide_eq_true ha, decide_eq_false hb]; rfl)
    have hp : (a != 0) = false := by simpa using ha
    have hq : (b != 0) = true := by simpa using hb
    clear ha hb
    go_enter Try.func11, Try.ntmps11
    go_wp2_with fail
    refine (rflag_is 0 false w rfl).mono ?_
    rintro e w1 ⟨rfl, h1⟩
    go_wp2_with fail
    refine (rflag_is 1 true w1 rfl).mono ?_
    rintro e w2 ⟨rfl, h2⟩
    have h2' := h1.trans (h2.mono h1.size)
    go_wp2_with fail
    go_ret2
    exact ⟨ret_num_bool Hr.out rfl, h2'⟩
  · have Hr := Lib.hid (show 0 = (doOf 18 a b).1 by
      show (0 : Int) = flagOf _
      rw [decide_eq_false ha, decide_eq_true hb]; rfl)
    have hp : (a != 0) = true := by simpa using ha
    have hq : (b != 0) = false := by simpa using hb
    clear ha hb
    go_enter Try.func11, Try.ntmps11
    go_wp2_with fail
    refine (rflag_is 1 true w rfl).mono ?_
    rintro e w1 ⟨rfl, h1⟩
    go_wp2_with fail
    refine (rflag_is 0 false w1 rfl).mono ?_
    rintro e w2 ⟨rfl, h2⟩
    have h2' := h1.trans (h2.mono h1.size)
    go_wp2_with fail
    go_ret2
    exact ⟨ret_num_bool Hr.out rfl, h2'⟩
  · have Hr := Lib.hid (show 1 = (doOf 18 a b).1 by
      show (1 : Int) = flagOf _
      rw [decide_eq_false ha, decide_eq_false hb]; rfl)
    have hp : (a != 0) = true := by simpa using ha
    have hq : (b != 0) = true := by simpa using hb
    clear ha hb
    go_enter Try.func11, Try.ntmps11
    go_wp2_with fail
    refine (rflag_is 1 true w rfl).mono ?_
    rintro e w1 ⟨rfl, h1⟩
    go_wp2_with fail
    refine (rflag_is 1 true w1 rfl).mono ?_
    rintro e w2 ⟨rfl, h2⟩
    have h2' := h1.trans (h2.mono h1.size)
    go_wp2_with fail
    go_ret2
    exact ⟨ret_num_bool Hr.out rfl, h2'⟩
set_option maxRecDepth 100000 in
set_option maxHeartbeats 1600000 in
theorem rdo_19 (a b : Int) (w : World) (ha1 : -9223372036854775808 ≤ a) (ha2 : a ≤ 9223372036854775807) (hb1 : -9223372036854775808 ≤ b) (hb2 : b ≤ 9223372036854775807) :
    Calls Try.prog 11 #[.int .i64 19, .int .i64 a, .int .i64 b] w fun e w' => e = .returned (.tuple #[.int .i64 (doOf 19 a b).1, .bool true]) ∧ Below w.heap.size w w' := by
  by_cases ha : a = 0 <;> by_cases hb : b = 0
  · have Hr := Lib.hid (show 0 = (doOf 19 a b).1 by
      show (0 : Int) = flagOf _
      rw [decide_eq_true ha, decide_eq_true hb]; rfl)
    have hp : (a != 0) = false := by simpa using ha
    have hq : (b != 0) = false := by simpa using hb
    clear ha hb
    go_enter Try.func11, Try.ntmps11
    go_wp2_with fail
    refine (rflag_is 0 false w rfl).mono ?_
    rintro e w1 ⟨rfl, h1⟩
    go_wp2_with fail
    refine (rflag_is 0 false w1 rfl).mono ?_
    rintro e w2 ⟨rfl, h2⟩
    have h2' := h1.trans (h2.mono h1.size)
    go_wp2_with fail
    refine (rflag_is 0 false w2 rfl).mono ?_
    rintro e w3 ⟨rfl, h3⟩
    go_wp2_with fail
    go_ret2
    exact ⟨ret_num_bool Hr.out rfl, h2'.trans (h3.mono h2'.size)⟩
  · have Hr := Lib.hid (show 1 = (doOf 19 a b).1 by
      show (1 : Int) = flagOf _
      rw [decide_eq_true ha, decide_eq_false hb]; rfl)
    have hp : (a != 0) = false := by simpa using ha
    have hq : (b != 0) = true := by simpa using hb
    clear ha hb
    go_enter Try.func11, Try.ntmps11
    go_wp2_with fail
    refine (rflag_is 0 false w rfl).mono ?_
    rintro e w1 ⟨rfl, h1⟩
    go_wp2_with fail
    refine (rflag_is 1 true w1 rfl).mono ?_
    rintro e w2 ⟨rfl, h2⟩
    have h2' := h1.trans (h2.mono h1.size)
    go_wp2_with fail
    refine (rflag_is 1 true w2 rfl).mono ?_
    rintro e w3 ⟨rfl, h3⟩
    go_wp2_with fail
    go_ret2
    exact ⟨ret_num_bool Hr.out rfl, h2'.trans (h3.mono h2'.size)⟩
  · have Hr := Lib.hid (show 1 = (doOf 19 a b).1 by
      show (1 : Int) = flagOf _
      rw [decide_eq_false ha, decide_eq_true hb]; rfl)
    have hp : (a != 0) = true := by simpa using ha
    have hq : (b != 0) = false := by simpa using hb
    clear ha hb
    go_enter Try.func11, Try.ntmps11
    go_wp2_with fail
    refine (rflag_is 1 true w rfl).mono ?_
    rintro e w1 ⟨rfl, h1⟩
    go_wp2_with fail
    refine (rflag_is 0 false w1 rfl).mono ?_
    rintro e w2 ⟨rfl, h2⟩
    have h2' := h1.trans (h2.mono h1.size)
    go_wp2_with fail
    refine (rflag_is 1 true w2 rfl).mono ?_
    rintro e w3 ⟨rfl, h3⟩
    go_wp2_with fail
    go_ret2
    exact ⟨ret_num_bool Hr.out rfl, h2'.trans (h3.mono h2'.size)⟩
  · have Hr := Lib.hid (show 1 = (doOf 19 a b).1 by
      show (1 : Int) = flagOf _
      rw [decide_eq_false ha, decide_eq_false hb]; rfl)
    have hp : (a != 0) = true := by simpa using ha
    have hq : (b != 0) = true := by simpa using hb
    clear ha hb
    go_enter Try.func11, Try.ntmps11
    go_wp2_with fail
    refine (rflag_is 1 true w rfl).mono ?_
    rintro e w1 ⟨rfl, h1⟩
    go_wp2_with fail
    refine (rflag_is 1 true w1 rfl).mono ?_
    rintro e w2 ⟨rfl, h2⟩
    have h2' := h1.trans (h2.mono h1.size)
    go_wp2_with fail
    refine (rflag_is 1 true w2 rfl).mono ?_
    rintro e w3 ⟨rfl, h3⟩
    go_wp2_with fail
    go_ret2
    exact ⟨ret_num_bool Hr.out rfl, h2'.trans (h3.mono h2'.size)⟩
set_option maxRecDepth 100000 in
set_option maxHeartbeats 1600000 in
theorem rdo_20 (a b : Int) (w : World) (ha1 : -9223372036854775808 ≤ a) (ha2 : a ≤ 9223372036854775807) (hb1 : -9223372036854775808 ≤ b) (hb2 : b ≤ 9223372036854775807) :
    Calls Try.prog 11 #[.int .i64 20, .int .i64 a, .int .i64 b] w fun e w' => e = .returned (.tuple #[.int .i64 (doOf 20 a b).1, .bool true]) ∧ Below w.heap.size w w' := by
  by_cases ha : a = 0 <;> by_cases hb : b = 0
  · have Hr := Lib.hid (show 0 = (doOf 20 a b).1 by
      show (0 : Int) = flagOf _
      rw [decide_eq_true ha, decide_eq_true hb]; rfl)
    have hp : (a != 0) = false := by simpa using ha
    have hq : (b != 0) = false := by simpa using hb
    clear ha hb
    go_enter Try.func11, Try.ntmps11
    go_wp2_with fail
    refine (rflag_is 0 false w rfl).mono ?_
    rintro e w1 ⟨rfl, h1⟩
    go_wp2_with fail
    refine (rflag_is 0 false w1 rfl).mono ?_
    rintro e w2 ⟨rfl, h2⟩
    have h2' := h1.trans (h2.mono h1.size)
    go_wp2_with fail
    refine (rflag_is 0 false w2 rfl).mono ?_
    rintro e w3 ⟨rfl, h3⟩
    go_wp2_with fail
    go_ret2
    exact ⟨ret_num_bool Hr.out rfl, h2'.trans (h3.mono h2'.size)⟩
  · have Hr := Lib.hid (show 1 = (doOf 20 a b).1 by
      show (1 : Int) = flagOf _
      rw [decide_eq_true ha, decide_eq_false hb]; rfl)
    have hp : (a != 0) = false := by simpa using ha
    have hq : (b != 0) = true := by simpa using hb
    clear ha hb
    go_enter Try.func11, Try.ntmps11
    go_wp2_with fail
    refine (rflag_is 0 false w rfl).mono ?_
    rintro e w1 ⟨rfl, h1⟩
    go_wp2_with fail
    refine (rflag_is 1 true w1 rfl).mono ?_
    rintro e w2 ⟨rfl, h2⟩
    have h2' := h1.trans (h2.mono h1.size)
    go_wp2_with fail
    refine (rflag_is 1 true w2 rfl).mono ?_
    rintro e w3 ⟨rfl, h3⟩
    go_wp2_with fail
    go_ret2
    exact ⟨ret_num_bool Hr.out rfl, h2'.trans (h3.mono h2'.size)⟩
  · have Hr := Lib.hid (show 1 = (doOf 20 a b).1 by
      show (1 : Int) = flagOf _
      rw [decide_eq_false ha, decide_eq_true hb]; rfl)
    have hp : (a != 0) = true := by simpa using ha
    have hq : (b != 0) = false := by simpa using hb
    clear ha hb
    go_enter Try.func11, Try.ntmps11
    go_wp2_with fail
    refine (rflag_is 1 true w rfl).mono ?_
    rintro e w1 ⟨rfl, h1⟩
    go_wp2_with fail
    refine (rflag_is 0 false w1 rfl).mono ?_
    rintro e w2 ⟨rfl, h2⟩
    have h2' := h1.trans (h2.mono h1.size)
    go_wp2_with fail
    refine (rflag_is 1 true w2 rfl).mono ?_
    rintro e w3 ⟨rfl, h3⟩
    go_wp2_with fail
    go_ret2
    exact ⟨ret_num_bool Hr.out rfl, h2'.trans (h3.mono h2'.size)⟩
  · have Hr := Lib.hid (show 0 = (doOf 20 a b).1 by
      show (0 : Int) = flagOf _
      rw [decide_eq_false ha, decide_eq_false hb]; rfl)
    have hp : (a != 0) = true := by simpa using ha
    have hq : (b != 0) = true := by simpa using hb
    clear ha hb
    go_enter Try.func11, Try.ntmps11
    go_wp2_with fail
    refine (rflag_is 1 true w rfl).mono ?_
    rintro e w1 ⟨rfl, h1⟩
    go_wp2_with fail
    refine (rflag_is 1 true w1 rfl).mono ?_
    rintro e w2 ⟨rfl, h2⟩
    have h2' := h1.trans (h2.mono h1.size)
    go_wp2_with fail
    refine (rflag_is 0 false w2 rfl).mono ?_
    rintro e w3 ⟨rfl, h3⟩
    go_wp2_with fail
    go_ret2
    exact ⟨ret_num_bool Hr.out rfl, h2'.trans (h3.mono h2'.size)⟩
set_option maxRecDepth 100000 in
set_option maxHeartbeats 1600000 in
theorem rdo_none (op a b : Int) (w : World) (hop : op < 7 ∨ 20 < op) :
    Calls Try.prog 11 #[.int .i64 op, .int .i64 a, .int .i64 b] w fun e w' => e = .returned (.tuple #[.int .i64 0, .bool false]) ∧ Below w.heap.size w w' := by
  have h7 : (op == 7) = false := by simp; omega
  have h8 : (op == 8) = false := by simp; omega
  have h9 : (op == 9) = false := by simp; omega
  have h10 : (op == 10) = false := by simp; omega
  have h11 : (op == 11) = false := by simp; omega
  have h12 : (op == 12) = false := by simp; omega
  have h13 : (op == 13) = false := by simp; omega
  have h14 : (op == 14) = false := by simp; omega
  have h15 : (op == 15) = false := by simp; omega
  have h16 : (op == 16) = false := by simp; omega
  have h17 : (op == 17) = false := by simp; omega
  have h18 : (op == 18) = false := by simp; omega
  have h19 : (op == 19) = false := by simp; omega
  have h20 : (op == 20) = false := by simp; omega
  obtain ⟨p, hp⟩ : ∃ p : Bool, p = (a != 0) := ⟨_, rfl⟩
  obtain ⟨q, hq⟩ : ∃ q : Bool, q = (b != 0) := ⟨_, rfl⟩
  have hp' := hp.symm
  have hq' := hq.symm
  clear hp hq hop
  go_enter Try.func11, Try.ntmps11
  go_wp2_with fail
  refine (rflag_is _ p w rfl).mono ?_
  rintro e w1 ⟨rfl, h1⟩
  go_wp2_with fail
  refine (rflag_is _ q w1 rfl).mono ?_
  rintro e w2 ⟨rfl, h2⟩
  go_wp2_with fail
  go_ret2
  exact ⟨rfl, h1.trans (h2.mono h1.size)⟩

theorem do_none {op a b : Int} (h : op < 7 ∨ 20 < op) : doOf op a b = (0, false) := by
  unfold doOf
  rw [if_neg (by omega), if_neg (by omega), if_neg (by omega), if_neg (by omega), if_neg (by omega), if_neg (by omega), if_neg (by omega), if_neg (by omega), if_neg (by omega), if_neg (by omega), if_neg (by omega), if_neg (by omega), if_neg (by omega), if_neg (by omega)]
theorem rdo_any (op a b : Int) (w : World) (ha1 : -9223372036854775808 ≤ a) (ha2 : a ≤ 9223372036854775807) (hb1 : -9223372036854775808 ≤ b) (hb2 : b ≤ 9223372036854775807) :
    Calls Try.prog 11 #[.int .i64 op, .int .i64 a, .int .i64 b] w fun e w' => e = .returned (.tuple #[.int .i64 (doOf op a b).1, .bool (doOf op a b).2]) ∧ Below w.heap.size w w' := by
  rcases (show op = 7 ∨ op = 8 ∨ op = 9 ∨ op = 10 ∨ op = 11 ∨ op = 12 ∨ op = 13 ∨ op = 14 ∨ op = 15 ∨ op = 16 ∨ op = 17 ∨ op = 18 ∨ op = 19 ∨ op = 20 ∨ (op < 7 ∨ 20 < op) by omega) with rfl | rfl | rfl | rfl | rfl | rfl | rfl | rfl | rfl | rfl | rfl | rfl | rfl | rfl | h
  · exact rdo_7 a b w ha1 ha2 hb1 hb2
  · exact rdo_8 a b w ha1 ha2 hb1 hb2
  · exact rdo_9 a b w ha1 ha2 hb1 hb2
  · exact rdo_10 a b w ha1 ha2 hb1 hb2
  · exact rdo_11 a b w ha1 ha2 hb1 hb2
  · exact rdo_12 a b w ha1 ha2 hb1 hb2
  · exact rdo_13 a b w ha1 ha2 hb1 hb2
  · exact rdo_14 a b w ha1 ha2 hb1 hb2
  · exact rdo_15 a b w ha1 ha2 hb1 hb2
  · exact rdo_16 a b w ha1 ha2 hb1 hb2
  · exact rdo_17 a b w ha1 ha2 hb1 hb2
  · exact rdo_18 a b w ha1 ha2 hb1 hb2
  · exact rdo_19 a b w ha1 ha2 hb1 hb2
  · exact rdo_20 a b w ha1 ha2 hb1 hb2
  · rw [do_none h]; exact rdo_none op a b w h
end Go.Proofs.Ytjokcofbabfcfaa
