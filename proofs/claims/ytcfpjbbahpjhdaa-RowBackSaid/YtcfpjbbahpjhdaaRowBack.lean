import Derived.Test.YtcfpjbbahpjhdaaRowReads
namespace Go.Proofs.Ytcfpjbbahpjhdaa
open Go.RowKit

theorem bytes_row : ∀ (ts l : List Int), ∀ x ∈ rowBytes ts l, 0 ≤ x ∧ x < 256
  | [], _ => by simp [rowBytes]
  | _ :: _, [] => by simp [rowBytes]
  | t :: ts, v :: vs => by
    intro x hx
    rw [bytes_step'] at hx
    rcases List.mem_append.1 hx with h | h
    · split at h
      · simp at h; omega
      · exact sh_range 10 _ (by unfold turned; split <;> omega) x h
    · exact bytes_row ts vs x h

/-- What is written is read, and is no longer than it may be. -/
theorem row_fore {ts l : List Int} (hl : I64 l) (h : (writeRow ts l).2 = 0) : writeRow ts l = (rowBytes ts l, 0) ∧ readRow ts (rowBytes ts l) = (l, 0) ∧ ((rowBytes ts l).length : Int) ≤ sizeRow ts ∧ (rowBytes ts l).length ≤ 100 := by
  obtain ⟨h1, h2, h3⟩ := write_zero h
  obtain ⟨_, h5, h6⟩ := fits_parts h2
  have hr := right_is h1
  refine ⟨h3, ?_, ?_, sh_count ts l hr.1 h5 hr.2.2⟩
  · unfold readRow; rw [if_pos h1]; exact rd_back ts l hr.1 h5 h6 hl
  · unfold sizeRow; rw [if_pos h1]; exact size_le ts l hr.1 h5
/-- What is read fits, and is written as it was. -/
theorem row_aft {ts b : List Int} (hb : ∀ x ∈ b, 0 ≤ x ∧ x < 256) (h : (readRow ts b).2 = 0) : fitsOf ts (readRow ts b).1 = true ∧ writeRow ts (readRow ts b).1 = (b, 0) ∧ I64 (readRow ts b).1 ∧ (readRow ts b).1.length < 9 := by
  by_cases h1 : rightOf ts = true
  · have e : readRow ts b = rd ts b := by unfold readRow; rw [if_pos h1]
    rw [e] at h ⊢
    have hr := right_is h1
    obtain ⟨q1, q2, q3, q4⟩ := rd_fore ts b (rd ts b).1 hr.1 hb (by rw [← h])
    have hf : fitsOf ts (rd ts b).1 = true := by rw [fits_all h1 q1]; exact q2
    exact ⟨hf, by rw [write_ok h1 hf, q3], q4, by omega⟩
  · unfold readRow at h; rw [if_neg h1] at h; simp at h
theorem row_err {ts b : List Int} (h : (readRow ts b).2 ≠ 0) : (readRow ts b).1 = [] := by
  unfold readRow at h ⊢
  split
  · rename_i h1; rw [if_pos h1] at h; exact rd_err ts b h
  · rfl

set_option maxRecDepth 100000 in
set_option maxHeartbeats 3200000 in
theorem rowBack_walk (w : World) (A : Option Addr) (n c : Nat) (ts : List Int) (hx : Sl w A n (i64s ts)) (hxb : I64 ts) (hn : n ≤ 9223372036854775807) (B : Option Addr) (m d : Nat) (l : List Int) (hy : Sl w B m (i64s l)) (hyb : I64 l) (hm : m ≤ 9223372036854775807)
    (C : Option Addr) (p g : Nat) (b : List Int) (hz : Sl w C p (u8s b)) (hzb : ∀ x ∈ b, 0 ≤ x ∧ x < 256) (hp : p ≤ 9223372036854775807) (hpg : p ≤ g) :
    Calls Try.prog 5 #[.slice A n c, .slice B m d, .slice C p g] w fun e w' => e = .returned (.bool true) ∧ Below w.heap.size w w' := by
  have Hyb := Lib.hid hyb; have Hzb := Lib.hid hzb
  clear hyb hzb hxb
  have hb0 := Below.refl w.heap.size w
  by_cases hfew : n ≤ 20 ∧ m ≤ 20
  · have Hfew := Lib.hid (show true = (decide (n ≤ 20) && decide (m ≤ 20)) by rw [decide_eq_true hfew.1, decide_eq_true hfew.2]; rfl)
    obtain ⟨hn20, hm20⟩ := hfew
    by_cases h2 : 200 < p
    · have h2' : decide (200 < (p : Int)) = true := decide_eq_true (by omega)
      go_enter Try.func5, Try.ntmps5
      go_wp2_with fail
      refine (awake4_any w).mono ?_
      rintro e w1 ⟨rfl, hn1⟩
      have hb1 := hb0.trans (hn1.mono hb0.size)
      go_wp2_with fail
      refine (few_is true A B n c m d w1 hn hm Hfew.out).mono ?_
      rintro e w2 ⟨rfl, hn2⟩
      have hb2 := hb1.trans (hn2.mono hb1.size)
      go_wp2_with fail
      go_ret
      exact ⟨rfl, hb2⟩
    · have h2' : decide (200 < (p : Int)) = false := decide_eq_false (by omega)
      obtain ⟨X, e1, hX⟩ : ∃ X e1, writeRow ts l = (X, e1) := ⟨_, _, rfl⟩
      obtain ⟨Y, e2, hY⟩ : ∃ Y e2, readRow ts b = (Y, e2) := ⟨_, _, rfl⟩
      have HX := Lib.hid hX; have HY := Lib.hid hY
      have hf1 : e1 = 0 → readRow ts X = (l, 0) ∧ (X.length : Int) ≤ sizeRow ts ∧ X.length ≤ 100 ∧ ∀ x ∈ X, 0 ≤ x ∧ x < 256 := by
        intro h
        have h4 := row_fore Hyb.out (by rw [hX]; exact h)
        rw [hX] at h4
        have e : X = rowBytes ts l := (Prod.mk.injEq _ _ _ _ ▸ h4.1).1
        rw [e]
        exact ⟨h4.2.1, h4.2.2.1, h4.2.2.2, bytes_row ts l⟩
      have hf2 : e2 = 0 → fitsOf ts Y = true ∧ writeRow ts Y = (b, 0) ∧ I64 Y ∧ Y.length < 9 := by
        intro h
        have h4 := row_aft Hzb.out (ts := ts) (by rw [hY]; exact h)
        rw [hY] at h4
        exact h4
      have hf3 : e2 ≠ 0 → Y = [] := by
        intro h
        have h4 := row_err (ts := ts) (b := b) (by rw [hY]; exact h)
        rw [hY] at h4
        exact h4
      have HF2 := Lib.hid hf2; have HF3 := Lib.hid hf3
      clear hX hY hf2 hf3
      by_cases hz1 : e1 = 0
      · obtain ⟨g1, g2, g3, g4⟩ := hf1 hz1
        have G1 := Lib.hid g1; have G3 := Lib.hid g3; have G4 := Lib.hid g4
        obtain ⟨s, hs⟩ : ∃ s, s = sizeRow ts := ⟨_, rfl⟩
        have hle : (X.length : Int) ≤ s := by rw [hs]; exact g2
        have Hle := Lib.hid hle
        have Hs := Lib.hid hs
        clear g1 g2 g3 g4 hs hle hf1
        subst hz1
        by_cases hz2 : e2 = 0
        · subst hz2
          go_enter Try.func5, Try.ntmps5
          go_wp2_with fail
          refine (awake4_any w).mono ?_
          rintro e w1 ⟨rfl, hn1⟩
          have hb1 := hb0.trans (hn1.mono hb0.size)
          go_wp2_with fail
          refine (few_is true A B n c m d w1 hn hm Hfew.out).mono ?_
          rintro e w2 ⟨rfl, hn2⟩
          have hb2 := hb1.trans (hn2.mono hb1.size)
          go_wp2_with fail
          refine (row_write_is X 0 A B n c m d ts l w2 (hx.below hb2) (hy.below hb2) (by omega) (by omega) Hyb.out HX.out).mono ?_
          rintro e w3 ⟨v3, k3, rfl, hown3, hn3⟩
          have hmx3 := own_max hown3
          have hl3 : Hid (k3 = X.length) := Lib.hid (by have := own_len hown3; simpa using this)
          obtain ⟨A3, c3, rfl, hs3⟩ := own_form hown3
          have hcap3 := own_cap hown3
          have hb3 := hb2.trans (hn3.mono hb2.size)
          clear hown3
          have hk3 : k3 ≤ 100 := by rw [hl3.out]; exact G3.out
          have hks : (k3 : Int) ≤ s := by rw [hl3.out]; exact Hle.out
          go_wp2_with fail
          refine (row_read_is l 0 A A3 n c k3 c3 ts X w3 (hx.below hb3) hs3 (by omega) (by omega) hcap3 G4.out G1.out).mono ?_
          rintro e w4 ⟨v4, k4, rfl, hown4, hn4⟩
          have hmx4 := own_max hown4
          obtain ⟨A4, c4, rfl, hs4⟩ := own_form hown4
          have hcap4 := own_cap hown4
          have hb4 := hb3.trans (hn4.mono hb3.size)
          clear hown4
          go_wp2_with fail
          refine (ints_is true A4 B k4 m c4 d l l w4 hs4 (hy.below hb4) hmx4 hm (decide_eq_true rfl).symm).mono ?_
          rintro e w5 ⟨rfl, hn5⟩
          have hb5 := hb4.trans (hn5.mono hb4.size)
          go_wp2_with fail
          refine (row_size_is s A n c ts w5 (hx.below hb5) (by omega) Hs.out).mono ?_
          rintro e w6 ⟨rfl, hn6⟩
          have hb6 := hb5.trans (hn6.mono hb5.size)
          go_wp2_with fail
          refine (row_read_is Y 0 A C n c p g ts b w6 (hx.below hb6) (hz.below hb6) (by omega) (by omega) hpg Hzb.out HY.out).mono ?_
          rintro e w7 ⟨v7, k7, rfl, hown7, hn7⟩
          have hmx7 := own_max hown7
          have hl7 : Hid (k7 = Y.length) := Lib.hid (by have := own_len hown7; simpa using this)
          obtain ⟨A7, c7, rfl, hs7⟩ := own_form hown7
          have hcap7 := own_cap hown7
          have hb7 := hb6.trans (hn7.mono hb6.size)
          clear hown7
          obtain ⟨g1, g2, g3, g4⟩ := HF2.out (by simp)
          have G1 := Lib.hid g1.symm; have G2 := Lib.hid g2; have G3 := Lib.hid g3
          have hk7 : k7 ≤ 100 := by rw [hl7.out]; omega
          clear g1 g2 g3 g4
          go_wp2_with fail
          refine (row_write_is b 0 A A7 n c k7 c7 ts Y w7 (hx.below hb7) hs7 (by omega) (by omega) G3.out G2.out).mono ?_
          rintro e w8 ⟨v8, k8, rfl, hown8, hn8⟩
          have hmx8 := own_max hown8
          obtain ⟨A8, c8, rfl, hs8⟩ := own_form hown8
          have hcap8 := own_cap hown8
          have hb8 := hb7.trans (hn8.mono hb7.size)
          clear hown8
          go_wp2_with fail
          refine (row_fits_is true A A7 n c k7 c7 ts Y w8 (hx.below hb8) (hs7.below hn8) (by omega) (by omega) G1.out).mono ?_
          rintro e w9 ⟨rfl, hn9⟩
          have hb9 := hb8.trans (hn9.mono hb8.size)
          go_wp2_with fail
          refine (same4_is true A8 C k8 p c8 g b b w9 (hs8.below hn9) (hz.below hb9) hmx8 hp (decide_eq_true rfl).symm).mono ?_
          rintro e w10 ⟨rfl, hn10⟩
          have hb10 := hb9.trans (hn10.mono hb9.size)
          go_wp2_with fail
          go_ret
          exact ⟨rfl, hb10⟩
        · have hze2 : (e2 != 0) = true := by simpa using hz2
          have hne2 : e2 ≠ 0 := hz2
          clear hz2
          go_enter Try.func5, Try.ntmps5
          go_wp2_with fail
          refine (awake4_any w).mono ?_
          rintro e w1 ⟨rfl, hn1⟩
          have hb1 := hb0.trans (hn1.mono hb0.size)
          go_wp2_with fail
          refine (few_is true A B n c m d w1 hn hm Hfew.out).mono ?_
          rintro e w2 ⟨rfl, hn2⟩
          have hb2 := hb1.trans (hn2.mono hb1.size)
          go_wp2_with fail
          refine (row_write_is X 0 A B n c m d ts l w2 (hx.below hb2) (hy.below hb2) (by omega) (by omega) Hyb.out HX.out).mono ?_
          rintro e w3 ⟨v3, k3, rfl, hown3, hn3⟩
          have hmx3 := own_max hown3
          have hl3 : Hid (k3 = X.length) := Lib.hid (by have := own_len hown3; simpa using this)
          obtain ⟨A3, c3, rfl, hs3⟩ := own_form hown3
          have hcap3 := own_cap hown3
          have hb3 := hb2.trans (hn3.mono hb2.size)
          clear hown3
          have hk3 : k3 ≤ 100 := by rw [hl3.out]; exact G3.out
          have hks : (k3 : Int) ≤ s := by rw [hl3.out]; exact Hle.out
          go_wp2_with fail
          refine (row_read_is l 0 A A3 n c k3 c3 ts X w3 (hx.below hb3) hs3 (by omega) (by omega) hcap3 G4.out G1.out).mono ?_
          rintro e w4 ⟨v4, k4, rfl, hown4, hn4⟩
          have hmx4 := own_max hown4
          obtain ⟨A4, c4, rfl, hs4⟩ := own_form hown4
          have hcap4 := own_cap hown4
          have hb4 := hb3.trans (hn4.mono hb3.size)
          clear hown4
          go_wp2_with fail
          refine (ints_is true A4 B k4 m c4 d l l w4 hs4 (hy.below hb4) hmx4 hm (decide_eq_true rfl).symm).mono ?_
          rintro e w5 ⟨rfl, hn5⟩
          have hb5 := hb4.trans (hn5.mono hb4.size)
          go_wp2_with fail
          refine (row_size_is s A n c ts w5 (hx.below hb5) (by omega) Hs.out).mono ?_
          rintro e w6 ⟨rfl, hn6⟩
          have hb6 := hb5.trans (hn6.mono hb5.size)
          go_wp2_with fail
          refine (row_read_is Y e2 A C n c p g ts b w6 (hx.below hb6) (hz.below hb6) (by omega) (by omega) hpg Hzb.out HY.out).mono ?_
          rintro e w7 ⟨v7, k7, rfl, hown7, hn7⟩
          have hmx7 := own_max hown7
          have hl7 : Hid (k7 = Y.length) := Lib.hid (by have := own_len hown7; simpa using this)
          obtain ⟨A7, c7, rfl, hs7⟩ := own_form hown7
          have hcap7 := own_cap hown7
          have hb7 := hb6.trans (hn7.mono hb6.size)
          clear hown7
          obtain rfl : k7 = 0 := by rw [hl7.out, HF3.out hne2]; rfl
          clear hne2
          go_wp2_with fail
          go_ret
          exact ⟨rfl, hb7⟩
      · have hze1 : (e1 == 0) = false := by simpa using hz1
        clear hf1 hz1
        by_cases hz2 : e2 = 0
        · subst hz2
          go_enter Try.func5, Try.ntmps5
          go_wp2_with fail
          refine (awake4_any w).mono ?_
          rintro e w1 ⟨rfl, hn1⟩
          have hb1 := hb0.trans (hn1.mono hb0.size)
          go_wp2_with fail
          refine (few_is true A B n c m d w1 hn hm Hfew.out).mono ?_
          rintro e w2 ⟨rfl, hn2⟩
          have hb2 := hb1.trans (hn2.mono hb1.size)
          go_wp2_with fail
          refine (row_write_is X e1 A B n c m d ts l w2 (hx.below hb2) (hy.below hb2) (by omega) (by omega) Hyb.out HX.out).mono ?_
          rintro e w3 ⟨v3, k3, rfl, hown3, hn3⟩
          have hmx3 := own_max hown3
          obtain ⟨A3, c3, rfl, hs3⟩ := own_form hown3
          have hcap3 := own_cap hown3
          have hb3 := hb2.trans (hn3.mono hb2.size)
          clear hown3
          go_wp2_with fail
          refine (row_read_is Y 0 A C n c p g ts b w3 (hx.below hb3) (hz.below hb3) (by omega) (by omega) hpg Hzb.out HY.out).mono ?_
          rintro e w4 ⟨v4, k4, rfl, hown4, hn4⟩
          have hmx4 := own_max hown4
          have hl4 : Hid (k4 = Y.length) := Lib.hid (by have := own_len hown4; simpa using this)
          obtain ⟨A4, c4, rfl, hs4⟩ := own_form hown4
          have hcap4 := own_cap hown4
          have hb4 := hb3.trans (hn4.mono hb3.size)
          clear hown4
          obtain ⟨g1, g2, g3, g4⟩ := HF2.out (by simp)
          have G1 := Lib.hid g1.symm; have G2 := Lib.hid g2; have G3 := Lib.hid g3
          have hk4 : k4 ≤ 100 := by rw [hl4.out]; omega
          clear g1 g2 g3 g4
          go_wp2_with fail
          refine (row_write_is b 0 A A4 n c k4 c4 ts Y w4 (hx.below hb4) hs4 (by omega) (by omega) G3.out G2.out).mono ?_
          rintro e w5 ⟨v5, k5, rfl, hown5, hn5⟩
          have hmx5 := own_max hown5
          obtain ⟨A5, c5, rfl, hs5⟩ := own_form hown5
          have hcap5 := own_cap hown5
          have hb5 := hb4.trans (hn5.mono hb4.size)
          clear hown5
          go_wp2_with fail
          refine (row_fits_is true A A4 n c k4 c4 ts Y w5 (hx.below hb5) (hs4.below hn5) (by omega) (by omega) G1.out).mono ?_
          rintro e w6 ⟨rfl, hn6⟩
          have hb6 := hb5.trans (hn6.mono hb5.size)
          go_wp2_with fail
          refine (same4_is true A5 C k5 p c5 g b b w6 (hs5.below hn6) (hz.below hb6) hmx5 hp (decide_eq_true rfl).symm).mono ?_
          rintro e w7 ⟨rfl, hn7⟩
          have hb7 := hb6.trans (hn7.mono hb6.size)
          go_wp2_with fail
          go_ret
          exact ⟨rfl, hb7⟩
        · have hze2 : (e2 != 0) = true := by simpa using hz2
          have hne2 : e2 ≠ 0 := hz2
          clear hz2
          go_enter Try.func5, Try.ntmps5
          go_wp2_with fail
          refine (awake4_any w).mono ?_
          rintro e w1 ⟨rfl, hn1⟩
          have hb1 := hb0.trans (hn1.mono hb0.size)
          go_wp2_with fail
          refine (few_is true A B n c m d w1 hn hm Hfew.out).mono ?_
          rintro e w2 ⟨rfl, hn2⟩
          have hb2 := hb1.trans (hn2.mono hb1.size)
          go_wp2_with fail
          refine (row_write_is X e1 A B n c m d ts l w2 (hx.below hb2) (hy.below hb2) (by omega) (by omega) Hyb.out HX.out).mono ?_
          rintro e w3 ⟨v3, k3, rfl, hown3, hn3⟩
          have hmx3 := own_max hown3
          obtain ⟨A3, c3, rfl, hs3⟩ := own_form hown3
          have hcap3 := own_cap hown3
          have hb3 := hb2.trans (hn3.mono hb2.size)
          clear hown3
          go_wp2_with fail
          refine (row_read_is Y e2 A C n c p g ts b w3 (hx.below hb3) (hz.below hb3) (by omega) (by omega) hpg Hzb.out HY.out).mono ?_
          rintro e w4 ⟨v4, k4, rfl, hown4, hn4⟩
          have hmx4 := own_max hown4
          have hl4 : Hid (k4 = Y.length) := Lib.hid (by have := own_len hown4; simpa using this)
          obtain ⟨A4, c4, rfl, hs4⟩ := own_form hown4
          have hcap4 := own_cap hown4
          have hb4 := hb3.trans (hn4.mono hb3.size)
          clear hown4
          obtain rfl : k4 = 0 := by rw [hl4.out, HF3.out hne2]; rfl
          clear hne2
          go_wp2_with fail
          go_ret
          exact ⟨rfl, hb4⟩
  · have Hfew := Lib.hid (show false = (decide (n ≤ 20) && decide (m ≤ 20)) by
      by_cases h : n ≤ 20
      · rw [decide_eq_true h, decide_eq_false (fun h2 => hfew ⟨h, h2⟩)]; rfl
      · rw [decide_eq_false h]; rfl)
    clear hfew
    go_enter Try.func5, Try.ntmps5
    go_wp2_with fail
    refine (awake4_any w).mono ?_
    rintro e w1 ⟨rfl, hn1⟩
    have hb1 := hb0.trans (hn1.mono hb0.size)
    go_wp2_with fail
    refine (few_is false A B n c m d w1 hn hm Hfew.out).mono ?_
    rintro e w2 ⟨rfl, hn2⟩
    have hb2 := hb1.trans (hn2.mono hb1.size)
    go_wp2_with fail
    go_ret
    exact ⟨rfl, hb2⟩
end Go.Proofs.Ytcfpjbbahpjhdaa
