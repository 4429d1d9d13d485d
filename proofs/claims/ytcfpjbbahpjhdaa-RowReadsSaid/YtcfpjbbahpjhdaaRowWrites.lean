import Derived.Test.YtcfpjbbahpjhdaaRowAwake
namespace Go.Proofs.Ytcfpjbbahpjhdaa
open Go.RowKit

theorem sh_count (ts l : List Int) (h : ∀ t ∈ ts, t = 1 ∨ t = 2) (hl : l.length = ts.length) (h9 : ts.length < 9) : (rowBytes ts l).length ≤ 100 := by
  have h1 := size_le ts l h hl
  have h2 : ∀ ts : List Int, sizeSum ts ≤ 10 * (ts.length : Int) := by
    intro ts
    induction ts with
    | nil => simp [sizeSum]
    | cons t ts ih => unfold sizeSum; split <;> simp <;> omega
  have := h2 ts
  omega

set_option maxRecDepth 100000 in
set_option maxHeartbeats 3200000 in
theorem rowWrites_walk (w : World) (A : Option Addr) (n c : Nat) (ts : List Int) (hx : Sl w A n (i64s ts)) (hxb : I64 ts) (hn : n ≤ 9223372036854775807) (B : Option Addr) (m d : Nat) (l : List Int) (hy : Sl w B m (i64s l)) (hyb : I64 l) (hm : m ≤ 9223372036854775807) :
    Calls Try.prog 3 #[.slice A n c, .slice B m d] w fun e w' => e = .returned (.bool true) ∧ Below w.heap.size w w' := by
  have hlx : ts.length = n := by simpa using hx.1
  have hly : l.length = m := by simpa using hy.1
  have Hlx := Lib.hid hlx; have Hly := Lib.hid hly; have Hyb := Lib.hid hyb
  clear hlx hly hyb hxb
  have hb0 := Below.refl w.heap.size w
  by_cases hfew : n ≤ 20 ∧ m ≤ 20
  · have Hfew := Lib.hid (show true = (decide (n ≤ 20) && decide (m ≤ 20)) by rw [decide_eq_true hfew.1, decide_eq_true hfew.2]; rfl)
    obtain ⟨hn20, hm20⟩ := hfew
    obtain ⟨q, hq⟩ : ∃ q, q = rightOf ts := ⟨_, rfl⟩
    obtain ⟨f, hf⟩ : ∃ f, f = fitsOf ts l := ⟨_, rfl⟩
    obtain ⟨s, hs⟩ : ∃ s, s = sizeRow ts := ⟨_, rfl⟩
    have Hq := Lib.hid hq; have Hf := Lib.hid hf; have Hs := Lib.hid hs
    clear hq hf hs
    cases q
    · have Hw := Lib.hid (write_arg (l := l) Hq.out.symm)
      go_enter Try.func3, Try.ntmps3
      go_wp2_with fail
      refine (awake4_any w).mono ?_
      rintro e w1 ⟨rfl, hn1⟩
      have hb1 := hb0.trans (hn1.mono hb0.size)
      go_wp2_with fail
      refine (few_is true A B n c m d w1 hn hm Hfew.out).mono ?_
      rintro e w2 ⟨rfl, hn2⟩
      have hb2 := hb1.trans (hn2.mono hb1.size)
      go_wp2_with fail
      refine (row_right_is false A n c ts w2 (hx.below hb2) (by omega) Hq.out).mono ?_
      rintro e w3 ⟨rfl, hn3⟩
      have hb3 := hb2.trans (hn3.mono hb2.size)
      go_wp2_with fail
      refine (rrright_is false A n c ts w3 (hx.below hb3) (by omega) Hq.out).mono ?_
      rintro e w4 ⟨rfl, hn4⟩
      have hb4 := hb3.trans (hn4.mono hb3.size)
      go_wp2_with fail
      refine (row_fits_is f A B n c m d ts l w4 (hx.below hb4) (hy.below hb4) (by omega) (by omega) Hf.out).mono ?_
      rintro e w5 ⟨rfl, hn5⟩
      have hb5 := hb4.trans (hn5.mono hb4.size)
      go_wp2_with fail
      refine (rfits_is f A B n c m d ts l w5 (hx.below hb5) (hy.below hb5) (by omega) (by omega) Hf.out).mono ?_
      rintro e w6 ⟨rfl, hn6⟩
      have hb6 := hb5.trans (hn6.mono hb5.size)
      go_wp2_with fail
      refine (row_size_is s A n c ts w6 (hx.below hb6) (by omega) Hs.out).mono ?_
      rintro e w7 ⟨rfl, hn7⟩
      have hb7 := hb6.trans (hn7.mono hb6.size)
      go_wp2_with fail
      refine (rsize_is s A n c ts w7 (hx.below hb7) (by omega) Hs.out).mono ?_
      rintro e w8 ⟨rfl, hn8⟩
      have hb8 := hb7.trans (hn8.mono hb7.size)
      go_wp2_with fail
      refine (row_write_is [] 2 A B n c m d ts l w8 (hx.below hb8) (hy.below hb8) (by omega) (by omega) Hyb.out Hw.out).mono ?_
      rintro e w9 ⟨v9, k9, rfl, hown9, hn9⟩
      obtain ⟨A9, c9, rfl, hs9⟩ := own_form hown9
      have hk9 := own_len hown9
      have hb9 := hb8.trans (hn9.mono hb8.size)
      obtain rfl : k9 = 0 := by simpa using hk9
      clear hk9 hown9
      go_wp2_with fail
      refine (rrright_is false A n c ts w9 (hx.below hb9) (by omega) Hq.out).mono ?_
      rintro e w10 ⟨rfl, hn10⟩
      have hb10 := hb9.trans (hn10.mono hb9.size)
      go_wp2_with fail
      go_ret
      exact ⟨rfl, hb10⟩
    · cases f
      · have Hw := Lib.hid (write_row Hq.out.symm Hf.out.symm)
        go_enter Try.func3, Try.ntmps3
        go_wp2_with fail
        refine (awake4_any w).mono ?_
        rintro e w1 ⟨rfl, hn1⟩
        have hb1 := hb0.trans (hn1.mono hb0.size)
        go_wp2_with fail
        refine (few_is true A B n c m d w1 hn hm Hfew.out).mono ?_
        rintro e w2 ⟨rfl, hn2⟩
        have hb2 := hb1.trans (hn2.mono hb1.size)
        go_wp2_with fail
        refine (row_right_is true A n c ts w2 (hx.below hb2) (by omega) Hq.out).mono ?_
        rintro e w3 ⟨rfl, hn3⟩
        have hb3 := hb2.trans (hn3.mono hb2.size)
        go_wp2_with fail
        refine (rrright_is true A n c ts w3 (hx.below hb3) (by omega) Hq.out).mono ?_
        rintro e w4 ⟨rfl, hn4⟩
        have hb4 := hb3.trans (hn4.mono hb3.size)
        go_wp2_with fail
        refine (row_fits_is false A B n c m d ts l w4 (hx.below hb4) (hy.below hb4) (by omega) (by omega) Hf.out).mono ?_
        rintro e w5 ⟨rfl, hn5⟩
        have hb5 := hb4.trans (hn5.mono hb4.size)
        go_wp2_with fail
        refine (rfits_is false A B n c m d ts l w5 (hx.below hb5) (hy.below hb5) (by omega) (by omega) Hf.out).mono ?_
        rintro e w6 ⟨rfl, hn6⟩
        have hb6 := hb5.trans (hn6.mono hb5.size)
        go_wp2_with fail
        refine (row_size_is s A n c ts w6 (hx.below hb6) (by omega) Hs.out).mono ?_
        rintro e w7 ⟨rfl, hn7⟩
        have hb7 := hb6.trans (hn7.mono hb6.size)
        go_wp2_with fail
        refine (rsize_is s A n c ts w7 (hx.below hb7) (by omega) Hs.out).mono ?_
        rintro e w8 ⟨rfl, hn8⟩
        have hb8 := hb7.trans (hn8.mono hb7.size)
        go_wp2_with fail
        refine (row_write_is [] 41 A B n c m d ts l w8 (hx.below hb8) (hy.below hb8) (by omega) (by omega) Hyb.out Hw.out).mono ?_
        rintro e w9 ⟨v9, k9, rfl, hown9, hn9⟩
        obtain ⟨A9, c9, rfl, hs9⟩ := own_form hown9
        have hk9 := own_len hown9
        have hb9 := hb8.trans (hn9.mono hb8.size)
        obtain rfl : k9 = 0 := by simpa using hk9
        clear hk9 hown9
        go_wp2_with fail
        refine (rrright_is true A n c ts w9 (hx.below hb9) (by omega) Hq.out).mono ?_
        rintro e w10 ⟨rfl, hn10⟩
        have hb10 := hb9.trans (hn10.mono hb9.size)
        go_wp2_with fail
        refine (rfits_is false A B n c m d ts l w10 (hx.below hb10) (hy.below hb10) (by omega) (by omega) Hf.out).mono ?_
        rintro e w11 ⟨rfl, hn11⟩
        have hb11 := hb10.trans (hn11.mono hb10.size)
        go_wp2_with fail
        go_ret
        exact ⟨rfl, hb11⟩
      · have Hw := Lib.hid (write_ok Hq.out.symm Hf.out.symm)
        have hri := right_is Hq.out.symm
        have hfp := fits_parts Hf.out.symm
        have hcnt := sh_count ts l hri.1 hfp.2.1 hri.2.2
        have hmn : m = n := by rw [← Hlx.out, ← Hly.out]; exact hfp.2.1
        subst hmn
        clear hri hfp
        go_enter Try.func3, Try.ntmps3
        go_wp2_with fail
        refine (awake4_any w).mono ?_
        rintro e w1 ⟨rfl, hn1⟩
        have hb1 := hb0.trans (hn1.mono hb0.size)
        go_wp2_with fail
        refine (few_is true A B m c m d w1 hn hm Hfew.out).mono ?_
        rintro e w2 ⟨rfl, hn2⟩
        have hb2 := hb1.trans (hn2.mono hb1.size)
        go_wp2_with fail
        refine (row_right_is true A m c ts w2 (hx.below hb2) (by omega) Hq.out).mono ?_
        rintro e w3 ⟨rfl, hn3⟩
        have hb3 := hb2.trans (hn3.mono hb2.size)
        go_wp2_with fail
        refine (rrright_is true A m c ts w3 (hx.below hb3) (by omega) Hq.out).mono ?_
        rintro e w4 ⟨rfl, hn4⟩
        have hb4 := hb3.trans (hn4.mono hb3.size)
        go_wp2_with fail
        refine (row_fits_is true A B m c m d ts l w4 (hx.below hb4) (hy.below hb4) (by omega) (by omega) Hf.out).mono ?_
        rintro e w5 ⟨rfl, hn5⟩
        have hb5 := hb4.trans (hn5.mono hb4.size)
        go_wp2_with fail
        refine (rfits_is true A B m c m d ts l w5 (hx.below hb5) (hy.below hb5) (by omega) (by omega) Hf.out).mono ?_
        rintro e w6 ⟨rfl, hn6⟩
        have hb6 := hb5.trans (hn6.mono hb5.size)
        go_wp2_with fail
        refine (row_size_is s A m c ts w6 (hx.below hb6) (by omega) Hs.out).mono ?_
        rintro e w7 ⟨rfl, hn7⟩
        have hb7 := hb6.trans (hn7.mono hb6.size)
        go_wp2_with fail
        refine (rsize_is s A m c ts w7 (hx.below hb7) (by omega) Hs.out).mono ?_
        rintro e w8 ⟨rfl, hn8⟩
        have hb8 := hb7.trans (hn8.mono hb7.size)
        go_wp2_with fail
        refine (row_write_is (rowBytes ts l) 0 A B m c m d ts l w8 (hx.below hb8) (hy.below hb8) (by omega) (by omega) Hyb.out Hw.out).mono ?_
        rintro e w9 ⟨v9, k9, rfl, hown9, hn9⟩
        obtain ⟨A9, c9, rfl, hs9⟩ := own_form hown9
        have hk9 := own_len hown9
        have hb9 := hb8.trans (hn9.mono hb8.size)
        have hk100 : k9 ≤ 100 := by simp at hk9; omega
        clear hk9 hown9
        go_wp2_with fail
        refine (rrright_is true A m c ts w9 (hx.below hb9) (by omega) Hq.out).mono ?_
        rintro e w10 ⟨rfl, hn10⟩
        have hb10 := hb9.trans (hn10.mono hb9.size)
        go_wp2_with fail
        refine (rfits_is true A B m c m d ts l w10 (hx.below hb10) (hy.below hb10) (by omega) (by omega) Hf.out).mono ?_
        rintro e w11 ⟨rfl, hn11⟩
        have hb11 := hb10.trans (hn11.mono hb10.size)
        go_wp2_with fail
        refine (rrbytes_any A B m c d ts l w11 (hx.below hb11) (hy.below hb11) (by omega) Hyb.out).mono ?_
        rintro e w12 ⟨v12, k12, rfl, hown12, hn12⟩
        obtain ⟨A12, c12, rfl, hs12⟩ := own_form hown12
        have hk12 : k12 ≤ 100 := by have := own_len hown12; simp at this; omega
        have hb12 := hb11.trans (hn12.mono hb11.size)
        have hs9' : Sl w12 A9 k9 (u8s (rowBytes ts l)) := ((hs9.below hn10).below hn11).below hn12
        clear hown12
        go_wp2_with fail
        refine (same4_is true A9 A12 k9 k12 c9 c12 _ _ w12 hs9' hs12 (by omega) (by omega) (decide_eq_true rfl).symm).mono ?_
        rintro e w13 ⟨rfl, hn13⟩
        have hb13 := hb12.trans (hn13.mono hb12.size)
        go_wp2_with fail
        go_ret
        exact ⟨rfl, hb13⟩
  · have Hfew := Lib.hid (show false = (decide (n ≤ 20) && decide (m ≤ 20)) by
      by_cases h : n ≤ 20
      · rw [decide_eq_true h, decide_eq_false (fun h2 => hfew ⟨h, h2⟩)]; rfl
      · rw [decide_eq_false h]; rfl)
    clear hfew
    go_enter Try.func3, Try.ntmps3
    go_wp2_with fail
    refine (awake4_any w).mono ?_
    rintro e w1 ⟨rfl, hn1⟩
    have hb1 := hb0.trans (hn1.mono hb0.size)
    go_wp2_with fail
    refine (few_is false A B n c m d w1 hn hm Hfew.out).mono ?_
    rintro e w2 ⟨rfl, hn2⟩
    have hb2 := hb1.trans (hn2.mono hb1.size)
    go_wp2_with fail
    go_ret
    exact ⟨rfl, hb2⟩
end Go.Proofs.Ytcfpjbbahpjhdaa
