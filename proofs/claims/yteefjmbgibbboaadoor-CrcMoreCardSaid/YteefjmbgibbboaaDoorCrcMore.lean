import Derived.Test.YteefjmbgibbboaaDoorCAwake
namespace Go.Proofs.YteefjmbgibbboaaDoor
open Go.RowKit




set_option maxHeartbeats 800000 in
theorem crcMore_walk (w : World) (ht : Tabs w) (A : Option Addr) (n c : Nat) (xs : List Int) (hx : Sl w A n (u8s xs)) (hxb : Bytes xs) (hn : n ≤ 9223372036854775807)
    (B : Option Addr) (m d : Nat) (ys : List Int) (hy : Sl w B m (u8s ys)) (hyb : Bytes ys) (hm : m ≤ 9223372036854775807) :
    Calls Tryd.prog 4 #[.slice A n c, .slice B m d] w fun e w' => e = .returned (.bool true) ∧ Below w.heap.size w w' := by
  obtain ⟨i0, hi0, hz0, hz1, hz2'⟩ := info_parts info_u8
  have Hxb := Lib.hid hxb; have Hyb := Lib.hid hyb
  clear hxb hyb
  go_enter Tryd.func4, Tryd.ntmps4
  go_wp2_with fail
  refine (awake_any w ht).mono ?_
  rintro e w1 ⟨rfl, hb1⟩
  have Ht1 := Lib.hid (ht.below hb1)
  have hx1 := hx.below hb1
  have hy1 := hy.below hb1
  have hsz1 := hb1.size
  clear ht hx hy
  by_cases h1 : 1000 < n
  · go_wp2_with fail
    go_ret
    exact ⟨rfl, hb1⟩
  · by_cases h2 : 1000 < m
    · go_wp2_with fail
      go_ret
      exact ⟨rfl, hb1⟩
    · have ho0 : (w1.alloc (.cells #[] 5)).ownsRow w1.heap.size 5 1 (.slice (some ⟨w1.heap.size, 0, none⟩) 0 0) 0 [] := own_new w1 5 [] 0 rfl (by omega)
      have hx2 := hx1.below (below_alloc w1 (.cells #[] 5))
      have hy2 := hy1.below (below_alloc w1 (.cells #[] 5))
      have hz2 : w1.heap.size ≤ (w1.alloc (.cells #[] 5)).heap.size := by simp
      go_wp2_with (first
        | (at_builtin; refine wpList_cat (.tmp 16) (.tmp 17) 22 5 i0 _ 1 rfl rfl Tryd.underlying22 hi0 hz0 hz1 hz2' rfl w1.heap.size _ _ _ ho0 _ _ _ _ hx2 rfl rfl ints_one (by omega) (by omega) hz2 ?_; intro v3 w3 hown3 hg3 hb3 hz3)
        | (at_builtin; refine wpList_cat (.tmp 18) (.tmp 19) 22 5 i0 _ 1 rfl rfl Tryd.underlying22 hi0 hz0 hz1 hz2' rfl w1.heap.size _ _ _ hown3 _ _ _ _ (hy1.below ((below_alloc w1 (.cells #[] 5)).trans hb3)) rfl rfl ints_one (by omega) (by omega) (Nat.le_trans hz2 hz3) ?_; intro v4 w4 hown4 hg4 hb4 hz4; obtain ⟨A4, c4, rfl, hs4⟩ := own_form hown4))
      have hb4' : Below w1.heap.size w1 w4 := (below_alloc w1 (.cells #[] 5)).trans (hb3.trans hb4)
      have hx4 := hx1.below hb4'
      have hy4 := hy1.below hb4'
      have Ht4 := Lib.hid (Ht1.out.below hb4')
      have hbw := hb1.trans (hb4'.mono hsz1)
      have hsz4 := hbw.size
      have hs4s : Sl w4 A4 (n + m) (u8s (xs ++ ys)) := by simpa using hs4
      have hxy := Lib.hid (bytes_append Hxb.out Hyb.out)
      obtain ⟨ra, hra, hra2⟩ : ∃ r, r = sumOf xs ∧ r < 4294967296 := ⟨_, rfl, sum_lt Hxb.out⟩
      obtain ⟨rc, hrc, hrc2⟩ : ∃ r, r = sumOf (xs ++ ys) ∧ r < 4294967296 := ⟨_, rfl, sum_lt hxy.out⟩
      have hrm : rc = moreOf ra ys := by rw [hrc, hra]; exact (more_more 0 xs ys).symm
      have Hra := Lib.hid hra; have Hrc := Lib.hid hrc; have Hrm := Lib.hid hrm
      clear hra hrc hrm hown3 hown4 hg3 hg4 hb3 hb4 hx1 hy1 hx2 hy2 hs4 ho0 hz2 hz3 hz4
      refine (sum_one_is ra A n c xs w4 _ Ht4.out hx4 Hxb.out (by omega) Hra.out).mono ?_
      rintro e w5 ⟨rfl, hb5⟩
      go_wp2_with fail
      refine (more_is rc ra hra2 B m d ys w5 (Ht4.out.below hb5) (hy4.below hb5) Hyb.out (by omega) Hrm.out).mono ?_
      rintro e w6 ⟨rfl, hn6⟩
      have hb6 := hb5.trans (hn6.mono hb5.size)
      clear hn6
      go_wp2_with fail
      refine (sum_one_is rc A4 (n + m) c4 (xs ++ ys) w6 _ (Ht4.out.below hb6) (hs4s.below hb6) hxy.out (by omega) Hrc.out).mono ?_
      rintro e w7 ⟨rfl, hn7⟩
      have hb7 := hb6.trans (hn7.mono hb6.size)
      clear hn7
      go_wp2_with fail
      refine (sum_two_is rc A B n c m d xs ys w7 _ (Ht4.out.below hb7) (hx4.below hb7) Hxb.out (by omega) (hy4.below hb7) Hyb.out (by omega) Hrc.out).mono ?_
      rintro e w8 ⟨rfl, hn8⟩
      have hb8 := hb7.trans (hn8.mono hb7.size)
      clear hn8
      go_wp2_with fail
      refine (sum_one_is rc A4 (n + m) c4 (xs ++ ys) w8 _ (Ht4.out.below hb8) (hs4s.below hb8) hxy.out (by omega) Hrc.out).mono ?_
      rintro e w9 ⟨rfl, hn9⟩
      have hb9 := hb8.trans (hn9.mono hb8.size)
      clear hn9
      go_wp2_with fail
      refine (more_is ra 0 (by omega) A n c xs w9 (Ht4.out.below hb9) (hx4.below hb9) Hxb.out (by omega) Hra.out).mono ?_
      rintro e w10 ⟨rfl, hn10⟩
      have hb10 := hb9.trans (hn10.mono hb9.size)
      clear hn10
      go_wp2_with fail
      refine (sum_one_is ra A n c xs w10 _ (Ht4.out.below hb10) (hx4.below hb10) Hxb.out (by omega) Hra.out).mono ?_
      rintro e w11 ⟨rfl, hn11⟩
      have hb11 := hb10.trans (hn11.mono hb10.size)
      clear hn11
      go_wp2_with fail
      go_ret
      exact ⟨rfl, hbw.trans (hb11.mono hsz4)⟩
end Go.Proofs.YteefjmbgibbboaaDoor
