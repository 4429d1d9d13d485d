import Derived.Test.YteefjmbgibbboaaDoorCrcBytes
namespace Go.Proofs.YteefjmbgibbboaaDoor
open Go.RowKit

set_option maxRecDepth 100000 in
set_option maxHeartbeats 1600000 in
theorem crcSums_walk (w : World) (ht : Tabs w) (A : Option Addr) (n c : Nat) (xs : List Int) (hx : Sl w A n (u8s xs)) (hxb : Bytes xs) (hn : n ≤ 9223372036854775807)
    (B : Option Addr) (m d : Nat) (ys : List Int) (hy : Sl w B m (u8s ys)) (hyb : Bytes ys) (hm : m ≤ 9223372036854775807) (s : Int) (hs : 0 ≤ s ∧ s ≤ 4294967295) :
    Calls Tryd.prog 3 #[.slice A n c, .slice B m d, .int .u32 s] w fun e w' => e = .returned (.bool true) ∧ Below w.heap.size w w' := by
  obtain ⟨i0, hi0, hz0, hz1, hz2'⟩ := info_parts info_u8
  have Hxb := Lib.hid hxb; have Hyb := Lib.hid hyb
  obtain ⟨s, rfl⟩ := Int.eq_ofNat_of_zero_le hs.1
  have hs4 : s < 4294967296 := by omega
  clear hxb hyb hs
  go_enter Tryd.func3, Tryd.ntmps3
  go_wp2_with fail
  refine (awake_any w ht).mono ?_
  rintro e w1 ⟨rfl, hb1⟩
  have Ht1 := Lib.hid (ht.below hb1)
  have hx1 := hx.below hb1
  have hy1 := hy.below hb1
  have hsz1 := hb1.size
  clear ht hx hy
  by_cases h1 : 300 < n
  · go_wp2_with fail
    go_ret
    exact ⟨rfl, hb1⟩
  · by_cases h2 : 300 < m
    · go_wp2_with fail
      go_ret
      exact ⟨rfl, hb1⟩
    · have ho0 : (w1.alloc (.cells #[] 5)).ownsRow w1.heap.size 5 1 (.slice (some ⟨w1.heap.size, 0, none⟩) 0 0) 0 [] := own_new w1 5 [] 0 rfl (by omega)
      have hx2 := hx1.below (below_alloc w1 (.cells #[] 5))
      have hz2 : w1.heap.size ≤ (w1.alloc (.cells #[] 5)).heap.size := by simp
      go_wp2_with (first
        | (at_builtin; refine wpList_cat (.tmp 20) (.tmp 21) 22 5 i0 _ 1 rfl rfl Tryd.underlying22 hi0 hz0 hz1 hz2' rfl w1.heap.size _ _ _ ho0 _ _ _ _ hx2 rfl rfl ints_one (by omega) (by omega) hz2 ?_; intro v3 w3 hown3 hg3 hb3 hz3)
        | (at_builtin; refine wpList_cat (.tmp 22) (.tmp 23) 22 5 i0 _ 1 rfl rfl Tryd.underlying22 hi0 hz0 hz1 hz2' rfl w1.heap.size _ _ _ hown3 _ _ _ _ (hy1.below ((below_alloc w1 (.cells #[] 5)).trans hb3)) rfl rfl ints_one (by omega) (by omega) (Nat.le_trans hz2 hz3) ?_; intro v4 w4 hown4 hg4 hb4 hz4; obtain ⟨A4, c4, rfl, hs4'⟩ := own_form hown4))
      have hb4' : Below w1.heap.size w1 w4 := (below_alloc w1 (.cells #[] 5)).trans (hb3.trans hb4)
      have hx4 := hx1.below hb4'
      have hy4 := hy1.below hb4'
      have Ht4 := Lib.hid (Ht1.out.below hb4')
      have hbw := hb1.trans (hb4'.mono hsz1)
      have hsz4 := hbw.size
      have hs4s : Sl w4 A4 (n + m) (u8s (xs ++ ys)) := by simpa using hs4'
      have hxy := Lib.hid (bytes_append Hxb.out Hyb.out)
      obtain ⟨rc, hrc, hrc2⟩ : ∃ r, r = sumOf (xs ++ ys) ∧ r < 4294967296 := ⟨_, rfl, sum_lt hxy.out⟩
      have Hrc := Lib.hid hrc
      clear hrc hown3 hown4 hg3 hg4 hb3 hb4 hx1 hy1 hx2 hs4' ho0 hz2 hz3 hz4
      refine (bytes_any s hs4 w4).mono ?_
      rintro e w5 ⟨⟨b0, b1, b2, b3, rfl, l0, l1, l2, l3, hsum⟩, hb5⟩
      have hba := hb5.trans ((below_alloc w5 (.cells #[.int .u8 b0, .int .u8 b1, .int .u8 b2, .int .u8 b3] 25)).mono hb5.size)
      have hc0 : ∀ (j y : Nat), [b0, b1, b2, b3][j]? = some y → (w5.alloc (.cells #[.int .u8 b0, .int .u8 b1, .int .u8 b2, .int .u8 b3] 25)).cell? ⟨w5.heap.size, j, none⟩ = some (.int .u8 (y : Int)) := by
        intro j y hj
        rw [cell_of_row _ w5.heap.size j #[.int .u8 b0, .int .u8 b1, .int .u8 b2, .int .u8 b3] 25 (0, 0) (heap_alloc_new w5 _)]
        match j, hj with
        | 0, hj => simp at hj; subst hj; rfl
        | 1, hj => simp at hj; subst hj; rfl
        | 2, hj => simp at hj; subst hj; rfl
        | 3, hj => simp at hj; subst hj; rfl
      have c0 := hc0 0 b0 rfl
      have c1 := hc0 1 b1 rfl
      have c2 := hc0 2 b2 rfl
      have c3 := hc0 3 b3 rfl
      clear hc0
      have hsumI : (b0 : Int) + 256 * (b1 : Int) + 65536 * (b2 : Int) + 16777216 * (b3 : Int) = (s : Int) := by omega
      clear hsum
      go_wp2_with fail
      clear c0 c1 c2 c3 hb5 hsumI
      generalize hw6 : w5.alloc (.cells #[.int .u8 b0, .int .u8 b1, .int .u8 b2, .int .u8 b3] 25) = w6 at *
      have hz6 : w6.heap.size = w5.heap.size + 1 := by rw [← hw6]; simp
      rw [← hz6]
      clear hw6 hz6
      have hb6 := hba
      clear hba
      refine (sum_two_is rc A B n c m d xs ys w6 _ (Ht4.out.below hb6) (hx4.below hb6) Hxb.out (by omega) (hy4.below hb6) Hyb.out (by omega) Hrc.out).mono ?_
      rintro e w7 ⟨rfl, hn7⟩
      have hb7 := hb6.trans (hn7.mono hb6.size)
      clear hn7
      go_wp2_with fail
      refine (rsum_is rc A4 (n + m) c4 (xs ++ ys) w7 (hs4s.below hb7) hxy.out (by omega) Hrc.out).mono ?_
      rintro e w8 ⟨rfl, hn8⟩
      have hb8 := hb7.trans (hn8.mono hb7.size)
      clear hn8
      go_wp2_with fail
      refine (sum_one_is rc A4 (n + m) c4 (xs ++ ys) w8 _ (Ht4.out.below hb8) (hs4s.below hb8) hxy.out (by omega) Hrc.out).mono ?_
      rintro e w9 ⟨rfl, hn9⟩
      have hb9 := hb8.trans (hn9.mono hb8.size)
      clear hn9
      go_wp2_with fail
      refine (rsum_is rc A4 (n + m) c4 (xs ++ ys) w9 (hs4s.below hb9) hxy.out (by omega) Hrc.out).mono ?_
      rintro e w10 ⟨rfl, hn10⟩
      have hb10 := hb9.trans (hn10.mono hb9.size)
      clear hn10
      go_wp2_with fail
      refine (sum_none w10 (Ht4.out.below hb10)).mono ?_
      rintro e w11 ⟨rfl, hn11⟩
      have hb11 := hb10.trans (hn11.mono hb10.size)
      clear hn11
      go_wp2_with fail
      go_ret
      exact ⟨rfl, hbw.trans (hb11.mono hsz4)⟩
end Go.Proofs.YteefjmbgibbboaaDoor
