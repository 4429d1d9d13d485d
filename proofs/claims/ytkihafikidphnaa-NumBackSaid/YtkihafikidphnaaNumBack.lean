import Derived.Test.YtkihafikidphnaaBack
namespace Go.Proofs.Ytkihafikidphnaa
open Go.RowKit

def ZagOf (b : List Int) (x : Int) (z : Nat) (e : Int) : Prop := x = back (zTurned b) ∧ z = zSize b ∧ e = zErr b
theorem zag_of (A : Option Addr) (n c : Nat) (b : List Int) (w : World) (hx : Sl w A n (u8s b)) (hb : ∀ x ∈ b, 0 ≤ x ∧ x < 256) (hn : n ≤ 9223372036854775807) :
    Calls Try.prog 17 #[.slice A n c] w fun e w' => ∃ x z f, e = .returned (.tuple #[.int .i64 x, .int .i64 (z : Nat), .int .i64 f]) ∧ w' = w ∧ ZagOf b x z f :=
  (zag_any A n c b w hx hb hn).mono fun e w' ⟨he, hw⟩ => ⟨_, _, _, he, hw, rfl, rfl, rfl⟩
def LongOf (b : List Int) (x : Int) (z : Nat) (e : Int) : Prop := x = longVal b ∧ z = endSize b 9 ∧ e = endErr b 9
theorem long_of (A : Option Addr) (n c : Nat) (b : List Int) (w : World) (hx : Sl w A n (u8s b)) (hb : ∀ x ∈ b, 0 ≤ x ∧ x < 256) (hn : n ≤ 9223372036854775807) :
    Calls Try.prog 15 #[.slice A n c] w fun e w' => ∃ x z f, e = .returned (.tuple #[.int .i64 x, .int .i64 (z : Nat), .int .i64 f]) ∧ w' = w ∧ LongOf b x z f :=
  (long_any A n c b w hx hb hn).mono fun e w' ⟨he, hw⟩ => ⟨_, _, _, he, hw, rfl, rfl, rfl⟩

set_option maxRecDepth 100000 in
set_option maxHeartbeats 6000000 in
theorem nback_walk (w : World) (n : Int) (hn : -9223372036854775808 ≤ n ∧ n ≤ 9223372036854775807) (A : Option Addr) (m c : Nat) (b : List Int) (hs : Sl w A m (u8s b)) (hb : ∀ x ∈ b, 0 ≤ x ∧ x ≤ 255) (hm : m ≤ 9223372036854775807) (hmc : m ≤ c)
    (B : Option Addr) (k d : Nat) (more : List Int) (hq : Sl w B k (u8s more)) (hmr : ∀ x ∈ more, 0 ≤ x ∧ x ≤ 255) (hk : k ≤ 9223372036854775807) :
    Calls Try.prog 6 #[.int .i64 n, .slice A m c, .slice B k d] w fun e w' => e = .returned (.bool true) ∧ Below w.heap.size w w' := by
  obtain ⟨hn1, hn2⟩ := hn
  have Hb := Lib.hid (fun x hx => (show 0 ≤ x ∧ x < 256 from by have := hb x hx; omega) : ∀ x ∈ b, 0 ≤ x ∧ x < 256)
  have Hmr := Lib.hid (fun x hx => (show 0 ≤ x ∧ x < 256 from by have := hmr x hx; omega) : ∀ x ∈ more, 0 ≤ x ∧ x < 256)
  have hlen : b.length = m := by simpa using hs.1
  have Hlen := Lib.hid hlen
  clear hb hmr hlen
  by_cases hlong : 100 < m
  · go_enter Try.func6, Try.ntmps6
    go_wp2_with (go_at_call 7; refine (awake_any _).mono ?_; rintro e w1 ⟨rfl, hb1⟩)
    go_ret
    exact ⟨rfl, hb1⟩
  · by_cases hlong2 : 100 < k
    · go_enter Try.func6, Try.ntmps6
      go_wp2_with (go_at_call 7; refine (awake_any _).mono ?_; rintro e w1 ⟨rfl, hb1⟩)
      go_ret
      exact ⟨rfl, hb1⟩
    · obtain ⟨i0, hi0, hz0, hz1, hz2⟩ := info_parts info_u8
      go_enter Try.func6, Try.ntmps6
      go_wp2_with fail
      refine (awake_any _).mono ?_
      rintro e w1 ⟨rfl, hb1⟩
      go_wp2_with fail
      refine (put_any n _).mono ?_
      rintro e w2 ⟨v2, rfl, hown2, hb2⟩
      obtain ⟨A2, c2, rfl, hs2⟩ := own_form hown2
      have hb12 := hb1.trans (hb2.mono hb1.size)
      clear hown2 hb2 hb1
      go_wp2_with fail
      refine (get_any _ _ _ _ _ hs2 (bytes_range n) (by omega)).mono ?_
      rintro e w3 ⟨hb3, rfl⟩
      have hb13 := hb12.trans (hb3.mono hb12.size)
      rw [get_put n hn1 hn2, show getErr 8 = 0 from rfl]
      clear hs2 hb3 hb12
      go_wp2_with fail
      refine (zig_any n _ hn1 hn2).mono ?_
      rintro e w4 ⟨v4, m4, rfl, hown4, hb4⟩
      obtain ⟨A4, c4, rfl, hs4⟩ := own_form hown4
      have hm4 := own_len hown4
      have hl4 : m4 ≤ 10 := by have := sh_len 10 (turned n); simp at hm4; omega
      have hb14 := hb13.trans (hb4.mono hb13.size)
      have Hm4 := Lib.hid hm4
      clear hown4 hb4 hb13 hm4
      have hs4' := hs4.below (below_alloc w4 (.cells #[] 5))
      have ho4 := own_new w4 5 [] 0 rfl (by omega)
      have hb4' : Below w4.heap.size w4 (w4.alloc (.cells #[] 5)) := below_alloc w4 _
      have hz4 : w4.heap.size ≤ (w4.alloc (.cells #[] 5)).heap.size := hb4'.size
      have hq4 := hq.below hb14
      have ht := turned_range hn1 hn2
      have Ht := Lib.hid ht
      clear ht
      go_wp2_with (first
        | (at_builtin; refine wpList_cat (.tmp 52) (.tmp 53) 22 5 i0 _ 1 rfl rfl Try.underlying22 hi0 hz0 hz1 hz2 rfl w4.heap.size _ _ _ ho4 _ _ _ _ hs4' rfl rfl ints_one (by omega) (by omega) hz4 ?_; intro v5 w5 hown5 hg5 hb5 hz5)
        | (at_builtin; refine wpList_cat (.tmp 54) (.tmp 55) 22 5 i0 _ 1 rfl rfl Try.underlying22 hi0 hz0 hz1 hz2 rfl w4.heap.size _ _ _ hown5 _ _ _ _ (hq4.below (hb4'.trans hb5)) rfl rfl ints_one (by omega) (by omega) (Nat.le_trans hz4 hz5) ?_; intro v6 w6 hown6 hg6 hb6 hz6; obtain ⟨A6, c6, rfl, hs6⟩ := own_form hown6))
      have hl6 : Sl w6 A6 (m4 + k) (u8s (sh 10 (turned n) ++ more)) := by simpa [u8s] using hs6
      have hr6 : ∀ x ∈ sh 10 (turned n) ++ more, 0 ≤ x ∧ x < 256 := by
        intro x hx
        rcases List.mem_append.1 hx with h | h
        · exact sh_range 10 _ Ht.out.1 x h
        · exact Hmr.out x h
      refine (zag_any _ _ _ _ _ hl6 hr6 (by omega)).mono ?_
      rintro e w7 ⟨rfl, rfl⟩
      obtain ⟨z1, z2, z3⟩ := zag_fore (turned n) more Ht.out.1 Ht.out.2
      rw [z1, z2, z3, back_turned, show ((sh 10 (turned n)).length : Int) = (m4 : Int) by have := Hm4.out; simp at this; omega]
      have hb16 : Below w.heap.size w w7 := hb14.trans ((hb4'.trans (hb5.trans hb6)).mono hb14.size)
      clear z1 z2 z3 hr6 hl6 hs6 hown6 hown5 hg5 hg6 hb5 hb6 hb4' hq4 hs4 hs4' ho4 hb14 hz4 hz5 hz6
      go_wp2_with fail
      refine (zag_of _ _ _ _ _ (hs.below hb16) Hb.out hm).mono ?_
      rintro e w8 ⟨zx, zz, ze, rfl, rfl, hzag⟩
      go_upto_region 13 with fail
      go_cut [90] (fun s90 wc => s90 = .bool false ∧ Below w.heap.size w wc)
      case first =>
        by_cases hze : ze = 0
        · have hb1 : -9223372036854775808 ≤ zx ∧ zx ≤ 9223372036854775807 := by rw [hzag.1]; exact back_range (zTurned_range Hb.out).1 (zTurned_range Hb.out).2
          have hsz : zz ≤ m := by rw [← Hlen.out, hzag.2.1]; exact zSize_le b
          have hts := turned_back (zTurned_range Hb.out).1
          have hsh := zag_back Hb.out (by rw [← hzag.2.2]; exact hze)
          have Hsh := Lib.hid (show sh 10 (turned zx) = b.take zz by rw [hzag.1, hzag.2.1, hts]; exact hsh)
          clear hts hsh hzag
          have hst := hs.below hb16
          subst hze
          go_region_with (first
            | (go_at_call 19; refine (zig_any _ _ hb1.1 hb1.2).mono ?_; rintro e w9 ⟨v9, m9, rfl, hown9, hb9⟩; obtain ⟨A9, c9, rfl, hs9⟩ := own_form hown9; have hm9 : m9 ≤ 10 := by have h1 := own_len hown9; have h2 := sh_len 10 (turned zx); simp at h1; omega)
            | (go_at_call 10; refine (same_yes _ _ _ _ _ _ (b.take zz) _ ?_ ?_ (by omega) (by omega)).mono ?_; (rw [← Hsh.out]; exact hs9); (have h1 := (Sl.below (show Sl (World.drew _) _ _ _ from hst) hb9).take hsz; simpa [u8s] using h1); rintro e w10 ⟨rfl, hb10⟩))
          all_goals
            go_wp2_with fail
            go_meet
            have hb18 := (hb16.drew).trans (hb9.mono hb16.drew.size)
            exact ⟨rfl, hb18.trans (hb10.mono hb18.size)⟩
        · have hbool : (ze == 0) = false := by simpa using hze
          clear hzag
          go_quiet (fail)
          go_wp2_with fail
          go_meet
          exact ⟨rfl, below_drewN hb16 _⟩
      case rest =>
        obtain ⟨rfl, hb17⟩ := hcut
        clear hb16 hzag Hm4 hl4 Ht
        by_cases hneg : n < 0
        · go_wp2_with fail
          refine (long_of _ _ _ _ _ (hs.below hb17) Hb.out hm).mono ?_
          rintro e w9 ⟨lx, lz, le, rfl, rfl, hlo⟩
          by_cases hle : le = 0
          · have hbk := long_back Hb.out (by rw [← hlo.2.2]; exact hle)
            rw [← hlo.1, ← hlo.2.1] at hbk
            have hlz : lz ≤ m := by rw [← Hlen.out, hlo.2.1]; exact endSize_le b 9
            have Hbk := Lib.hid hbk
            have hlx := hbk.2
            clear hlo hbk
            subst hle
            go_wp2_with fail
            refine (short_any lx _ hlx.1 hlx.2).mono ?_
            rintro e w10 ⟨v10, m10, rfl, hown10, hb10⟩
            obtain ⟨A10, c10, rfl, hs10⟩ := own_form hown10
            have hm10 : m10 ≤ 10 := by have h1 := own_len hown10; have h2 := sh_len 10 lx; simp at h1; omega
            have hb20 := hb17.trans (hb10.mono hb17.size)
            have hst := hs.below hb20
            clear hown10 hb10
            rw [Hbk.out.1] at hs10
            have hst2 : Sl w10 A lz (u8s (b.take lz)) := by simpa [u8s] using hst.take hlz
            go_wp2_with fail
            refine (same_yes _ _ _ _ _ _ (b.take lz) _ hs10 hst2 (by omega) (by omega)).mono ?_
            rintro e w11 ⟨rfl, hb11⟩
            have hb21 := hb20.trans (hb11.mono hb20.size)
            go_wp2_with fail
            go_ret
            exact ⟨rfl, hb21⟩
          · have hne : (le != 0) = true := by simpa using hle
            have hx0 : lx = 0 := by rw [hlo.1]; exact longVal_bad (by rw [← hlo.2.2]; exact hle)
            have hz0 : lz = 0 := by rw [hlo.2.1]; exact end_bad (by rw [← hlo.2.2]; exact hle)
            clear hlo
            subst hx0 hz0
            go_wp2_with fail
            go_ret
            exact ⟨rfl, hb17⟩
        · go_wp2_with fail
          refine (short_any n _ (by omega) hn2).mono ?_
          rintro e w4 ⟨v4, m4, rfl, hown4, hb4⟩
          obtain ⟨A4, c4, rfl, hs4⟩ := own_form hown4
          have hm4 := own_len hown4
          have hl4 : m4 ≤ 10 := by have := sh_len 10 n; simp at hm4; omega
          have hb14 := hb17.trans (hb4.mono hb17.size)
          have Hm4 := Lib.hid hm4
          clear hown4 hb4 hb17 hm4
          have hs4' := hs4.below (below_alloc w4 (.cells #[] 5))
          have ho4 := own_new w4 5 [] 0 rfl (by omega)
          have hb4' : Below w4.heap.size w4 (w4.alloc (.cells #[] 5)) := below_alloc w4 _
          have hz4 : w4.heap.size ≤ (w4.alloc (.cells #[] 5)).heap.size := hb4'.size
          have hq4 := hq.below hb14
          go_wp2_with (first
            | (at_builtin; refine wpList_cat (.tmp 99) (.tmp 100) 22 5 i0 _ 1 rfl rfl Try.underlying22 hi0 hz0 hz1 hz2 rfl w4.heap.size _ _ _ ho4 _ _ _ _ hs4' rfl rfl ints_one (by omega) (by omega) hz4 ?_; intro v5 w5 hown5 hg5 hb5 hz5)
            | (at_builtin; refine wpList_cat (.tmp 101) (.tmp 102) 22 5 i0 _ 1 rfl rfl Try.underlying22 hi0 hz0 hz1 hz2 rfl w4.heap.size _ _ _ hown5 _ _ _ _ (hq4.below (hb4'.trans hb5)) rfl rfl ints_one (by omega) (by omega) (Nat.le_trans hz4 hz5) ?_; intro v6 w6 hown6 hg6 hb6 hz6; obtain ⟨A6, c6, rfl, hs6⟩ := own_form hown6))
          have hl6 : Sl w6 A6 (m4 + k) (u8s (sh 10 n ++ more)) := by simpa [u8s] using hs6
          have hr6 : ∀ x ∈ sh 10 n ++ more, 0 ≤ x ∧ x < 256 := by
            intro x hx
            rcases List.mem_append.1 hx with h | h
            · exact sh_range 10 _ (by omega) x h
            · exact Hmr.out x h
          refine (long_any _ _ _ _ _ hl6 hr6 (by omega)).mono ?_
          rintro e w7 ⟨rfl, rfl⟩
          obtain ⟨z1, z2, z3⟩ := long_fore n more (by omega) hn2
          rw [z1, z2, z3, show ((sh 10 n).length : Int) = (m4 : Int) by have := Hm4.out; simp at this; omega]
          have hb16 : Below w.heap.size w w7 := hb14.trans ((hb4'.trans (hb5.trans hb6)).mono hb14.size)
          clear z1 z2 z3 hr6 hl6 hs6 hown6 hown5 hg5 hg6 hb5 hb6 hb4' hq4 hs4 hs4' ho4 hb14 hz4 hz5 hz6
          go_wp2_with fail
          refine (long_of _ _ _ _ _ (hs.below hb16) Hb.out hm).mono ?_
          rintro e w9 ⟨lx, lz, le, rfl, rfl, hlo⟩
          by_cases hle : le = 0
          · have hbk := long_back Hb.out (by rw [← hlo.2.2]; exact hle)
            rw [← hlo.1, ← hlo.2.1] at hbk
            have hlz : lz ≤ m := by rw [← Hlen.out, hlo.2.1]; exact endSize_le b 9
            have Hbk := Lib.hid hbk
            have hlx := hbk.2
            clear hlo hbk
            subst hle
            go_wp2_with fail
            refine (short_any lx _ hlx.1 hlx.2).mono ?_
            rintro e w10 ⟨v10, m10, rfl, hown10, hb10⟩
            obtain ⟨A10, c10, rfl, hs10⟩ := own_form hown10
            have hm10 : m10 ≤ 10 := by have h1 := own_len hown10; have h2 := sh_len 10 lx; simp at h1; omega
            have hb20 := hb16.trans (hb10.mono hb16.size)
            have hst := hs.below hb20
            clear hown10 hb10
            rw [Hbk.out.1] at hs10
            have hst2 : Sl w10 A lz (u8s (b.take lz)) := by simpa [u8s] using hst.take hlz
            go_wp2_with fail
            refine (same_yes _ _ _ _ _ _ (b.take lz) _ hs10 hst2 (by omega) (by omega)).mono ?_
            rintro e w11 ⟨rfl, hb11⟩
            have hb21 := hb20.trans (hb11.mono hb20.size)
            go_wp2_with fail
            go_ret
            exact ⟨rfl, hb21⟩
          · have hne : (le != 0) = true := by simpa using hle
            have hx0 : lx = 0 := by rw [hlo.1]; exact longVal_bad (by rw [← hlo.2.2]; exact hle)
            have hz0 : lz = 0 := by rw [hlo.2.1]; exact end_bad (by rw [← hlo.2.2]; exact hle)
            clear hlo
            subst hx0 hz0
            go_wp2_with fail
            go_ret
            exact ⟨rfl, hb16⟩
end Go.Proofs.Ytkihafikidphnaa
