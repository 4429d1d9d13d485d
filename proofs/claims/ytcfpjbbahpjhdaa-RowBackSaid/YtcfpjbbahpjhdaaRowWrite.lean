/- Package row's Write. -/
import Derived.Test.YtcfpjbbahpjhdaaRowFits
import Derived.Test.YtcfpjbbahpjhdaaNZig
namespace Go.Proofs.Ytcfpjbbahpjhdaa
open Go.RowKit

theorem ent_write (args : Array Value) (w : World) : (callFunc 23 args).run Try.prog w = .ok (.enter 23 args) w :=
  ent_of Try.func23 (by kernel_rfl) rfl args w

/-- The bytes of one value. -/
def valBytes (t v : Int) : List Int := if t = 2 then [v % 256] else sh 10 (turned v)

theorem sh_some (n : Int) : 0 < (sh 10 n).length := by
  unfold sh
  split <;> simp

set_option maxHeartbeats 800000 in
theorem put_is (t v : Int) (w : World) (ht : t = 1 ∨ t = 2) (h1 : -9223372036854775808 ≤ v) (h2 : v ≤ 9223372036854775807) :
    Calls Try.prog 24 #[.int .i64 t, .int .i64 v] w fun e w' => ∃ ad m c, e = .returned (.slice (some ad) m c) ∧ Sl w' (some ad) m (u8s (valBytes t v)) ∧ Below w.heap.size w w' ∧ m ≤ 10 ∧ 0 < m := by
  rcases ht with rfl | rfl
  · have Hb := Lib.hid (show valBytes 1 v = sh 10 (turned v) by unfold valBytes; rw [if_neg (by decide)])
    go_enter Try.func24, Try.ntmps24
    go_wp2_with fail
    refine (zig_any v w h1 h2).mono ?_
    rintro e w3 ⟨v3, m3, rfl, hown3, hb3⟩
    obtain ⟨A3, c3, rfl, hs3⟩ := own_form hown3
    have h5 := own_len hown3
    have hm3 : m3 ≤ 10 := by have h2 := sh_len 10 (turned v); simp at h5; omega
    have hm0 : 0 < m3 := by have h2 := sh_some (turned v); simp at h5; omega
    obtain ⟨ad, x, rfl, _, _⟩ := hs3.num hm0
    clear hown3 h5
    go_wp2
    go_ret
    exact ⟨_, _, _, rfl, by rw [Hb.out]; exact hs3, hb3, hm3, hm0⟩
  · have Hb := Lib.hid (show valBytes 2 v = [v % 256] by unfold valBytes; rw [if_pos rfl])
    go_enter Try.func24, Try.ntmps24
    go_wp2
    go_ret
    exact ⟨_, _, _, rfl, by rw [Hb.out]; exact Sl.new_ w 5 (u8s [v % 256]) 1 rfl, below_alloc _ _, by omega, by omega⟩

set_option maxHeartbeats 1600000 in
theorem write1_any (k m n d : Nat) (t v : Int) (pb pr base : Nat) (B : Option Addr) (l L : List Int) (vb : Value) (w : World) (hpb : Blk w pb 27 [vb]) (hpr : Blk w pr 22 [.slice B n d]) (hy : Sl w B n (i64s l)) (hk : k < n) (hv : l[k]? = some v)
    (ht : t = 1 ∨ t = 2) (h1 : -9223372036854775808 ≤ v) (h2 : v ≤ 9223372036854775807) (hown : w.ownsRow base 5 1 vb m (u8s L)) (hm : m ≤ 1000) (hbase : base ≤ pb) :
    Calls Try.prog 23 #[.int .i64 k, .int .i64 t, .pointer (some ⟨pb, 0, none⟩), .pointer (some ⟨pr, 0, none⟩)] w fun e w' => e = .returned (.int .i64 0) ∧ ∃ v' m', Blk w' pb 27 [v'] ∧ Blk w' pr 22 [.slice B n d] ∧ w'.ownsRow base 5 1 v' m' (u8s (L ++ valBytes t v)) ∧ m' ≤ m + 10 ∧ Below base w w' := by
  obtain ⟨i0, hi0, hz0, hz1, hz2⟩ := info_parts info_u8
  obtain ⟨bd, u, rfl, hcv, huv⟩ := hy.num hk
  obtain rfl : u = v := by rw [hv] at huv; exact (Option.some.inj huv).symm
  have hcb := hpb.cell (i := 0) rfl
  have hfb := hpb.frozen 0
  have hcr := hpr.cell (i := 0) rfl
  have hlt := hpb.lt
  have hbw : base ≤ w.heap.size := by omega
  clear huv hv
  go_enter Try.func23, Try.ntmps23
  go_wp2_with fail
  have hlr := hpr.lt
  have hty : (27 : TypeId) ≠ 5 := by decide
  have hty2 : (22 : TypeId) ≠ 5 := by decide

  go_region_law (first
    | (go_simp
       go_at_call 24
       refine (put_is t u w.drew ht h1 h2).mono ?_
       rintro e w4 ⟨ad, mw, cw, rfl, hsw, hbelw, hmw, hmw0⟩
       have hownw := own_below hown.drew hbelw
       have hlw : (u8s (valBytes t u)).length = mw * 1 := by rw [Nat.mul_one]; exact hsw.1
       have hnw : ∀ (j : Nat) (x : Value), (u8s (valBytes t u))[j]? = some x → w4.cell? (ad.add j) = some x := by
         intro j x hj
         obtain ⟨ad', e, hc⟩ := hsw.2 j x hj
         cases e; exact hc
       have hpb4 : Blk w4 pb 27 [vb] := hpb.kept (hbelw.block pb hlt)
       have hpr4 : Blk w4 pr 22 [.slice (some bd) n d] := hpr.kept (hbelw.block pr hlr)
       have hcb4 := hpb4.cell (i := 0) rfl
       have hsz4 : w.heap.size ≤ w4.heap.size := hbelw.size
       have hne4 := own_ne hownw hpb4 hty
       have hne5 := own_ne hownw hpr4 hty2)
    | (refine step_append_own rfl (.tmp 7) (.tmp 13) 27 rfl base 5 i0 _ 1 1 Try.underlying27 hi0 hz0 hz1 hz2 rfl (by decide) vb m (u8s L) (by simp [Act.eval, Act.put]) hownw ad mw cw (u8s (valBytes t u)) (by simp [Act.eval, Act.put]) hlw hnw ints_one (by simp only [maxLen]; omega) (by omega) (by omega) ?_
       intro v' w5 hown5 hg5
       obtain ⟨A5, c5, rfl, hs5⟩ := own_form hown5
       have hpb5 := hpb4.kept (hg5.block pb hpb4.lt hne4)
       have hpr5 := hpr4.kept (hg5.block pr hpr4.lt hne5)
       have hcb5 := hpb5.cell (i := 0) rfl
       have hfb5 := hpb5.frozen 0))
  all_goals
    have Hown5 := Lib.hid hown5
    have hb5 : Below base w w5 := Below.grown (Below.mono (⟨hbelw.os, hbelw.tape, hbelw.output, hbelw.size, hbelw.block⟩ : Below w.heap.size w w4) hbw) hg5 (by omega) (fun k hk => (hownw.lt k hk).1)
    go_wp2
    go_ret
    have hne6 := own_ne Hown5.out hpb5 hty
    refine ⟨rfl, _, m + mw, hpb5.set 0 _, hpr5.setOther (hpr5.ne hpb5 (by decide)) _, ?_, by omega, hb5.setCell hbase _⟩
    have := ownsRow_setCell_other (a := ⟨pb, 0, none⟩) Hown5.out (fun e => hne6 e.symm) (.slice A5 (m + mw) c5)
    rw [show u8s (L ++ valBytes t u) = u8s L ++ u8s (valBytes t u) from List.map_append]
    exact this

set_option maxHeartbeats 1600000 in
theorem row_write_is (X : List Int) (err : Int) (A B : Option Addr) (n c m d : Nat) (ts l : List Int) (w : World) (hx : Sl w A n (i64s ts)) (hy : Sl w B m (i64s l)) (hn : n ≤ 1000) (hm : m ≤ 1000) (hl : I64 l) (hr : writeRow ts l = (X, err)) :
    Calls Try.prog 14 #[.slice A n c, .slice B m d] w fun e w' => ∃ v k, e = .returned (.tuple #[v, .int .i64 err]) ∧ w'.ownsRow w.heap.size 5 1 v k (u8s X) ∧ Below w.heap.size w w' := by
  have hlx : ts.length = n := by simpa using hx.1
  have hly : l.length = m := by simpa using hy.1
  have Hlx := Lib.hid hlx; have Hly := Lib.hid hly; have Hres := Lib.hid hr; have Hl := Lib.hid hl
  clear hr hl
  obtain ⟨w1, hw1⟩ : ∃ w1, w1 = w.alloc (.cells #[.slice B m d] 22) := ⟨_, rfl⟩
  have hb1 : Below w.heap.size w w1 := by rw [hw1]; exact below_alloc _ _
  have hp : Blk w1 w.heap.size 22 [.slice B m d] := by rw [hw1]; exact Blk.new _ _ _
  have hx1 := hx.below hb1
  have hy1 := hy.below hb1
  have hcp := hp.cell (i := 0) rfl
  have Hw1 := Lib.hid hw1
  clear hw1
  obtain ⟨r, hr⟩ : ∃ r, r = rightOf ts := ⟨_, rfl⟩
  have Hr := Lib.hid hr
  clear hr
  cases r
  · have Hf := Lib.hid (show (X, err) = (([] : List Int), (2 : Int)) by rw [← Hres.out]; exact write_arg Hr.out.symm)
    clear hlx hly
    go_enter Try.func14, Try.ntmps14
    go_wp2_with fail
    rw [← Hw1.out]
    refine (rowright_is false A n c ts w1 hx1 (by omega) Hr.out).mono ?_
    rintro e w2 ⟨rfl, hw⟩
    obtain rfl := hw.symm
    go_wp2_with fail
    go_ret2
    obtain ⟨rfl, rfl⟩ := Prod.mk.inj Hf.out
    exact ⟨_, 0, rfl, World.ownsRow_nil _ _ _ _, hb1⟩
  · obtain ⟨f, hf⟩ : ∃ f, f = fitsOf ts l := ⟨_, rfl⟩
    have Hff := Lib.hid hf
    clear hf
    cases f
    · have Hf := Lib.hid (show (X, err) = (([] : List Int), (41 : Int)) by rw [← Hres.out]; exact write_row Hr.out.symm Hff.out.symm)
      clear hlx hly
      go_enter Try.func14, Try.ntmps14
      go_wp2_with fail
      rw [← Hw1.out]
      refine (rowright_is true A n c ts w1 hx1 (by omega) Hr.out).mono ?_
      rintro e w2 ⟨rfl, hw⟩
      obtain rfl := hw.symm
      go_wp2_with fail
      refine (row_fits_is false A B n c m d ts l w1 hx1 hy1 hn hm Hff.out).mono ?_
      rintro e w2 ⟨rfl, hb2⟩
      go_wp2_with fail
      go_ret2
      obtain ⟨rfl, rfl⟩ := Prod.mk.inj Hf.out
      exact ⟨_, 0, rfl, World.ownsRow_nil _ _ _ _, hb1.trans (hb2.mono hb1.size)⟩
    · have Hf := Lib.hid (show (X, err) = (rowBytes ts l, (0 : Int)) by rw [← Hres.out]; exact write_ok Hr.out.symm Hff.out.symm)
      have hmn : m = n := by have := (fits_parts Hff.out.symm).2.1; omega
      subst hmn
      have hri := right_is Hr.out.symm
      have hn9 : m < 9 := by rw [← hlx]; exact hri.2.2
      have Hri := Lib.hid hri
      clear hri hlx hly
      go_enter Try.func14, Try.ntmps14
      go_wp2_with fail
      rw [← Hw1.out]
      refine (rowright_is true A m c ts w1 hx1 (by omega) Hr.out).mono ?_
      rintro e w2 ⟨rfl, hw⟩
      obtain rfl := hw.symm
      go_wp2_with fail
      refine (row_fits_is true A B m c m d ts l w1 hx1 hy1 hn hm Hff.out).mono ?_
      rintro e w2 ⟨rfl, hb2⟩
      obtain ⟨w3, hw3⟩ : ∃ w3, w3 = w2.alloc (.cells #[.slice none 0 0] 27) := ⟨_, rfl⟩
      have hb3 : Below w2.heap.size w2 w3 := by rw [hw3]; exact below_alloc _ _
      have hpb : Blk w3 w2.heap.size 27 [.slice none 0 0] := by rw [hw3]; exact Blk.new _ _ _
      have hpr : Blk w3 w.heap.size 22 [.slice B m d] := (hp.kept (hb2.block _ hp.lt)).kept (hb3.block _ (Nat.lt_of_lt_of_le hp.lt hb2.size))
      have hs12 := hb1.size
      have hs23 := hb2.size
      have hb03 : Below w.heap.size w w3 := (hb1.trans (hb2.mono hs12)).trans (hb3.mono (by omega))
      have Hw3 := Lib.hid hw3
      clear hw3
      have Heach := Lib.hid (each_any 23 #[.pointer (some ⟨w2.heap.size, 0, none⟩), .pointer (some ⟨w.heap.size, 0, none⟩)] ent_write A m c ts w3 (hx.below hb03) hn Hr.out
        (fun k wr => Below w.heap.size w wr ∧ ∃ v q L, Blk wr w2.heap.size 27 [v] ∧ Blk wr w.heap.size 22 [.slice B m d] ∧ wr.ownsRow w.heap.size 5 1 v q (u8s L) ∧ q ≤ 10 * k ∧ L ++ rowBytes (ts.drop k) (l.drop k) = rowBytes ts l) (fun _ _ => False)
        ⟨hb03, _, 0, [], hpb, hpr, World.ownsRow_nil _ _ _ _, by omega, by simp⟩ (fun k wr h => hx.below h.1) (by
          rintro k t wr hk ht ⟨hb, v, q, L, hpbk, hprk, hown, hq, hrest⟩
          have hkl : k < l.length := by rw [Hly.out]; exact hk
          have hv := Hl.out l[k] (List.getElem_mem hkl)
          refine (write1_any (m := q) k m d t l[k] w2.heap.size w.heap.size w.heap.size B l L v wr hpbk hprk (hy.below hb) hk (List.getElem?_eq_getElem hkl) (Hri.out.1 t (List.mem_of_getElem? ht)) hv.1 hv.2 hown (by omega) (by omega)).mono ?_
          rintro e w' ⟨rfl, v', q', h1, h2, h3, h4, h5⟩
          refine ⟨_, rfl, .inl ⟨rfl, hb.trans h5, v', q', _, h1, h2, h3, by omega, ?_⟩⟩
          rw [← hrest, drop_at _ _ _ ht, drop_at _ _ _ (List.getElem?_eq_getElem hkl), bytes_step, List.append_assoc]
          rfl))
      go_wp2_with fail
      rw [← Hw3.out]
      refine Heach.out.mono ?_
      rintro e w4 ⟨er, rfl, hor⟩
      have hin := Lib.hid (show er = 0 ∧ Below w.heap.size w w4 ∧ ∃ v q, Blk w4 w2.heap.size 27 [v] ∧ w4.ownsRow w.heap.size 5 1 v q (u8s (rowBytes ts l)) by
        rcases hor with ⟨h0, hb, v, q, L, h1, _, h2, _, h3⟩ | ⟨_, h⟩
        · rw [List.drop_of_length_le (by rw [Hlx.out]; omega), List.drop_of_length_le (by rw [Hly.out]; omega), show rowBytes [] [] = [] from rfl, List.append_nil] at h3
          exact ⟨h0, hb, v, q, h1, by rw [← h3]; exact h2⟩
        · exact h.elim)
      clear hor
      obtain ⟨rfl, hb4, v, q, hpb4, hown4⟩ := hin.out
      have hc4 := hpb4.cell (i := 0) rfl
      obtain ⟨A4, c4, rfl, hs4⟩ := own_form hown4
      have Hown4 := Lib.hid hown4
      clear hown4 hin
      go_wp2_with fail
      go_ret2
      obtain ⟨rfl, rfl⟩ := Prod.mk.inj Hf.out
      exact ⟨_, _, rfl, Hown4.out, hb4⟩
end Go.Proofs.Ytcfpjbbahpjhdaa
