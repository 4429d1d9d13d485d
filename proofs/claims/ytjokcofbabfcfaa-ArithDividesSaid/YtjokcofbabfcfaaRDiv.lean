import Derived.Test.YtjokcofbabfcfaaRTake
import Derived.Test.YtjokcofbabfcfaaOwnAt
namespace Go.Proofs.Ytjokcofbabfcfaa
open Go.RowKit

theorem OwnAt.mono {w : World} {base base' : Nat} {e : TypeId} {g o cap n : Nat} {xs : List Value} (h : OwnAt w base e g o cap n xs) (hb : base' ≤ base) : OwnAt w base' e g o cap n xs := ⟨Nat.le_trans hb h.1, h.2⟩

/-- The first k bits of a number, divided. -/
structure Divided (X : List Int) (m : Int) (k : Nat) (R : List Int) (q : Int) : Prop where
  len : R.length = 65
  bits : Bit2 R
  lt : hv R < m
  eq : ∃ d, 0 ≤ d ∧ q = wrap64 d ∧ hv (X.take k) = m * d + hv R
theorem hv_zeros : ∀ n : Nat, hv (List.replicate n (0 : Int)) = 0
  | 0 => rfl
  | n + 1 => by rw [List.replicate_succ, hv_cons, hv_zeros n]; simp
theorem Divided.start {X : List Int} {m : Int} (hm : 0 < m) : Divided X m 0 (List.replicate 65 0) 0 := by
  have h0 := hv_zeros 65
  exact ⟨by simp, (fun x hx => by rw [List.eq_of_mem_replicate hx]; omega), by rw [h0]; exact hm, 0, by omega, by rw [wrap_self ⟨by omega, by omega⟩], by rw [h0, List.take_zero]; simp [hv_nil]⟩
theorem Divided.head {X : List Int} {m : Int} {k : Nat} {R : List Int} {q : Int} (h : Divided X m k R q) (hm : m ≤ 9223372036854775808) : ∃ R', R = 0 :: R' ∧ R'.length = 64 ∧ Bit2 R' ∧ hv R' = hv R := by
  obtain ⟨hl, hb, hlt, _⟩ := h
  match R, hl, hb, hlt with
  | r :: R', hl, hb, hlt =>
    have hr := hb r List.mem_cons_self
    have hb' : Bit2 R' := fun x hx => hb x (List.mem_cons_of_mem _ hx)
    have hl' : R'.length = 64 := by simpa using hl
    have hv' := hv_range hb'
    rw [hv_cons, hl'] at hlt
    have : r = 0 := by omega
    subst this
    exact ⟨R', rfl, hl', hb', by rw [hv_cons]; simp⟩
/-- One bit more, less than the divisor. -/
theorem Divided.stay {X : List Int} {m : Int} {k : Nat} {R R' : List Int} {q x q2 : Int} (h : Divided X m k R q) (hR : hv R' = hv R) (hl : R'.length = 64) (hb : Bit2 R') (hx : X[k]? = some x) (hx1 : 0 ≤ x ∧ x < 2)
    (hq : q2 = wrap64 (q + q)) (hlt : hv (R' ++ [x]) < m) : Divided X m (k + 1) (R' ++ [x]) q2 := by
  obtain ⟨d, hd, hqd, he⟩ := h.eq
  refine ⟨by simp [hl], mem_snoc_bit hb hx1, hlt, 2 * d, by omega, ?_, ?_⟩
  · rw [hq, hqd, wrap_add]; congr 1; omega
  · rw [take_snoc X k x hx, hv_snoc, hv_snoc, he, hR, Int.mul_left_comm]; omega
/-- One bit more, not less than the divisor. -/
theorem Divided.less {X : List Int} {m : Int} {k : Nat} {R R' Z : List Int} {q x q2 q3 : Int} (h : Divided X m k R q) (hR : hv R' = hv R) (hx : X[k]? = some x) (hx1 : 0 ≤ x ∧ x < 2)
    (hq : q2 = wrap64 (q + q)) (hq3 : q3 = wrap64 (q2 + 1)) (hzl : Z.length = 65) (hzb : Bit2 Z) (hz : hv Z = hv (R' ++ [x]) - m) : Divided X m (k + 1) Z q3 := by
  obtain ⟨d, hd, hqd, he⟩ := h.eq
  have hlt := h.lt
  rw [hv_snoc, hR] at hz
  refine ⟨hzl, hzb, by omega, 2 * d + 1, by omega, ?_, ?_⟩
  · rw [hq3, hq, hqd, wrap_add]
    have : wrap64 (d + d) + 1 = wrap64 (d + d) + 1 := rfl
    unfold wrap64; omega
  · have e1 : m * (2 * d + 1) = 2 * (m * d) + m := by rw [Int.mul_add, Int.mul_one, Int.mul_left_comm]
    rw [take_snoc X k x hx, hv_snoc, he, hz, e1]; omega
theorem Divided.full {X : List Int} {m : Int} {R : List Int} {q : Int} (h : Divided X m 65 R q) (hX : X.length = 65) (hm : 0 < m) : q = wrap64 (hv X / m) := by
  obtain ⟨d, hd, hqd, he⟩ := h.eq
  rw [List.take_of_length_le (by omega)] at he
  have hr := (hv_range h.bits).1
  have hlt := h.lt
  rw [hqd]
  congr 1
  rw [he, Int.add_comm, Int.add_mul_ediv_left _ _ (by omega), Int.ediv_eq_zero_of_lt hr hlt]
  omega

def absOf (a : Int) : Int := if a < 0 then -a else a
theorem abs_range {a : Int} (h1 : -9223372036854775808 ≤ a) (h2 : a ≤ 9223372036854775807) : 0 ≤ absOf a ∧ absOf a ≤ 9223372036854775808 := by unfold absOf; split <;> omega
theorem div_signs (a b : Int) (hb : b ≠ 0) : a.tdiv b = if decide (a < 0) != decide (b < 0) then -(absOf a / absOf b) else absOf a / absOf b := by
  unfold absOf
  by_cases ha : a < 0 <;> by_cases hb2 : b < 0
  · rw [if_pos ha, if_pos hb2, decide_eq_true ha, decide_eq_true hb2]
    have : a.tdiv b = (-(-a)).tdiv (-(-b)) := by simp
    rw [this, Int.neg_tdiv, Int.tdiv_neg, Int.neg_neg, Int.tdiv_eq_ediv_of_nonneg (by omega)]; rfl
  · rw [if_pos ha, if_neg hb2, decide_eq_true ha, decide_eq_false hb2]
    have : a.tdiv b = (-(-a)).tdiv b := by simp
    rw [this, Int.neg_tdiv, Int.tdiv_eq_ediv_of_nonneg (by omega)]; rfl
  · rw [if_neg ha, if_pos hb2, decide_eq_false ha, decide_eq_true hb2]
    have : a.tdiv b = a.tdiv (-(-b)) := by simp
    rw [this, Int.tdiv_neg, Int.tdiv_eq_ediv_of_nonneg (by omega)]; rfl
  · rw [if_neg ha, if_neg hb2, decide_eq_false ha, decide_eq_false hb2, Int.tdiv_eq_ediv_of_nonneg (by omega)]; rfl

theorem less_is (q : Bool) (A B : Option Addr) (n c d : Nat) (X Y : List Int) (w : World) (hx : Sl w A n (i64s X)) (hy : Sl w B n (i64s Y)) (hX : Bit2 X) (hY : Bit2 Y) (hn : n ≤ 1000) (hq : q = decide (hv X < hv Y)) :
    Calls Try.prog 31 #[.slice A n c, .slice B n d] w fun e w' => e = .returned (.bool q) ∧ Below w.heap.size w w' := by
  rw [hq]
  exact (rless_any A B n c d X Y w hx hy hX hY hn).mono fun e w' ⟨h, k, hk⟩ => ⟨h, by rw [hk]; exact below_drewN (Below.refl _ _) k⟩

set_option maxRecDepth 100000 in
set_option maxHeartbeats 6400000 in
theorem rdiv_any (a b : Int) (w : World) (ha1 : -9223372036854775808 ≤ a) (ha2 : a ≤ 9223372036854775807) (hb1 : -9223372036854775808 ≤ b) (hb2 : b ≤ 9223372036854775807) :
    Calls Try.prog 26 #[.int .i64 a, .int .i64 b] w fun e w' => e = .returned (.int .i64 (if b = 0 then 0 else wrap64 (a.tdiv b))) ∧ Below w.heap.size w w' := by
  by_cases hb0 : b = 0
  · subst hb0
    go_enter Try.func26, Try.ntmps26
    go_wp2
    go_ret
    exact ⟨by simp, Below.refl _ _⟩
  · rw [if_neg hb0]
    obtain ⟨i0, hi0, hz0, hz1, hz2⟩ := info_parts info_int
    have hbe : (b == 0) = false := by simpa using hb0
    obtain ⟨M, hM, hM1, hM2⟩ : ∃ M, M = absOf b ∧ 0 < M ∧ M ≤ 9223372036854775808 := ⟨_, rfl, by unfold absOf; split <;> omega, (abs_range hb1 hb2).2⟩
    have Hxv := Lib.hid (high_val ha1 ha2); have Hyv := Lib.hid (show hv (highOf b) = M by rw [hM]; exact high_val hb1 hb2)
    have Hsg := Lib.hid (div_signs a b hb0)
    rw [← hM] at Hsg
    go_enter Try.func26, Try.ntmps26
    go_wp2_with fail
    refine (rhigh_any a w ha1 ha2).mono ?_
    rintro e w1 ⟨v1, rfl, hown1, hbl1⟩
    obtain ⟨A, ca, rfl, hs1⟩ := own_form hown1
    clear hown1
    go_wp2_with fail
    refine (rhigh_any b w1 hb1 hb2).mono ?_
    rintro e w2 ⟨v2, rfl, hown2, hbl2⟩
    obtain ⟨B, cb, rfl, hs2⟩ := own_form hown2
    have hs1' := hs1.below hbl2
    have hbw := hbl1.trans (hbl2.mono hbl1.size)
    have hszw := hbw.size
    have HX := Lib.hid (high_bit a); have HY := Lib.hid (high_bit b); have HXl := Lib.hid (high_length a)
    have Hxv' : Hid (hv (highOf a) = absOf a) := Hxv
    clear hown2 hs1 hbl1 hbl2 hM Hxv
    generalize highOf a = X at *
    generalize highOf b = Y at *
    go_wp2_with fail
    go_loopw [7, 8] (fun v i wr => ∃ k : Nat, k ≤ 65 ∧ i = .int .i64 k ∧ wr.ownsRow w2.heap.size 3 1 v k (i64s (List.replicate k 0)) ∧ Below w2.heap.size w2 wr) (fun _ i _ => 65 - (intOf i).toNat)
    case atStart => exact ⟨0, by omega, rfl, World.ownsRow_nil _ _ _ _, Below.refl _ _⟩
    case round =>
      obtain ⟨k, hk, rfl, hown, hbl⟩ := hrel
      have hszk := hbl.size
      by_cases hlt : k < 65
      · go_wp2_with (at_builtin; refine wpList_push _ _ 34 3 i0 _ _ 8 rfl rfl Try.underlying34 hi0 hz0 hz1 hz2 rfl w2.heap.size _ _ _ hown rfl rfl rfl (by omega) (by omega) hszk ?_; intro v' w3 hown3 hg3 hb3 hs3)
        go_roundw
        case rel => exact ⟨k + 1, by omega, by go_num, by simpa [List.replicate_succ'] using hown3, hbl.trans hb3⟩
        case measure => simp [intOf] <;> omega
      · have hk65 : 65 ≤ k := by omega
        have hown0 := hown
        rw [show k = 65 by omega] at hown0
        obtain ⟨g0, cap0, rfl, hat0⟩ := OwnAt.of_row hown0 (by omega)
        have hd0 : decide ((k : Int) < 65) = false := decide_eq_false (by omega)
        have Hst := Lib.hid (Divided.start (X := X) hM1)
        clear hlt hk hown hown0
        obtain ⟨wo, rfl⟩ : ∃ wo : World, wo = wr := ⟨_, rfl⟩
        go_wp2
        go_loopw [7, 9, 10] (fun v q i wr => ∃ (j g o cap : Nat) (R : List Int) (qv : Int), j ≤ 65 ∧ i = .int .i64 j ∧ v = .slice (some ⟨g, o, none⟩) 65 cap ∧ q = .int .i64 qv ∧ -9223372036854775808 ≤ qv ∧ qv ≤ 9223372036854775807 ∧ Divided X M j R qv ∧ OwnAt wr w2.heap.size 3 g o cap 65 (i64s R) ∧ Below w2.heap.size w2 wr) (fun _ _ i _ => 65 - (intOf i).toNat)
        case atStart => exact ⟨0, g0, 0, cap0, List.replicate 65 0, 0, by omega, rfl, rfl, rfl, by omega, by omega, Hst.out, hat0, hbl⟩
        case round =>
          obtain ⟨j, g, o, cap, R, qv, hj, rfl, rfl, rfl, q1, q2, hdiv, hat, hbl2⟩ := hrel
          have Hd := Lib.hid hdiv
          clear hdiv hat0 hbl hszk Hst
          have hszr := hbl2.size
          by_cases hlt : j < 65
          · obtain ⟨R', hR, hRl, hRb, hRv⟩ := Hd.out.head hM2
            subst hR
            have hcap := hat.2.1
            obtain ⟨cp, rfl⟩ : ∃ cp, cap = cp + 1 := ⟨cap - 1, by omega⟩
            have hat2 : OwnAt wr w2.heap.size 3 g (o + 1) cp 64 (i64s R') := OwnAt.tail (x := .int .i64 0) hat
            obtain ⟨ad, x, rfl, hcx, hux⟩ := (hs1'.below hbl2).num hlt
            have hx1 := HX.out x (List.mem_of_getElem? hux)
            have Hux := Lib.hid hux; have HRb := Lib.hid hRb; have HRv := Lib.hid hRv; have HRl := Lib.hid hRl
            have hd : decide ((j : Int) < 65) = true := decide_eq_true (by omega)
            have hltI : (j : Int) < 65 := by omega
            have hcp0 : ¬ cp = 0 := by omega
            clear hux hRb hRv hRl
            go_upto_region 14 with fail
            go_cut [7] from 28 to 35 (fun s7 wc => ∃ g' o' cap', s7 = .slice (some ⟨g', o', none⟩) 65 cap' ∧ OwnAt wc w2.heap.size 3 g' o' cap' 65 (i64s (R' ++ [x])) ∧ Below w2.heap.size w2 wc)
            case first =>
              go_region_law (refine step_push_at (.tmp 29) (.tmp 34) 34 3 i0 _ (.int .i64 x) 8 rfl rfl Try.underlying34 hi0 hz0 hz1 hz2 rfl w2.heap.size g (o + 1) cp 64 (i64s R') (show OwnAt (World.drew wr) _ _ _ _ _ _ _ from hat2) (by simp [Act.eval, Act.put]) (by simp [Act.eval, Act.put]) rfl (by omega) (by omega) hszr ?_; intro g' o' cap' w5 hown5 hb5 hs5)
              all_goals
                go_wp2_with fail
                go_meet
                exact ⟨g', o', cap', rfl, by simpa [i64s] using hown5, hbl2.drew.trans hb5⟩
            case rest =>
              obtain ⟨g', o', cap', rfl, hat3, hb3⟩ := hcut
              clear hat hat2 hbl2 hszr hcap hcp0 hcx
              have hsz3 := hb3.size
              have HRx := Lib.hid (mem_snoc_bit HRb.out hx1)
              obtain ⟨qd, hqd⟩ : ∃ qd, qd = wrap64 (qv + qv) := ⟨_, rfl⟩
              have hqd1 : -9223372036854775808 ≤ qd ∧ qd ≤ 9223372036854775807 := by rw [hqd]; exact wrap_range _
              have Hqd := Lib.hid hqd
              clear hqd
              go_wp2_with fail
              refine (radd_is qd qv qv _ q1 q2 q1 q2 Hqd.out).mono ?_
              rintro e w6 ⟨rfl, hn6⟩
              have hat6 := hat3.below hn6
              have hb6 := hb3.trans (hn6.mono hsz3)
              have hsz6 := hb6.size
              clear hat3 hb3 hsz3 hn6
              by_cases hls : hv (R' ++ [x]) < M
              · have Hnext := Lib.hid (Hd.out.stay HRv.out HRl.out HRb.out Hux.out hx1 Hqd.out hls)
                have Hls := Lib.hid (show true = decide (hv (R' ++ [x]) < hv Y) by rw [Hyv.out, decide_eq_true hls])
                clear hls
                go_wp2_with fail
                refine (less_is true _ B 65 cap' cb (R' ++ [x]) Y w6 hat6.sl (hs2.below hb6) HRx.out HY.out (by omega) Hls.out).mono ?_
                rintro e w7 ⟨rfl, hn7⟩
                have hat7 := hat6.below hn7
                have hb7 := hb6.trans (hn7.mono hsz6)
                clear hn7 hat6 hb6
                go_wp2_with fail
                go_roundw
                case rel => exact ⟨j + 1, g', o', cap', R' ++ [x], qd, by omega, by go_num, rfl, rfl, hqd1.1, hqd1.2, Hnext.out, hat7, hb7⟩
                case measure => simp [intOf] <;> omega
              · have Hle := Lib.hid (show hv Y ≤ hv (R' ++ [x]) by rw [Hyv.out]; omega)
                have Hls := Lib.hid (show false = decide (hv (R' ++ [x]) < hv Y) by rw [Hyv.out, decide_eq_false hls])
                obtain ⟨qe, hqe⟩ : ∃ qe, qe = wrap64 (qd + 1) := ⟨_, rfl⟩
                have hqe1 : -9223372036854775808 ≤ qe ∧ qe ≤ 9223372036854775807 := by rw [hqe]; exact wrap_range _
                have Hqe := Lib.hid hqe
                clear hls hqe
                go_wp2_with fail
                refine (less_is false _ B 65 cap' cb (R' ++ [x]) Y w6 hat6.sl (hs2.below hb6) HRx.out HY.out (by omega) Hls.out).mono ?_
                rintro e w7 ⟨rfl, hn7⟩
                have hat7 := hat6.below hn7
                have hb7 := hb6.trans (hn7.mono hsz6)
                have hsz7 := hb7.size
                clear hn7 hat6 hb6
                go_wp2_with fail
                refine (rtake_any _ B 65 cap' cb (R' ++ [x]) Y w7 hat7.sl (hs2.below hb7) HRx.out HY.out (by omega) (by omega) Hle.out).mono ?_
                rintro e w8 ⟨v8, Z, rfl, hown8, hn8, hzb, hzv⟩
                rw [Hyv.out] at hzv
                have hzl : Z.length = 65 := by simpa [i64s] using hown8.1
                obtain ⟨g8, cap8, rfl, hat8⟩ := OwnAt.of_row hown8 (by omega)
                have hat8' := hat8.mono hsz7
                have hb8 := hb7.trans (hn8.mono hsz7)
                have hsz8 := hb8.size
                have Hnext := Lib.hid (Hd.out.less HRv.out Hux.out hx1 Hqd.out Hqe.out hzl hzb hzv)
                clear hat7 hb7 hown8 hn8 hat8 hzb hzv hzl hsz7
                go_wp2_with fail
                refine (radd_is qe qd 1 _ hqd1.1 hqd1.2 (by omega) (by omega) Hqe.out).mono ?_
                rintro e w9 ⟨rfl, hn9⟩
                have hat9 := hat8'.below hn9
                have hb9 := hb8.trans (hn9.mono hsz8)
                clear hat8' hb8 hn9
                go_wp2_with fail
                go_roundw
                case rel => exact ⟨j + 1, g8, 0, cap8, Z, qe, by omega, by go_num, rfl, rfl, hqe1.1, hqe1.2, Hnext.out, hat9, hb9⟩
                case measure => simp [intOf] <;> omega
          · have hfull := Hd.out
            rw [show j = 65 by omega] at hfull
            have hq := hfull.full HXl.out hM1
            rw [Hxv'.out] at hq
            have Hq := Lib.hid hq
            have hdj : decide ((j : Int) < 65) = false := decide_eq_false (by omega)
            have hbf := hbw.trans (hbl2.mono hszw)
            have hszf := hbf.size
            clear hfull hq hat hlt hj
            by_cases ha : a < 0
            · by_cases hb : b < 0
              · have Hres := Lib.hid (show qv = wrap64 (a.tdiv b) by rw [Hsg.out, decide_eq_true ha, decide_eq_true hb, if_neg (by decide), Hq.out])
                go_wp2_with fail
                go_ret
                exact ⟨ret_int Hres.out, hbf⟩
              · have Hres := Lib.hid (show wrap64 (-qv) = wrap64 (a.tdiv b) by rw [Hsg.out, decide_eq_true ha, decide_eq_false hb, if_pos (by rfl), Hq.out, wrap_neg])
                go_wp2_with fail
                refine (rneg_any qv _ q1 q2).mono ?_
                rintro e w6 ⟨rfl, hn6⟩
                go_wp2_with fail
                go_ret
                exact ⟨ret_int Hres.out, hbf.trans (hn6.mono hszf)⟩
            · by_cases hb : b < 0
              · have Hres := Lib.hid (show wrap64 (-qv) = wrap64 (a.tdiv b) by rw [Hsg.out, decide_eq_false ha, decide_eq_true hb, if_pos (by rfl), Hq.out, wrap_neg])
                go_wp2_with fail
                refine (rneg_any qv _ q1 q2).mono ?_
                rintro e w6 ⟨rfl, hn6⟩
                go_wp2_with fail
                go_ret
                exact ⟨ret_int Hres.out, hbf.trans (hn6.mono hszf)⟩
              · have Hres := Lib.hid (show qv = wrap64 (a.tdiv b) by rw [Hsg.out, decide_eq_false ha, decide_eq_false hb, if_neg (by decide), Hq.out])
                go_wp2_with fail
                go_ret
                exact ⟨ret_int Hres.out, hbf⟩
end Go.Proofs.Ytjokcofbabfcfaa
