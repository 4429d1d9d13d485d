import Derived.Test.YtjokcofbabfcfaaRLess
namespace Go.Proofs.Ytjokcofbabfcfaa
open Go.RowKit




/-- How far a number is from nought, as 65 bits, the highest first. -/
def highOf (a : Int) : List Int := 0 :: (bitsTo (if a < 0 then wrap64 (-a) else a) 64).reverse
theorem high_length (a : Int) : (highOf a).length = 65 := by simp [highOf, bitsTo_length]
theorem high_bit (a : Int) : Bit2 (highOf a) := by
  intro x hx
  simp only [highOf, List.mem_cons] at hx
  rcases hx with rfl | hx
  · omega
  · exact bit2_rev (bits_bit _ _) x hx
theorem high_val {a : Int} (h1 : -9223372036854775808 ≤ a) (h2 : a ≤ 9223372036854775807) : hv (highOf a) = if a < 0 then -a else a := by
  unfold highOf
  rw [hv_cons, Int.mul_zero, Int.zero_add]
  unfold hv
  rw [List.reverse_reverse, val_bits]
  split
  · unfold wrap64; omega
  · omega

set_option maxHeartbeats 1600000 in
theorem rhigh_bits (a p : Int) (hp : p = if a < 0 then wrap64 (-a) else a) (w : World) (ha1 : -9223372036854775808 ≤ a) (ha2 : a ≤ 9223372036854775807) :
    Calls Try.prog 30 #[.int .i64 a] w fun e w' => ∃ v, e = .returned v ∧ w'.ownsRow w.heap.size 3 1 v 65 (i64s (highOf a)) ∧ Below w.heap.size w w' := by
  obtain ⟨i0, hi0, hz0, hz1, hz2⟩ := info_parts info_int
  have hp1 : -9223372036854775808 ≤ p ∧ p ≤ 9223372036854775807 := by
    rw [hp]; split
    · exact wrap_range _
    · exact ⟨ha1, ha2⟩
  have Hhigh := Lib.hid (show highOf a = 0 :: (bitsTo p 64).reverse by unfold highOf; rw [hp])
  by_cases hneg : a < 0
  · rw [if_pos hneg] at hp
    go_enter Try.func30, Try.ntmps30
    go_wp2_with fail
    refine (rneg_is p a w ha1 ha2 hp).mono ?_
    rintro e w0 ⟨rfl, hb0⟩
    clear hp
    go_wp2_with fail
    refine (bits_any p _ hp1.1 hp1.2).mono ?_
    rintro e w1 ⟨v1, rfl, hown1, hbl1⟩
    obtain ⟨A, ca, rfl, hs1⟩ := own_form hown1
    have hbw := hb0.trans (hbl1.mono hb0.size)
    have hszw := hbw.size
    clear hown1 hbl1
    have ho0 : (w1.alloc (.cells #[.int .i64 0] 3)).ownsRow w1.heap.size 3 1 (.slice (some ⟨w1.heap.size, 0, none⟩) 1 1) 1 (i64s (0 :: ((bitsTo p 64).drop 64).reverse)) := by
      rw [List.drop_of_length_le (by rw [bitsTo_length]; omega)]
      exact own_new w1 3 [.int .i64 0] 1 rfl (by omega)
    have hba := below_alloc w1 (.cells #[.int .i64 0] 3)
    go_wp2_with fail
    go_loopw [4, 5] (fun v i wr => ∃ (j : Nat) (iv : Int), j ≤ 64 ∧ i = .int .i64 iv ∧ iv = (j : Int) - 1 ∧ wr.ownsRow w1.heap.size 3 1 v (65 - j) (i64s (0 :: ((bitsTo p 64).drop j).reverse)) ∧ Below w1.heap.size w1 wr) (fun _ i _ => (intOf i + 1).toNat)
    case atStart => exact ⟨64, 63, by omega, rfl, by omega, ho0, hba⟩
    case round =>
      obtain ⟨j, iv, hj, rfl, hiv, hown, hbl⟩ := hrel
      have hszr := hbl.size
      rcases j with _ | j
      · obtain rfl : iv = -1 := by omega
        have hown2 := own_base hown hszw
        rw [List.drop_zero, ← Hhigh.out] at hown2
        have hbf := hbw.trans (hbl.mono hszw)
        clear hiv ho0 hba hown
        go_wp2
        go_ret
        exact ⟨_, rfl, hown2, hbf⟩
      · obtain rfl : iv = (j : Int) := by omega
        clear hiv ho0 hba
        obtain ⟨ad, x, rfl, hcx, hux⟩ := (hs1.below hbl).num (k := j) (by omega)
        have Hn := Lib.hid (show (bitsTo p 64).drop j = x :: (bitsTo p 64).drop (j + 1) from drop_at _ _ _ hux)
        clear hux
        have hd : decide (0 ≤ (j : Int)) = true := decide_eq_true (by omega)
        go_wp2_with (at_builtin; refine wpList_push _ _ 34 3 i0 _ _ 8 rfl rfl Try.underlying34 hi0 hz0 hz1 hz2 rfl w1.heap.size _ _ _ hown rfl rfl rfl (by omega) (by omega) hszr ?_; intro v' w3 hown3 hg3 hb3 hs3)
        go_roundw
        case rel =>
          refine ⟨j, (j : Int) - 1, by omega, by go_num, rfl, ?_, hbl.trans hb3⟩
          rw [Hn.out, List.reverse_cons, show 65 - j = 65 - (j + 1) + 1 by omega]
          simpa [i64s] using hown3
        case measure => simp [intOf] <;> omega
  · rw [if_neg hneg] at hp
    subst hp
    have hb0 := Below.refl w.heap.size w
    go_enter Try.func30, Try.ntmps30
    go_wp2_with fail
    refine (bits_any p _ hp1.1 hp1.2).mono ?_
    rintro e w1 ⟨v1, rfl, hown1, hbl1⟩
    obtain ⟨A, ca, rfl, hs1⟩ := own_form hown1
    have hbw := hb0.trans (hbl1.mono hb0.size)
    have hszw := hbw.size
    clear hown1 hbl1
    have ho0 : (w1.alloc (.cells #[.int .i64 0] 3)).ownsRow w1.heap.size 3 1 (.slice (some ⟨w1.heap.size, 0, none⟩) 1 1) 1 (i64s (0 :: ((bitsTo p 64).drop 64).reverse)) := by
      rw [List.drop_of_length_le (by rw [bitsTo_length]; omega)]
      exact own_new w1 3 [.int .i64 0] 1 rfl (by omega)
    have hba := below_alloc w1 (.cells #[.int .i64 0] 3)
    go_wp2_with fail
    go_loopw [4, 5] (fun v i wr => ∃ (j : Nat) (iv : Int), j ≤ 64 ∧ i = .int .i64 iv ∧ iv = (j : Int) - 1 ∧ wr.ownsRow w1.heap.size 3 1 v (65 - j) (i64s (0 :: ((bitsTo p 64).drop j).reverse)) ∧ Below w1.heap.size w1 wr) (fun _ i _ => (intOf i + 1).toNat)
    case atStart => exact ⟨64, 63, by omega, rfl, by omega, ho0, hba⟩
    case round =>
      obtain ⟨j, iv, hj, rfl, hiv, hown, hbl⟩ := hrel
      have hszr := hbl.size
      rcases j with _ | j
      · obtain rfl : iv = -1 := by omega
        have hown2 := own_base hown hszw
        rw [List.drop_zero, ← Hhigh.out] at hown2
        have hbf := hbw.trans (hbl.mono hszw)
        clear hiv ho0 hba hown
        go_wp2
        go_ret
        exact ⟨_, rfl, hown2, hbf⟩
      · obtain rfl : iv = (j : Int) := by omega
        clear hiv ho0 hba
        obtain ⟨ad, x, rfl, hcx, hux⟩ := (hs1.below hbl).num (k := j) (by omega)
        have Hn := Lib.hid (show (bitsTo p 64).drop j = x :: (bitsTo p 64).drop (j + 1) from drop_at _ _ _ hux)
        clear hux
        have hd : decide (0 ≤ (j : Int)) = true := decide_eq_true (by omega)
        go_wp2_with (at_builtin; refine wpList_push _ _ 34 3 i0 _ _ 8 rfl rfl Try.underlying34 hi0 hz0 hz1 hz2 rfl w1.heap.size _ _ _ hown rfl rfl rfl (by omega) (by omega) hszr ?_; intro v' w3 hown3 hg3 hb3 hs3)
        go_roundw
        case rel =>
          refine ⟨j, (j : Int) - 1, by omega, by go_num, rfl, ?_, hbl.trans hb3⟩
          rw [Hn.out, List.reverse_cons, show 65 - j = 65 - (j + 1) + 1 by omega]
          simpa [i64s] using hown3
        case measure => simp [intOf] <;> omega

theorem rhigh_any (a : Int) (w : World) (ha1 : -9223372036854775808 ≤ a) (ha2 : a ≤ 9223372036854775807) :
    Calls Try.prog 30 #[.int .i64 a] w fun e w' => ∃ v, e = .returned v ∧ w'.ownsRow w.heap.size 3 1 v 65 (i64s (highOf a)) ∧ Below w.heap.size w w' :=
  rhigh_bits a _ rfl w ha1 ha2
end Go.Proofs.Ytjokcofbabfcfaa
