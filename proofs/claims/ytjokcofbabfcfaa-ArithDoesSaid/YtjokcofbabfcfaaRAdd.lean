import Derived.Test.YtjokcofbabfcfaaNumber
namespace Go.Proofs.Ytjokcofbabfcfaa
open Go.RowKit

abbrev Bit2 (L : List Int) : Prop := ∀ x ∈ L, 0 ≤ x ∧ x < 2

/-- One bit more of a number's rest. -/
theorem rest_next (a : Int) (k : Nat) : a % 2 ^ (k + 1) = a % 2 ^ k + 2 ^ k * (a / 2 ^ k % 2) := by
  have hp : (0 : Int) < 2 ^ k := Int.pow_pos (by omega)
  have h1 := Int.emod_add_mul_ediv a (2 ^ k)
  have h3 := Int.emod_nonneg a (show (2 : Int) ^ k ≠ 0 by omega)
  have h4 := Int.emod_lt_of_pos a hp
  rw [Int.pow_succ]
  generalize (2 : Int) ^ k = p at *
  generalize hq : a / p = q at *
  generalize hr : a % p = r at *
  have h5 : q = 2 * (q / 2) + q % 2 := by omega
  have h6 : 0 ≤ q % 2 ∧ q % 2 < 2 := by omega
  generalize q / 2 = d at *
  generalize q % 2 = s at *
  have e : a = (r + p * s) + (p * 2) * d := by
    rw [← h1, h5, Int.mul_add, Int.mul_assoc]; omega
  have h7 : 0 ≤ p * s ∧ p * s ≤ p := by
    rcases (show s = 0 ∨ s = 1 by omega) with rfl | rfl <;> omega
  rw [e, Int.add_mul_emod_self_left, Int.emod_eq_of_lt (by omega) (by omega)]

theorem wrap_of {x y m : Int} (h : x = y + 18446744073709551616 * m) : wrap64 x = wrap64 y := by
  unfold wrap64; omega
theorem wrap_idem (x : Int) : wrap64 (wrap64 x) = wrap64 x := by unfold wrap64; omega
theorem wrap_range (x : Int) : -9223372036854775808 ≤ wrap64 x ∧ wrap64 x ≤ 9223372036854775807 := by unfold wrap64; omega
theorem wrap_is (x : Int) : ∃ m, wrap64 x = x + 18446744073709551616 * m := ⟨(wrap64 x - x) / 18446744073709551616, by unfold wrap64; omega⟩
theorem wrap_add (x y : Int) : wrap64 (wrap64 x + wrap64 y) = wrap64 (x + y) := by
  unfold wrap64; omega

theorem mem_snoc_bit {L : List Int} {u : Int} (h : Bit2 L) (hu : 0 ≤ u ∧ u < 2) : Bit2 (L ++ [u]) := by
  intro x hx
  rcases List.mem_append.1 hx with h1 | h1
  · exact h x h1
  · simp at h1; rw [h1]; exact hu

/-- The sum of two numbers, bit by bit, so far. -/
structure Summed (a b : Int) (k : Nat) (L : List Int) (c : Int) : Prop where
  len : L.length = k
  bits : Bit2 L
  carry : 0 ≤ c ∧ c < 2
  eq : val 2 L + 2 ^ k * c = a % 2 ^ k + b % 2 ^ k
theorem Summed.start (a b : Int) : Summed a b 0 [] 0 := ⟨rfl, (fun x h => nomatch h), by omega, by rw [show (2 : Int) ^ 0 = 1 from rfl, Int.emod_one, Int.emod_one]; rfl⟩
theorem Summed.next {a b : Int} {k : Nat} {L : List Int} {c : Int} (h : Summed a b k L c) {n : Int} (hn : n = a / 2 ^ k % 2 + b / 2 ^ k % 2 + c) : Summed a b (k + 1) (L ++ [n % 2]) (n / 2) := by
  have hc := h.carry
  refine ⟨by simp [h.len], mem_snoc_bit h.bits (by omega), by omega, ?_⟩
  rw [val_snoc, h.len, rest_next, rest_next]
  have e := h.eq
  rw [Int.pow_succ]
  have h2 : n = 2 * (n / 2) + n % 2 := by omega
  generalize (2 : Int) ^ k = p at *
  generalize a / p % 2 = x at *
  generalize b / p % 2 = y at *
  generalize n / 2 = d at *
  generalize n % 2 = s at *
  have h3 : p * 2 * d + p * s = p * n := by rw [h2, Int.mul_add, Int.mul_assoc]
  have h4 : p * n = p * x + p * y + p * c := by rw [hn, Int.mul_add, Int.mul_add]
  omega
theorem Summed.full {a b : Int} {L : List Int} {c : Int} (h : Summed a b 64 L c) : numOf L = wrap64 (a + b) := by
  rw [numOf_val L h.len h.bits]
  have e := h.eq
  have hr := val_range 2 (by omega) L h.bits
  rw [h.len] at hr
  have hc := h.carry
  unfold wrap64
  omega

set_option maxHeartbeats 1600000 in
theorem radd_any (a b : Int) (w : World) (ha1 : -9223372036854775808 ≤ a) (ha2 : a ≤ 9223372036854775807) (hb1 : -9223372036854775808 ≤ b) (hb2 : b ≤ 9223372036854775807) :
    Calls Try.prog 24 #[.int .i64 a, .int .i64 b] w fun e w' => e = .returned (.int .i64 (wrap64 (a + b))) ∧ Below w.heap.size w w' := by
  obtain ⟨i0, hi0, hz0, hz1, hz2⟩ := info_parts info_int
  go_enter Try.func24, Try.ntmps24
  go_wp2_with fail
  refine (bits_any a w ha1 ha2).mono ?_
  rintro e w1 ⟨v1, rfl, hown1, hbl1⟩
  obtain ⟨A, ca, rfl, hs1⟩ := own_form hown1
  clear hown1
  go_wp2_with fail
  refine (bits_any b w1 hb1 hb2).mono ?_
  rintro e w2 ⟨v2, rfl, hown2, hbl2⟩
  obtain ⟨B, cb, rfl, hs2⟩ := own_form hown2
  have hs1' := hs1.below hbl2
  have hbw := hbl1.trans (hbl2.mono hbl1.size)
  have hszw := hbw.size
  clear hown2 hs1 hbl1 hbl2
  go_wp2_with fail
  go_loopw [7, 8, 9] (fun v q i wr => ∃ (k : Nat) (L : List Int) (c : Int), k ≤ 64 ∧ i = .int .i64 k ∧ q = .int .i64 c ∧ 0 ≤ c ∧ c < 2 ∧ Summed a b k L c ∧ wr.ownsRow w2.heap.size 3 1 v k (i64s L) ∧ Below w2.heap.size w2 wr) (fun _ _ i _ => 64 - (intOf i).toNat)
  case atStart => exact ⟨0, [], 0, by omega, rfl, rfl, by omega, by omega, Summed.start a b, World.ownsRow_nil _ _ _ _, Below.refl _ _⟩
  case round =>
    obtain ⟨k, L, c, hk, rfl, rfl, c1, c2, hsum, hown, hbl⟩ := hrel
    have Hs := Lib.hid hsum
    clear hsum
    have hszr := hbl.size
    by_cases hlt : k < 64
    · obtain ⟨ad, x, rfl, hcx, hux⟩ := (hs1'.below hbl).num hlt
      obtain ⟨bd, y, rfl, hcy, huy⟩ := (hs2.below hbl).num hlt
      rw [bitsTo_at a 64 k hlt] at hux
      rw [bitsTo_at b 64 k hlt] at huy
      have hx := Option.some.inj hux
      have hy := Option.some.inj huy
      have hx1 : 0 ≤ x ∧ x < 2 := by omega
      have hy1 : 0 ≤ y ∧ y < 2 := by omega
      obtain ⟨n, hn⟩ : ∃ n, n = x + y + c := ⟨_, rfl⟩
      have hn1 : 0 ≤ n ∧ n < 6 := by omega
      have Hn := Lib.hid (Hs.out.next (n := n) (by rw [hn, ← hx, ← hy]))
      have hxy : x + y + c = n := hn.symm
      have hd : decide ((k : Int) < 64) = true := decide_eq_true (by omega)
      clear hux huy hx hy hn
      go_wp2
      go_quiet (fail)
      go_wp2_with (at_builtin; refine wpList_push _ _ 34 3 i0 _ _ 8 rfl rfl Try.underlying34 hi0 hz0 hz1 hz2 rfl w2.heap.size _ _ _ hown.drew rfl rfl rfl (by omega) (by omega) hszr ?_; intro v' w3 hown3 hg3 hb3 hs3)
      go_roundw
      case rel => exact ⟨k + 1, L ++ [n % 2], n / 2, by omega, by go_num, rfl, by omega, by omega, Hn.out, by simpa [i64s] using hown3, (below_drewN hbl nq).trans hb3⟩
      case measure => simp [intOf] <;> omega
    · have hd : decide ((k : Int) < 64) = false := decide_eq_false (by omega)
      have hfull := Hs.out
      rw [show k = 64 by omega] at hfull
      have hown2 := hown
      rw [show k = 64 by omega] at hown2
      obtain ⟨C, cc, rfl, hs3⟩ := own_form hown2
      have hbf := hbw.trans (hbl.mono hszw)
      have hn := hfull.full
      have Hbits := Lib.hid hfull.bits
      have Hnum := Lib.hid hn
      clear hfull hown hown2 hn
      go_wp2_with (go_at_call 29; refine (number_any C cc L _ hs3 Hbits.out).mono ?_; rintro e w' ⟨rfl, rfl⟩)
      go_ret
      exact ⟨ret_int Hnum.out, hbf⟩
end Go.Proofs.Ytjokcofbabfcfaa
