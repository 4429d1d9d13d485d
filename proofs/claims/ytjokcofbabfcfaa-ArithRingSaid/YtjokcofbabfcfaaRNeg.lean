import Derived.Test.YtjokcofbabfcfaaRAdd
namespace Go.Proofs.Ytjokcofbabfcfaa
open Go.RowKit

/-- A number's bits, each the other way, so far. -/
structure Flipped (a : Int) (k : Nat) (L : List Int) : Prop where
  len : L.length = k
  bits : Bit2 L
  eq : val 2 L + a % 2 ^ k = 2 ^ k - 1
theorem Flipped.start (a : Int) : Flipped a 0 [] := ⟨rfl, (fun x h => nomatch h), by rw [show (2 : Int) ^ 0 = 1 from rfl, Int.emod_one]; rfl⟩
theorem Flipped.next {a : Int} {k : Nat} {L : List Int} (h : Flipped a k L) {x : Int} (hx : x = a / 2 ^ k % 2) : Flipped a (k + 1) (L ++ [1 - x]) := by
  refine ⟨by simp [h.len], mem_snoc_bit h.bits (by omega), ?_⟩
  rw [val_snoc, h.len, rest_next, ← hx]
  have e := h.eq
  rw [Int.pow_succ]
  generalize (2 : Int) ^ k = p at *
  have h3 : p * (1 - x) = p - p * x := by rw [Int.mul_sub, Int.mul_one]
  omega
theorem Flipped.full {a : Int} {L : List Int} (h : Flipped a 64 L) : wrap64 (numOf L + 1) = wrap64 (-a) := by
  rw [numOf_val L h.len h.bits]
  have e := h.eq
  unfold wrap64
  omega

set_option maxHeartbeats 1600000 in
theorem rneg_any (a : Int) (w : World) (ha1 : -9223372036854775808 ≤ a) (ha2 : a ≤ 9223372036854775807) :
    Calls Try.prog 22 #[.int .i64 a] w fun e w' => e = .returned (.int .i64 (wrap64 (-a))) ∧ Below w.heap.size w w' := by
  obtain ⟨i0, hi0, hz0, hz1, hz2⟩ := info_parts info_int
  go_enter Try.func22, Try.ntmps22
  go_wp2_with fail
  refine (bits_any a w ha1 ha2).mono ?_
  rintro e w1 ⟨v1, rfl, hown1, hbl1⟩
  obtain ⟨A, ca, rfl, hs1⟩ := own_form hown1
  have hszw := hbl1.size
  clear hown1
  go_wp2_with fail
  go_loopw [4, 5] (fun v i wr => ∃ (k : Nat) (L : List Int), k ≤ 64 ∧ i = .int .i64 k ∧ Flipped a k L ∧ wr.ownsRow w1.heap.size 3 1 v k (i64s L) ∧ Below w1.heap.size w1 wr) (fun _ i _ => 64 - (intOf i).toNat)
  case atStart => exact ⟨0, [], by omega, rfl, Flipped.start a, World.ownsRow_nil _ _ _ _, Below.refl _ _⟩
  case round =>
    obtain ⟨k, L, hk, rfl, hsum, hown, hbl⟩ := hrel
    have Hs := Lib.hid hsum
    clear hsum
    have hszr := hbl.size
    by_cases hlt : k < 64
    · obtain ⟨ad, x, rfl, hcx, hux⟩ := (hs1.below hbl).num hlt
      rw [bitsTo_at a 64 k hlt] at hux
      have hx := Option.some.inj hux
      have hx1 : 0 ≤ x ∧ x < 2 := by omega
      have Hn := Lib.hid (Hs.out.next (x := x) hx.symm)
      clear hux hx
      have hd : decide ((k : Int) < 64) = true := decide_eq_true (by omega)
      go_wp2_with (at_builtin; refine wpList_push _ _ 34 3 i0 _ _ 8 rfl rfl Try.underlying34 hi0 hz0 hz1 hz2 rfl w1.heap.size _ _ _ hown rfl rfl rfl (by omega) (by omega) hszr ?_; intro v' w3 hown3 hg3 hb3 hs3)
      go_roundw
      case rel => exact ⟨k + 1, L ++ [1 - x], by omega, by go_num, Hn.out, by simpa [i64s] using hown3, hbl.trans hb3⟩
      case measure => simp [intOf] <;> omega
    · have hd : decide ((k : Int) < 64) = false := decide_eq_false (by omega)
      have hfull := Hs.out
      rw [show k = 64 by omega] at hfull
      have hown2 := hown
      rw [show k = 64 by omega] at hown2
      obtain ⟨C, cc, rfl, hs3⟩ := own_form hown2
      have hbf := hbl1.trans (hbl.mono hszw)
      obtain ⟨q, hq⟩ : ∃ q, q = numOf L := ⟨_, rfl⟩
      have hq1 : -9223372036854775808 ≤ q ∧ q ≤ 9223372036854775807 := by rw [hq, numOf_val L hfull.len hfull.bits]; exact wrap_range _
      have Hbits := Lib.hid hfull.bits
      have hnum := hfull.full
      rw [← hq] at hnum
      have Hnum := Lib.hid hnum
      have Hq := Lib.hid hq
      have hszf := hbf.size
      clear hfull hown hown2 hnum hq
      go_wp2_with (go_at_call 29; refine (number_any C cc L _ hs3 Hbits.out).mono ?_; rw [← Hq.out]; rintro e w' ⟨rfl, rfl⟩)
      refine (radd_any q 1 _ hq1.1 hq1.2 (by omega) (by omega)).mono ?_
      rintro e w5 ⟨rfl, hb5⟩
      go_wp2_with fail
      go_ret
      exact ⟨ret_int Hnum.out, hbf.trans (hb5.mono hszf)⟩
end Go.Proofs.Ytjokcofbabfcfaa
