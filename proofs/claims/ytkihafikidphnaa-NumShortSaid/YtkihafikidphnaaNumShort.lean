import Derived.Test.YtkihafikidphnaaRShort
namespace Go.Proofs.Ytkihafikidphnaa
open Go.RowKit

set_option maxHeartbeats 1000000 in
theorem nshort_walk (w : World) (n : Int) (hn : -9223372036854775808 ≤ n ∧ n ≤ 9223372036854775807) (A : Option Addr) (m c : Nat) (b : List Int) (hs : Sl w A m (u8s b)) (hb : ∀ x ∈ b, 0 ≤ x ∧ x ≤ 255) (hm : m ≤ 9223372036854775807) :
    Calls Try.prog 4 #[.int .i64 n, .slice A m c] w fun e w' => e = .returned (.bool true) ∧ Below w.heap.size w w' := by
  obtain ⟨hn1, hn2⟩ := hn
  have Hb := Lib.hid (fun x hx => (show 0 ≤ x ∧ x < 256 from by have := hb x hx; omega) : ∀ x ∈ b, 0 ≤ x ∧ x < 256)
  clear hb
  by_cases hlong : 100 < m
  · go_enter Try.func4, Try.ntmps4
    go_wp2_with (go_at_call 7; refine (awake_any _).mono ?_; rintro e w1 ⟨rfl, hb1⟩)
    go_ret
    exact ⟨rfl, hb1⟩
  · by_cases hneg : n < 0
    · go_enter Try.func4, Try.ntmps4
      go_wp2_with fail
      refine (awake_any _).mono ?_
      rintro e w1 ⟨rfl, hb1⟩
      go_wp2_with fail
      refine (short_neg _ _ hneg).mono ?_
      rintro e w2 ⟨rfl, rfl⟩
      go_wp2_with fail
      refine (long_any _ _ _ _ _ (hs.below hb1) Hb.out hm).mono ?_
      rintro e w3 ⟨rfl, rfl⟩
      go_wp2_with fail
      refine (rlong_any _ _ _ _ _ (hs.below hb1) Hb.out hm).mono ?_
      rintro e w4 ⟨rfl, rfl⟩
      go_wp2_with fail
      go_ret
      exact ⟨rfl, hb1⟩
    · go_enter Try.func4, Try.ntmps4
      go_wp2_with fail
      refine (awake_any _).mono ?_
      rintro e w1 ⟨rfl, hb1⟩
      go_wp2_with fail
      refine (short_any n _ (by omega) hn2).mono ?_
      rintro e w2 ⟨v2, m2, rfl, hown2, hb2⟩
      obtain ⟨A2, c2, rfl, hs2⟩ := own_form hown2
      have hm2 := hs2.1
      have hb12 := hb1.trans (hb2.mono hb1.size)
      have hl2 : m2 ≤ 10 := by have := sh_len 10 n; simp at hm2; omega
      have Hm2 := Lib.hid hm2
      clear hown2 hb1 hb2 hm2
      go_wp2_with fail
      refine (rshort_any n _ (by omega) hn2).mono ?_
      rintro e w3 ⟨v3, m3, rfl, hown3, hb3⟩
      obtain ⟨A3, c3, rfl, hs3⟩ := own_form hown3
      have hm3 := hs3.1
      have hb13 := hb12.trans (hb3.mono hb12.size)
      have hl3 : m3 ≤ 10 := by have := sh_len 10 n; simp at hm3; omega
      have Hm3 := Lib.hid hm3
      have hs23 := hs2.below hb3
      clear hown3 hb12 hb3 hs2 hm3
      go_wp2_with fail
      refine (same_yes _ _ _ _ _ _ (sh 10 n) _ hs23 hs3 (by omega) (by omega)).mono ?_
      rintro e w4 ⟨rfl, hb4⟩
      have hb14 := hb13.trans (hb4.mono hb13.size)
      clear hb13 hb4
      go_wp2_with fail
      refine (long_any _ _ _ _ _ (hs.below hb14) Hb.out hm).mono ?_
      rintro e w5 ⟨rfl, rfl⟩
      go_wp2_with fail
      refine (rlong_any _ _ _ _ _ (hs.below hb14) Hb.out hm).mono ?_
      rintro e w6 ⟨rfl, rfl⟩
      go_wp2_with fail
      go_ret
      exact ⟨rfl, hb14⟩
end Go.Proofs.Ytkihafikidphnaa
