import Derived.Test.YtcfpjbbahpjhdaaRowWrites
namespace Go.Proofs.Ytcfpjbbahpjhdaa
open Go.RowKit

theorem own_max {w : World} {base : Nat} {e : TypeId} {size : Nat} {v : Value} {n : Nat} {xs : List Value} (h : w.ownsRow base e size v n xs) : n ≤ 9223372036854775807 := by
  rcases h.2 with ⟨_, rfl⟩ | ⟨g, cap, cur, _, _, _, h1, h2, _⟩
  · omega
  · simp only [maxLen] at h2; omega

set_option maxRecDepth 100000 in
set_option maxHeartbeats 3200000 in
theorem rowReads_walk (w : World) (A : Option Addr) (n c : Nat) (ts : List Int) (hx : Sl w A n (i64s ts)) (hxb : I64 ts) (hn : n ≤ 9223372036854775807) (B : Option Addr) (m d : Nat) (b : List Int) (hy : Sl w B m (u8s b)) (hyb : ∀ x ∈ b, 0 ≤ x ∧ x < 256) (hm : m ≤ 9223372036854775807) (hmd : m ≤ d) :
    Calls Try.prog 4 #[.slice A n c, .slice B m d] w fun e w' => e = .returned (.bool true) ∧ Below w.heap.size w w' := by
  have Hyb := Lib.hid hyb
  clear hyb hxb
  have hb0 := Below.refl w.heap.size w
  by_cases h1 : 20 < n
  · have h1' : decide (20 < (n : Int)) = true := decide_eq_true (by omega)
    go_enter Try.func4, Try.ntmps4
    go_wp2_with fail
    refine (awake4_any w).mono ?_
    rintro e w1 ⟨rfl, hn1⟩
    have hb1 := hb0.trans (hn1.mono hb0.size)
    go_wp2_with fail
    go_ret
    exact ⟨rfl, hb1⟩
  · have h1' : decide (20 < (n : Int)) = false := decide_eq_false (by omega)
    by_cases h2 : 200 < m
    · have h2' : decide (200 < (m : Int)) = true := decide_eq_true (by omega)
      go_enter Try.func4, Try.ntmps4
      go_wp2_with fail
      refine (awake4_any w).mono ?_
      rintro e w1 ⟨rfl, hn1⟩
      have hb1 := hb0.trans (hn1.mono hb0.size)
      go_wp2_with fail
      go_ret
      exact ⟨rfl, hb1⟩
    · have h2' : decide (200 < (m : Int)) = false := decide_eq_false (by omega)
      obtain ⟨R, f, hr⟩ : ∃ R f, readRow ts b = (R, f) := ⟨_, _, rfl⟩
      have Hr := Lib.hid hr
      clear hr
      go_enter Try.func4, Try.ntmps4
      go_wp2_with fail
      refine (awake4_any w).mono ?_
      rintro e w1 ⟨rfl, hn1⟩
      have hb1 := hb0.trans (hn1.mono hb0.size)
      go_wp2_with fail
      refine (row_read_is R f A B n c m d ts b w1 (hx.below hb1) (hy.below hb1) (by omega) (by omega) hmd Hyb.out Hr.out).mono ?_
      rintro e w2 ⟨v2, k2, rfl, hown2, hn2⟩
      have hmx2 := own_max hown2
      obtain ⟨A2, c2, rfl, hs2⟩ := own_form hown2
      have hcap2 := own_cap hown2
      have hb2 := hb1.trans (hn2.mono hb1.size)
      clear hown2
      go_wp2_with fail
      refine (rread_is R f A B n c m d ts b w2 (hx.below hb2) (hy.below hb2) (by omega) (by omega) hmd Hyb.out Hr.out).mono ?_
      rintro e w3 ⟨v3, k3, rfl, hown3, hn3⟩
      have hmx3 := own_max hown3
      obtain ⟨A3, c3, rfl, hs3⟩ := own_form hown3
      have hcap3 := own_cap hown3
      have hb3 := hb2.trans (hn3.mono hb2.size)
      clear hown3
      go_wp2_with fail
      refine (ints_is true A2 A3 k2 k3 c2 c3 R R w3 (hs2.below hn3) hs3 hmx2 hmx3 (decide_eq_true rfl).symm).mono ?_
      rintro e w4 ⟨rfl, hn4⟩
      have hb4 := hb3.trans (hn4.mono hb3.size)
      go_wp2_with fail
      go_ret
      exact ⟨rfl, hb4⟩
end Go.Proofs.Ytcfpjbbahpjhdaa
