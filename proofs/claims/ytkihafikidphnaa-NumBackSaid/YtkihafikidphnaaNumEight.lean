import Derived.Test.YtkihafikidphnaaAwake
namespace Go.Proofs.Ytkihafikidphnaa
open Go.RowKit

theorem bytes_range (n : Int) : ∀ x ∈ bytesOf n, 0 ≤ x ∧ x < 256 := by
  intro x hx
  simp only [bytesOf, List.mem_map] at hx
  obtain ⟨j, _, rfl⟩ := hx
  unfold byteAt
  omega

set_option maxHeartbeats 800000 in
theorem eight_walk (w : World) (n : Int) (hn : -9223372036854775808 ≤ n ∧ n ≤ 9223372036854775807) (A : Option Addr) (m c : Nat) (b : List Int) (hs : Sl w A m (u8s b)) (hb : ∀ x ∈ b, 0 ≤ x ∧ x ≤ 255) (hm : m ≤ 9223372036854775807) :
    Calls Try.prog 3 #[.int .i64 n, .slice A m c] w fun e w' => e = .returned (.bool true) ∧ Below w.heap.size w w' := by
  obtain ⟨hn1, hn2⟩ := hn
  have Hb := Lib.hid (fun x hx => (show 0 ≤ x ∧ x < 256 from by have := hb x hx; omega) : ∀ x ∈ b, 0 ≤ x ∧ x < 256)
  clear hb
  by_cases hlong : 100 < m
  · go_enter Try.func3, Try.ntmps3
    go_wp2_with (go_at_call 7; refine (awake_any _).mono ?_; rintro e w1 ⟨rfl, hb1⟩)
    go_ret
    exact ⟨rfl, hb1⟩
  · go_enter Try.func3, Try.ntmps3
    go_wp2_with fail
    refine (awake_any _).mono ?_
    rintro e w1 ⟨rfl, hb1⟩
    go_wp2_with fail
    refine (get_any _ _ _ _ _ (hs.below hb1) Hb.out (by omega)).mono ?_
    rintro e w2 ⟨hb2, rfl⟩
    have hb12 := hb1.trans (hb2.mono hb1.size)
    clear hb1 hb2
    go_wp2_with fail
    refine (rget_any _ _ _ _ _ (hs.below hb12) Hb.out (by omega)).mono ?_
    rintro e w3 ⟨hb3, rfl⟩
    have hb13 := hb12.trans (hb3.mono hb12.size)
    clear hb12 hb3
    go_wp2_with fail
    refine (put_any _ _).mono ?_
    rintro e w4 ⟨v4, rfl, hown4, hb4⟩
    obtain ⟨A4, c4, rfl, hs4⟩ := own_form hown4
    have hb14 := hb13.trans (hb4.mono hb13.size)
    clear hown4 hb4 hb13
    go_wp2_with fail
    refine (rput_any _ _ hn1 hn2).mono ?_
    rintro e w5 ⟨v5, rfl, hown5, hb5⟩
    obtain ⟨A5, c5, rfl, hs5⟩ := own_form hown5
    have hs45 := hs4.below hb5
    have hb15 := hb14.trans (hb5.mono hb14.size)
    clear hown5 hb5 hb14 hs4
    go_wp2_with fail
    refine (same_yes _ _ _ _ _ _ (bytesOf n) _ hs45 hs5 (by omega) (by omega)).mono ?_
    rintro e w6 ⟨rfl, hb6⟩
    have hb16 := hb15.trans (hb6.mono hb15.size)
    clear hb6 hb15
    go_wp2_with fail
    go_ret
    exact ⟨rfl, hb16⟩
end Go.Proofs.Ytkihafikidphnaa
