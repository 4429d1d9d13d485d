import Derived.Test.YtkihafikidphnaaShort
import Derived.Test.YtkihafikidphnaaGet2
namespace Go.Proofs.Ytkihafikidphnaa
open Go.RowKit

theorem same_yes (A B : Option Addr) (n m c d : Nat) (xs : List Int) (w : World) (hx : Sl w A n (u8s xs)) (hy : Sl w B m (u8s xs)) (hn : n ≤ 9223372036854775807) (hm : m ≤ 9223372036854775807) :
    Calls Try.prog 10 #[.slice A n c, .slice B m d] w fun e w' => e = .returned (.bool true) ∧ Below w.heap.size w w' :=
  (same_any A B n m c d xs xs w hx hy hn hm).mono fun e w' ⟨he, k, hw⟩ => ⟨by rw [he, decide_eq_true rfl], by rw [hw]; exact below_drewN (Below.refl _ _) k⟩

theorem own_len {w : World} {base : Nat} {e : TypeId} {v : Value} {n : Nat} {xs : List Value} (h : w.ownsRow base e 1 v n xs) : n = xs.length := by simpa using h.1.symm

set_option maxHeartbeats 800000 in
theorem awake_any (w : World) : Calls Try.prog 7 #[] w fun e w' => e = .returned (.bool true) ∧ Below w.heap.size w w' := by
  go_enter Try.func7, Try.ntmps7
  go_wp2_with fail
  refine (short_any 300 _ (by omega) (by omega)).mono ?_
  rintro e w1 ⟨v1, m1, rfl, hown1, hb1⟩
  obtain ⟨A1, c1, rfl, hs1⟩ := own_form hown1
  have hm1 : m1 = 2 := own_len hown1
  subst hm1
  clear hown1
  go_wp2_with fail
  have hs1' := hs1.below (below_alloc w1 (.cells #[.int .u8 172, .int .u8 2] 5))
  refine (same_yes _ _ _ _ _ _ [172, 2] _ hs1' (Sl.new_ w1 5 (u8s [172, 2]) 2 rfl) (by omega) (by omega)).mono ?_
  rintro e w2 ⟨rfl, hb2⟩
  have hb12 : Below w.heap.size w w2 := (hb1.alloc hb1.size _).trans (hb2.mono (by have := hb1.size; simp; omega))
  clear hb2 hs1 hs1' hb1
  go_wp2_with fail
  refine (zig_any (-1) _ (by omega) (by omega)).mono ?_
  rintro e w3 ⟨v3, m3, rfl, hown3, hb3⟩
  obtain ⟨A3, c3, rfl, hs3⟩ := own_form hown3
  have hm3 : m3 = 1 := own_len hown3
  subst hm3
  clear hown3
  go_wp2_with fail
  have hs3' := hs3.below (below_alloc w3 (.cells #[.int .u8 1] 5))
  refine (same_yes _ _ _ _ _ _ [1] _ hs3' (Sl.new_ w3 5 (u8s [1]) 1 rfl) (by omega) (by omega)).mono ?_
  rintro e w4 ⟨rfl, hb4⟩
  have hb34 : Below w.heap.size w w4 := ((hb12.trans (hb3.mono hb12.size)).alloc (by have := hb12.size; have := hb3.size; omega) _).trans (hb4.mono (by have := hb12.size; have := hb3.size; simp; omega))
  clear hb4 hs3 hs3' hb3 hb12
  go_wp2_with fail
  refine (put_any 0 _).mono ?_
  rintro e w5 ⟨v5, rfl, hown5, hb5⟩
  obtain ⟨A5, c5, rfl, hs5⟩ := own_form hown5
  clear hown5
  go_wp2_with fail
  go_ret
  exact ⟨rfl, hb34.trans (hb5.mono hb34.size)⟩
end Go.Proofs.Ytkihafikidphnaa
