import Derived.Test.YtkihafikidphnaaReadInt
import Derived.Test.YtkihafikidphnaaAwake
namespace Go.Proofs.Ytkihafikidphnaa
open Go.RowKit

theorem sh_len : ∀ (f : Nat) (n : Int), (sh f n).length ≤ f
  | 0, _ => by simp [sh]
  | f + 1, n => by
    unfold sh
    split
    · simp
    · simp [sh_len f]

set_option maxHeartbeats 800000 in
theorem rshort_fuel (f : Nat) : ∀ (n : Int) (w : World), f ≤ 20 → 0 ≤ n → n ≤ 9223372036854775807 → n < 128 ^ (f + 1) →
    Calls Try.prog 14 #[.int .i64 n] w fun e w' => ∃ v m, e = .returned v ∧ w'.ownsRow w.heap.size 5 1 v m (u8s (sh (f + 1) n)) ∧ Below w.heap.size w w' := by
  obtain ⟨i0, hi0, hz0, hz1, hz2⟩ := info_parts info_u8
  induction f with
  | zero =>
    intro n w hf h0 h9 h1
    have h2 : n < 128 := by simpa using h1
    clear h1
    go_enter Try.func14, Try.ntmps14
    go_wp2_with fail
    go_ret
    exact ⟨_, 1, rfl, by rw [sh_last _ _ h2]; exact own_new w 5 (u8s [n]) 1 rfl (by omega), below_alloc w _⟩
  | succ f ih =>
    intro n w hf h0 h9 h1
    by_cases h2 : n < 128
    · clear h1
      go_enter Try.func14, Try.ntmps14
      go_wp2_with fail
      go_ret
      exact ⟨_, 1, rfl, by rw [sh_last _ _ h2]; exact own_new w 5 (u8s [n]) 1 rfl (by omega), below_alloc w _⟩
    · have h3 : n / 128 < 128 ^ (f + 1) := Int.ediv_lt_of_lt_mul (by omega) (by rwa [Int.pow_succ] at h1)
      have Ih := Lib.hid ih
      have H3 := Lib.hid h3
      clear ih h1 h3
      go_enter Try.func14, Try.ntmps14
      go_wp2_with fail
      refine (Ih.out _ _ (by omega) (by omega) (by omega) H3.out).mono ?_
      rintro e w1 ⟨v, m, rfl, hown, hbl⟩
      have hml : m ≤ 21 := by
        have := hown.1
        have := sh_len (f + 1) (n / 128)
        simp at *
        omega
      obtain ⟨A, c, rfl, hsl⟩ := own_form hown
      have hown0 := own_below (own_new w 5 [.int .u8 (n % 128 + 128)] 1 rfl (by omega)) hbl
      have hsz := hbl.size
      have hszw : w.heap.size ≤ w1.heap.size := by simp at hsz; omega
      go_wp2_with (at_builtin; refine wpList_cat _ _ 22 5 i0 _ 1 rfl rfl Try.underlying22 hi0 hz0 hz1 hz2 rfl w.heap.size _ _ _ hown0 _ _ _ _ hsl rfl rfl ints_one (by omega) (by omega) hszw ?_; intro v' w2 hown2 hg2 hb2 hs2)
      go_ret
      refine ⟨_, 1 + m, rfl, ?_, (below_alloc w _).trans ((hbl.mono (by simp)).trans hb2)⟩
      rw [sh_more _ _ (by omega)]
      simpa [u8s] using hown2
theorem rshort_any (n : Int) (w : World) (h0 : 0 ≤ n) (h1 : n ≤ 9223372036854775807) :
    Calls Try.prog 14 #[.int .i64 n] w fun e w' => ∃ v m, e = .returned v ∧ w'.ownsRow w.heap.size 5 1 v m (u8s (sh 10 n)) ∧ Below w.heap.size w w' :=
  rshort_fuel 9 n w (by omega) h0 h1 (by omega)
end Go.Proofs.Ytkihafikidphnaa
