import Derived.Test.YtkihafikidphnaaPut
namespace Go.Proofs.Ytkihafikidphnaa
open Go.RowKit

/-- The short bytes of a number, at most f of them. -/
def sh : Nat → Int → List Int
  | 0, _ => []
  | f + 1, n => if n < 128 then [n] else (n % 128 + 128) :: sh f (n / 128)
theorem sh_last (f : Nat) (n : Int) (h : n < 128) : sh (f + 1) n = [n] := by rw [sh, if_pos h]
theorem sh_more (f : Nat) (n : Int) (h : ¬ n < 128) : sh (f + 1) n = (n % 128 + 128) :: sh f (n / 128) := by rw [sh, if_neg h]
/-- A number's turned one. -/
def turned (n : Int) : Int := if n < 0 then -2 * n - 1 else 2 * n
theorem turned_lo {n : Int} (h : n < 0) : turned n = -2 * n - 1 := by rw [turned, if_pos h]
theorem turned_hi {n : Int} (h : ¬ n < 0) : turned n = 2 * n := by rw [turned, if_neg h]

set_option maxHeartbeats 800000 in
theorem write_any (n : Int) (w : World) (h0 : 0 ≤ n) (h1 : n < 18446744073709551616) :
    Calls Try.prog 23 #[.int .u64 n] w fun e w' => ∃ v m, e = .returned v ∧ w'.ownsRow w.heap.size 5 1 v m (u8s (sh 10 n)) ∧ Below w.heap.size w w' := by
  obtain ⟨i0, hi0, hz0, hz1, hz2⟩ := info_parts info_u8
  go_enter Try.func23, Try.ntmps23
  go_wp2
  go_loopw [0, 3] (fun q v wr => ∃ (k : Nat) (r : Int) (out : List Int), k ≤ 9 ∧ q = .int .u64 r ∧ 0 ≤ r ∧ r < 18446744073709551616 ∧ r < 128 ^ (10 - k) ∧ out ++ sh (10 - k) r = sh 10 n ∧ wr.ownsRow w.heap.size 5 1 v k (u8s out) ∧ Below w.heap.size w wr) (fun q _ _ => (intOf q).toNat)
  case atStart => exact ⟨0, n, [], by omega, rfl, h0, h1, by omega, rfl, World.ownsRow_nil _ _ _ _, Below.refl _ _⟩
  case round =>
    obtain ⟨k, r, out, hk, rfl, r0, r1, r2, hr, hown, hbl⟩ := hrel
    have R2 := Lib.hid r2
    have Hr := Lib.hid hr
    clear r2 hr
    have hsz := hbl.size
    by_cases hlt : r < 128
    · go_wp2_with (at_builtin; refine wpList_push _ _ 22 5 i0 _ _ 1 rfl rfl Try.underlying22 hi0 hz0 hz1 hz2 rfl w.heap.size _ _ _ hown rfl rfl rfl (by omega) (by omega) hsz ?_; intro v' w2 hown2 hg2 hb2 hs2)
      go_ret
      refine ⟨_, k + 1, rfl, ?_, hbl.trans hb2⟩
      rw [← Hr.out, show 10 - k = (9 - k) + 1 by omega, sh_last _ _ hlt]
      simpa [u8s] using hown2
    · have hk8 : k ≤ 8 := by
        rcases (show k ≤ 8 ∨ k = 9 by omega) with h | rfl
        · exact h
        · have := R2.out; simp at this; omega
      go_wp2_with (at_builtin; refine wpList_push _ _ 22 5 i0 _ _ 1 rfl rfl Try.underlying22 hi0 hz0 hz1 hz2 rfl w.heap.size _ _ _ hown rfl rfl rfl (by omega) (by omega) hsz ?_; intro v' w2 hown2 hg2 hb2 hs2)
      go_roundw
      case rel =>
        refine ⟨k + 1, r / 128, out ++ [r % 128 + 128], by omega, rfl, by omega, by omega, ?_, ?_, ?_, hbl.trans hb2⟩
        · have h3 := R2.out
          rw [show 10 - k = (10 - (k + 1)) + 1 by omega, Int.pow_succ] at h3
          exact Int.ediv_lt_of_lt_mul (by omega) h3
        · rw [← Hr.out, show 10 - k = (10 - (k + 1)) + 1 by omega, sh_more _ _ hlt]
          simp
        · simpa [u8s] using hown2
      case measure => simp [intOf] <;> omega

set_option maxHeartbeats 400000 in
theorem turn_any (n : Int) (w : World) (h1 : -9223372036854775808 ≤ n) (h2 : n ≤ 9223372036854775807) :
    Calls Try.prog 28 #[.int .i64 n] w fun e w' => e = .returned (.int .u64 (turned n)) ∧ w' = w := by
  have hs : IntKind.u64.signed = false := rfl
  by_cases h : n < 0
  · have hx := u64_not (IntKind.u64.wrap (IntKind.u64.wrap n * 2)) (by rw [IntKind.wrap_u64]; omega) (by rw [IntKind.wrap_u64]; omega)
    have ht : bits .xor .u64 IntKind.u64.max (IntKind.u64.wrap (IntKind.u64.wrap n * 2)) = turned n := by
      rw [hx, turned_lo h, IntKind.wrap_u64, IntKind.wrap_u64]; omega
    have Ht := Lib.hid ht
    clear hx ht
    go_enter Try.func28, Try.ntmps28
    go_wp2
    go_ret
    exact ⟨ret_int Ht.out, rfl⟩
  · have Ht := Lib.hid (turned_hi h)
    go_enter Try.func28, Try.ntmps28
    go_wp2
    go_ret
    exact ⟨ret_int (by rw [Ht.out]; omega), rfl⟩

theorem turned_range {n : Int} (h1 : -9223372036854775808 ≤ n) (h2 : n ≤ 9223372036854775807) : 0 ≤ turned n ∧ turned n < 18446744073709551616 := by
  unfold turned; split <;> omega

set_option maxHeartbeats 400000 in
theorem zig_any (n : Int) (w : World) (h1 : -9223372036854775808 ≤ n) (h2 : n ≤ 9223372036854775807) :
    Calls Try.prog 19 #[.int .i64 n] w fun e w' => ∃ v m, e = .returned v ∧ w'.ownsRow w.heap.size 5 1 v m (u8s (sh 10 (turned n))) ∧ Below w.heap.size w w' := by
  obtain ⟨t1, t2⟩ := turned_range h1 h2
  go_enter Try.func19, Try.ntmps19
  go_wp2_with (first
    | (go_at_call 28; refine (turn_any n _ h1 h2).mono ?_; rintro e w1 ⟨rfl, rfl⟩)
    | (go_at_call 23; refine (write_any _ _ t1 t2).mono ?_; rintro e w2 ⟨v, m, rfl, hown, hbl⟩))
  go_ret
  exact ⟨_, _, rfl, hown, hbl⟩

set_option maxHeartbeats 400000 in
theorem short_any (n : Int) (w : World) (h1 : 0 ≤ n) (h2 : n ≤ 9223372036854775807) :
    Calls Try.prog 13 #[.int .i64 n] w fun e w' => ∃ v m, e = .returned (.tuple #[v, .int .i64 0]) ∧ w'.ownsRow w.heap.size 5 1 v m (u8s (sh 10 n)) ∧ Below w.heap.size w w' := by
  go_enter Try.func13, Try.ntmps13
  go_wp2_with (go_at_call 23; refine (write_any _ _ (by omega) (by omega)).mono ?_; rintro e w2 ⟨v, m, rfl, hown, hbl⟩)
  go_ret2
  exact ⟨_, _, rfl, hown, hbl⟩

set_option maxHeartbeats 400000 in
theorem short_neg (n : Int) (w : World) (h1 : n < 0) :
    Calls Try.prog 13 #[.int .i64 n] w fun e w' => e = .returned (.tuple #[.slice none 0 0, .int .i64 2]) ∧ w' = w := by
  go_enter Try.func13, Try.ntmps13
  go_wp2_with (fail)
  go_ret2
  exact ⟨rfl, rfl⟩
end Go.Proofs.Ytkihafikidphnaa
