import Derived.Test.YtcfpjbbahpjhdaaRowCalls
namespace Go.Proofs.Ytcfpjbbahpjhdaa
open Go.RowKit

theorem rfits_is (q : Bool) (A B : Option Addr) (n c m d : Nat) (ts l : List Int) (w : World) (hx : Sl w A n (i64s ts)) (hy : Sl w B m (i64s l)) (hn : n ≤ 1000) (hm : m ≤ 1000) (hq : q = fitsOf ts l) :
    Calls Try.prog 11 #[.slice A n c, .slice B m d] w fun e w' => e = .returned (.bool q) ∧ Below w.heap.size w w' := by
  rw [hq]; exact (rfits_any A B n c m d ts l w hx hy (by omega) (by omega)).mono fun e w' ⟨h, h'⟩ => ⟨h, by rw [h']; exact Below.refl _ _⟩
theorem rrright_is (q : Bool) (A : Option Addr) (n c : Nat) (ts : List Int) (w : World) (hx : Sl w A n (i64s ts)) (hn : n ≤ 1000) (hq : q = rightOf ts) :
    Calls Try.prog 9 #[.slice A n c] w fun e w' => e = .returned (.bool q) ∧ Below w.heap.size w w' :=
  (rright_is q A n c ts w hx (by omega) hq).mono fun e w' ⟨h, h'⟩ => ⟨h, by rw [h']; exact Below.refl _ _⟩
theorem rsize_is (q : Int) (A : Option Addr) (n c : Nat) (ts : List Int) (w : World) (hx : Sl w A n (i64s ts)) (hn : n ≤ 1000) (hq : q = sizeRow ts) :
    Calls Try.prog 13 #[.slice A n c] w fun e w' => e = .returned (.int .i64 q) ∧ Below w.heap.size w w' := by
  rw [hq]; exact (rsize_any A n c ts w hx (by omega)).mono fun e w' ⟨h, h'⟩ => ⟨h, by rw [h']; exact Below.refl _ _⟩
theorem rread_is (L : List Int) (err : Int) (A B : Option Addr) (n c m d : Nat) (ts b : List Int) (w : World) (hx : Sl w A n (i64s ts)) (hy : Sl w B m (u8s b)) (hn : n ≤ 1000) (hm : m ≤ 1000) (hmd : m ≤ d) (hb : ∀ x ∈ b, 0 ≤ x ∧ x < 256) (hr : readRow ts b = (L, err)) :
    Calls Try.prog 18 #[.slice A n c, .slice B m d] w fun e w' => ∃ v k, e = .returned (.tuple #[v, .int .i64 err]) ∧ w'.ownsRow w.heap.size 3 1 v k (i64s L) ∧ Below w.heap.size w w' := by
  have h := rread_any A B n c m d ts b w hx hy (by omega) hm hmd hb
  rw [hr] at h; exact h
theorem same4_is (q : Bool) (A B : Option Addr) (n m c d : Nat) (xs ys : List Int) (w : World) (hx : Sl w A n (u8s xs)) (hy : Sl w B m (u8s ys)) (hn : n ≤ 9223372036854775807) (hm : m ≤ 9223372036854775807) (hq : q = decide (xs = ys)) :
    Calls Try.prog 15 #[.slice A n c, .slice B m d] w fun e w' => e = .returned (.bool q) ∧ Below w.heap.size w w' := by
  rw [hq]
  exact (same_any A B n m c d xs ys w hx hy hn hm).mono fun e w' ⟨h, k, hk⟩ => ⟨h, by rw [hk]; exact below_drewN (Below.refl _ _) k⟩
theorem ints_is (q : Bool) (A B : Option Addr) (n m c d : Nat) (xs ys : List Int) (w : World) (hx : Sl w A n (i64s xs)) (hy : Sl w B m (i64s ys)) (hn : n ≤ 9223372036854775807) (hm : m ≤ 9223372036854775807) (hq : q = decide (xs = ys)) :
    Calls Try.prog 19 #[.slice A n c, .slice B m d] w fun e w' => e = .returned (.bool q) ∧ Below w.heap.size w w' := by
  rw [hq]
  exact (ints_any A B n m c d xs ys w hx hy hn hm).mono fun e w' ⟨h, k, hk⟩ => ⟨h, by rw [hk]; exact below_drewN (Below.refl _ _) k⟩

theorem few_any (A B : Option Addr) (n c m d : Nat) (w : World) (hn : n ≤ 9223372036854775807) (hm : m ≤ 9223372036854775807) :
    Calls Try.prog 7 #[.slice A n c, .slice B m d] w fun e w' => e = .returned (.bool (decide (n ≤ 20) && decide (m ≤ 20))) ∧ Below w.heap.size w w' := by
  by_cases h1 : n ≤ 20
  · have h1' : decide ((n : Int) ≤ 20) = true := decide_eq_true (by omega)
    by_cases h2 : m ≤ 20
    · have h2' : decide ((m : Int) ≤ 20) = true := decide_eq_true (by omega)
      rw [decide_eq_true h1, decide_eq_true h2]
      go_enter Try.func7, Try.ntmps7
      go_wp2
      go_ret
      exact ⟨rfl, Below.refl _ _⟩
    · have h2' : decide ((m : Int) ≤ 20) = false := decide_eq_false (by omega)
      rw [decide_eq_true h1, decide_eq_false h2]
      go_enter Try.func7, Try.ntmps7
      go_wp2
      go_ret
      exact ⟨rfl, Below.refl _ _⟩
  · have h1' : decide ((n : Int) ≤ 20) = false := decide_eq_false (by omega)
    rw [decide_eq_false h1]
    go_enter Try.func7, Try.ntmps7
    go_wp2
    go_ret
    exact ⟨rfl, Below.refl _ _⟩
theorem few_is (q : Bool) (A B : Option Addr) (n c m d : Nat) (w : World) (hn : n ≤ 9223372036854775807) (hm : m ≤ 9223372036854775807) (hq : q = (decide (n ≤ 20) && decide (m ≤ 20))) :
    Calls Try.prog 7 #[.slice A n c, .slice B m d] w fun e w' => e = .returned (.bool q) ∧ Below w.heap.size w w' := by
  rw [hq]; exact few_any A B n c m d w hn hm

set_option maxHeartbeats 800000 in
theorem awake4_any (w : World) : Calls Try.prog 6 #[] w fun e w' => e = .returned (.bool true) ∧ Below w.heap.size w w' := by
  go_enter Try.func6, Try.ntmps6
  have hb0 := (below_alloc w (.cells #[.int .i64 1, .int .i64 2] 3))
  have hs1 : Sl (w.alloc (.cells #[.int .i64 1, .int .i64 2] 3)) (some ⟨w.heap.size, 0, none⟩) 2 (i64s [1, 2]) := Sl.new_ w 3 (i64s [1, 2]) 2 rfl
  have hb1 := below_alloc (w.alloc (.cells #[.int .i64 1, .int .i64 2] 3)) (.cells #[.int .i64 (-1), .int .i64 1] 3)
  have hs2 : Sl ((w.alloc (.cells #[.int .i64 1, .int .i64 2] 3)).alloc (.cells #[.int .i64 (-1), .int .i64 1] 3)) (some ⟨(w.alloc (.cells #[.int .i64 1, .int .i64 2] 3)).heap.size, 0, none⟩) 2 (i64s [-1, 1]) := Sl.new_ (w.alloc (.cells #[.int .i64 1, .int .i64 2] 3)) 3 (i64s [-1, 1]) 2 rfl
  have hs1' := hs1.below hb1
  have hb2 := hb0.trans (hb1.mono (by simp))
  go_wp2_with fail
  generalize hwa : w.alloc (.cells #[.int .i64 1, .int .i64 2] 3) = wa at *
  have hsz : wa.heap.size = w.heap.size + 1 := by rw [← hwa]; simp
  rw [← hsz]
  generalize hwb : wa.alloc (.cells #[.int .i64 (-1), .int .i64 1] 3) = wb at *
  clear hwa hwb hb0 hb1 hsz
  refine (row_write_is [1, 1] 0 _ _ 2 2 2 2 [1, 2] [-1, 1] wb hs1' hs2 (by omega) (by omega) (by unfold I64; decide) (by decide)).mono ?_
  rintro e w3 ⟨v3, k3, rfl, hown3, hb3⟩
  obtain ⟨A3, c3, rfl, hs3⟩ := own_form hown3
  have hk3 : k3 = 2 := own_len hown3
  subst hk3
  have hb3' := hb2.trans (hb3.mono hb2.size)
  have hs3' := hs3.below (below_alloc w3 (.cells #[.int .u8 1, .int .u8 1] 5))
  clear hown3 hb3
  go_wp2_with fail
  refine (same4_is true A3 _ 2 2 c3 2 [1, 1] [1, 1] _ hs3' (Sl.new_ w3 5 (u8s [1, 1]) 2 rfl) (by omega) (by omega) rfl).mono ?_
  rintro e w4 ⟨rfl, hb4⟩
  go_wp2_with fail
  go_ret
  exact ⟨rfl, hb3'.trans ((below_alloc w3 (.cells #[.int .u8 1, .int .u8 1] 5)).trans (hb4.mono (by simp)) |>.mono hb3'.size)⟩
end Go.Proofs.Ytcfpjbbahpjhdaa
