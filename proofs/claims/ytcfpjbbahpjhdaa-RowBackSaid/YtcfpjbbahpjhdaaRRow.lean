import Derived.Test.YtcfpjbbahpjhdaaRow
namespace Go.Proofs.Ytcfpjbbahpjhdaa
open Go.RowKit

set_option maxHeartbeats 1600000 in
theorem rright_any (A : Option Addr) (n c : Nat) (ts : List Int) (w : World) (hx : Sl w A n (i64s ts)) (hn : n ≤ 9223372036854775807) :
    Calls Try.prog 9 #[.slice A n c] w fun e w' => e = .returned (.bool (rightOf ts)) ∧ w' = w := by
  have hlen : ts.length = n := by simpa using hx.1
  have Hlen := Lib.hid hlen
  clear hlen
  go_enter Try.func9, Try.ntmps9
  go_wp2
  go_loop [3] (fun i => ∃ k : Nat, k ≤ n ∧ i = .int .i64 k ∧ ∀ x ∈ ts.take k, x = 1 ∨ x = 2) (fun i => n - (intOf i).toNat)
  case atStart => exact ⟨0, by omega, rfl, by simp⟩
  case round =>
    obtain ⟨k, hk, rfl, hall⟩ := hrel
    have Hall := Lib.hid hall
    clear hall
    by_cases hlt : k < n
    · obtain ⟨ad, x, rfl, hc, hu⟩ := hx.num hlt
      have Hu := Lib.hid hu
      clear hu
      by_cases h1 : x = 1
      · have hnext := Lib.hid (show ∀ y ∈ ts.take (k + 1), y = 1 ∨ y = 2 by
          rw [take_snoc _ _ _ Hu.out]; intro y hy; rcases List.mem_append.1 hy with h | h
          · exact Hall.out y h
          · simp at h; exact .inl (h.trans h1))
        have hx1 : (x != 1) = false := by simpa using h1
        clear h1
        go_wp2
        go_round
        case rel => exact ⟨k + 1, by omega, by go_num, hnext.out⟩
        case measure => simp [intOf]; omega
      · have hx1 : (x != 1) = true := by simpa using h1
        by_cases h2 : x = 2
        · have hnext := Lib.hid (show ∀ y ∈ ts.take (k + 1), y = 1 ∨ y = 2 by
            rw [take_snoc _ _ _ Hu.out]; intro y hy; rcases List.mem_append.1 hy with h | h
            · exact Hall.out y h
            · simp at h; exact .inr (h.trans h2))
          have hx2 : (x != 2) = false := by simpa using h2
          clear h1 h2
          go_wp2
          go_round
          case rel => exact ⟨k + 1, by omega, by go_num, hnext.out⟩
          case measure => simp [intOf]; omega
        · have hx2 : (x != 2) = true := by simpa using h2
          have Hbad := Lib.hid (right_bad (List.mem_of_getElem? Hu.out) h1 h2)
          clear h1 h2
          go_wp2
          go_ret
          exact ⟨ret_bool Hbad.out.symm, rfl⟩
    · have hg := right_good (ts := ts) (by have := Hall.out; rwa [List.take_of_length_le (by rw [Hlen.out]; omega)] at this)
      rw [Hlen.out] at hg
      have Hg := Lib.hid hg
      clear hg
      by_cases h0 : 0 < n
      · have h0' : decide (0 < (n : Int)) = true := decide_eq_true (by omega)
        by_cases h9 : n < 9
        · have h9' : decide ((n : Int) < 9) = true := decide_eq_true (by omega)
          go_wp2
          go_ret
          exact ⟨ret_bool (by rw [Hg.out, decide_eq_true h0, decide_eq_true h9]; rfl), rfl⟩
        · have h9' : decide ((n : Int) < 9) = false := decide_eq_false (by omega)
          go_wp2
          go_ret
          exact ⟨ret_bool (by rw [Hg.out, decide_eq_true h0, decide_eq_false h9]; rfl), rfl⟩
      · have h0' : decide (0 < (n : Int)) = false := decide_eq_false (by omega)
        go_wp2
        go_ret
        exact ⟨ret_bool (by rw [Hg.out, decide_eq_false h0]; rfl), rfl⟩

theorem rright_is (q : Bool) (A : Option Addr) (n c : Nat) (ts : List Int) (w : World) (hx : Sl w A n (i64s ts)) (hn : n ≤ 9223372036854775807) (hq : q = rightOf ts) :
    Calls Try.prog 9 #[.slice A n c] w fun e w' => e = .returned (.bool q) ∧ w' = w := by
  rw [hq]; exact rright_any A n c ts w hx hn

set_option maxHeartbeats 1600000 in
theorem rsize_any (A : Option Addr) (n c : Nat) (ts : List Int) (w : World) (hx : Sl w A n (i64s ts)) (hn : n ≤ 9223372036854775807) :
    Calls Try.prog 13 #[.slice A n c] w fun e w' => e = .returned (.int .i64 (sizeRow ts)) ∧ w' = w := by
  have hlen : ts.length = n := by simpa using hx.1
  have Hlen := Lib.hid hlen
  clear hlen
  by_cases hr : rightOf ts = true
  · have hlen9 : n < 9 := by have := (right_is hr).2.2; rw [Hlen.out] at this; exact this
    have Hs := Lib.hid (show sizeRow ts = sizeSum ts by unfold sizeRow; rw [if_pos hr])
    have Hr := Lib.hid hr.symm
    clear hr
    go_enter Try.func13, Try.ntmps13
    go_wp2_with fail
    refine (rright_is true A n c ts w hx hn Hr.out).mono ?_
    rintro e w1 ⟨rfl, rfl⟩
    go_wp2_with fail
    go_loop [3, 4] (fun v i => ∃ (k : Nat) (q : Int), k ≤ n ∧ i = .int .i64 k ∧ v = .int .i64 q ∧ 0 ≤ q ∧ q ≤ 10 * k ∧ q + sizeSum (ts.drop k) = sizeSum ts) (fun _ i => n - (intOf i).toNat)
    case atStart => exact ⟨0, 0, by omega, rfl, rfl, by omega, by omega, by simp⟩
    case round =>
      obtain ⟨k, q, hk, rfl, rfl, q1, q2, hq⟩ := hrel
      have Hq := Lib.hid hq
      clear hq
      by_cases hlt : k < n
      · obtain ⟨ad, x, rfl, hc, hu⟩ := hx.num hlt
        have hd := drop_at _ _ _ hu
        by_cases h1 : x = 1
        · subst h1
          have Hn := Lib.hid (show q + 10 + sizeSum (ts.drop (k + 1)) = sizeSum ts by rw [← Hq.out, hd]; simp [sizeSum]; omega)
          clear hu hd
          go_wp2
          go_round
          case rel => exact ⟨k + 1, q + 10, by omega, by go_num, rfl, by omega, by omega, Hn.out⟩
          case measure => simp [intOf]; omega
        · have Hn := Lib.hid (show q + 1 + sizeSum (ts.drop (k + 1)) = sizeSum ts by rw [← Hq.out, hd]; simp [sizeSum, h1]; omega)
          have hx1 : (x == 1) = false := by simpa using h1
          clear hu hd h1
          go_wp2
          go_round
          case rel => exact ⟨k + 1, q + 1, by omega, by go_num, rfl, by omega, by omega, Hn.out⟩
          case measure => simp [intOf]; omega
      · have Hf := Lib.hid (show q = sizeRow ts by have := Hq.out; rw [List.drop_of_length_le (by rw [Hlen.out]; omega)] at this; rw [Hs.out, ← this]; simp [sizeSum])
        go_wp2
        go_ret
        exact ⟨ret_int Hf.out, rfl⟩
  · have hr' : rightOf ts = false := by simpa using hr
    have Hs := Lib.hid (show sizeRow ts = 0 by unfold sizeRow; rw [if_neg hr])
    have Hr := Lib.hid hr'.symm
    clear hr hr'
    go_enter Try.func13, Try.ntmps13
    go_wp2_with fail
    refine (rright_is false A n c ts w hx hn Hr.out).mono ?_
    rintro e w1 ⟨rfl, rfl⟩
    go_wp2_with fail
    go_ret
    exact ⟨ret_int Hs.out.symm, rfl⟩
end Go.Proofs.Ytcfpjbbahpjhdaa
