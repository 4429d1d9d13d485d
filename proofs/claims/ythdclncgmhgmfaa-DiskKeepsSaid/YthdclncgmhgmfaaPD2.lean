/- The program's disk: what only asks. -/
import Derived.Test.YthdclncgmhgmfaaPD1
namespace Go.Proofs.Ythdclncgmhgmfaa
open Go.RowKit Go.Deep
set_option linter.unusedSimpArgs false
set_option linter.unusedVariables false

section
variable (F : Nat → Prop) (w : World) (b : Nat) (S : DS) (h : PD F w b S)
include h
theorem dnone_is : Calls Try.prog 37 #[.pointer (some ⟨b, 0, none⟩)] w fun e w' => e = .returned (.bool false) ∧ w' = w := by
  obtain ⟨hwf, _, _, sb, mb, vs, vw, c, L, h⟩ := h
  have hc0 := h.head.cell (i := 0) rfl
  have hn1 := hwf.n1
  obtain ⟨K, hK⟩ : ∃ K, K = S.kept.length := ⟨_, rfl⟩
  rw [← hK] at hc0 hn1
  clear hK h hwf
  have hd : decide ((K : Int) = 0) = false := decide_eq_false (by omega)
  go_enter Try.func37, Try.ntmps37
  go_wp2
  go_ret
  exact ⟨by simp; omega, rfl⟩
theorem dpowered_is : Calls Try.prog 35 #[.pointer (some ⟨b, 0, none⟩)] w fun e w' => e = .returned (.int .i64 (if S.off then 50 else 0)) ∧ w' = w := by
  have hno := dnone_is F w b S h
  obtain ⟨hwf, _, _, sb, mb, vs, vw, c, L, h⟩ := h
  have hc4 := h.head.cell (i := 4) rfl
  cases ho : S.off
  · rw [ho] at hc4
    clear h hwf ho
    go_enter Try.func35, Try.ntmps35
    go_wp2_with fail
    refine hno.mono ?_
    rintro e w1 ⟨rfl, hw⟩
    obtain rfl := hw.symm
    go_wp2
    go_ret
    exact ⟨rfl, rfl⟩
  · rw [ho] at hc4
    clear h hwf ho
    go_enter Try.func35, Try.ntmps35
    go_wp2_with fail
    refine hno.mono ?_
    rintro e w1 ⟨rfl, hw⟩
    obtain rfl := hw.symm
    go_wp2
    go_ret
    exact ⟨rfl, rfl⟩
theorem dreach_off (n : Int) (ho : S.off = true) : Calls Try.prog 41 #[.pointer (some ⟨b, 0, none⟩), .int .i64 n] w fun e w' => e = .returned (.int .i64 50) ∧ w' = w := by
  have hp := dpowered_is F w b S h
  rw [ho, if_pos rfl] at hp
  go_enter Try.func41, Try.ntmps41
  go_wp2_with fail
  refine hp.mono ?_
  rintro e w1 ⟨rfl, hw⟩
  obtain rfl := hw.symm
  go_wp2
  go_ret
  exact ⟨rfl, rfl⟩
theorem dreach_out (n : Int) (ho : S.off = false) (hn : n < 0 ∨ (S.kept.length : Int) ≤ n) : Calls Try.prog 41 #[.pointer (some ⟨b, 0, none⟩), .int .i64 n] w fun e w' => e = .returned (.int .i64 51) ∧ w' = w := by
  have hp := dpowered_is F w b S h
  rw [ho, if_neg (by simp)] at hp
  obtain ⟨hwf, _, _, sb, mb, vs, vw, c, L, h⟩ := h
  have hc0 := h.head.cell (i := 0) rfl
  obtain ⟨K, hK⟩ : ∃ K, K = S.kept.length := ⟨_, rfl⟩
  rw [← hK] at hc0 hn
  clear hK h hwf ho
  by_cases hneg : n < 0
  · have hd : decide (n < 0) = true := decide_eq_true hneg
    go_enter Try.func41, Try.ntmps41
    go_wp2_with fail
    refine hp.mono ?_
    rintro e w1 ⟨rfl, hw⟩
    obtain rfl := hw.symm
    go_wp2
    go_ret
    exact ⟨rfl, rfl⟩
  · have hd : decide (n < 0) = false := decide_eq_false hneg
    have hd2 : decide ((K : Int) ≤ n) = true := decide_eq_true (by omega)
    go_enter Try.func41, Try.ntmps41
    go_wp2_with fail
    refine hp.mono ?_
    rintro e w1 ⟨rfl, hw⟩
    obtain rfl := hw.symm
    go_wp2
    go_ret
    exact ⟨rfl, rfl⟩
theorem dreach_in (n : Nat) (ho : S.off = false) (hn : n < S.kept.length) : Calls Try.prog 41 #[.pointer (some ⟨b, 0, none⟩), .int .i64 (n : Int)] w fun e w' => e = .returned (.int .i64 0) ∧ w' = w := by
  have hp := dpowered_is F w b S h
  rw [ho, if_neg (by simp)] at hp
  obtain ⟨hwf, _, _, sb, mb, vs, vw, c, L, h⟩ := h
  have hc0 := h.head.cell (i := 0) rfl
  obtain ⟨K, hK⟩ : ∃ K, K = S.kept.length := ⟨_, rfl⟩
  rw [← hK] at hc0 hn
  clear hK h hwf ho
  have hd : decide ((n : Int) < 0) = false := decide_eq_false (by omega)
  have hd2 : decide ((K : Int) ≤ (n : Int)) = false := decide_eq_false (by omega)
  go_enter Try.func41, Try.ntmps41
  go_wp2_with fail
  refine hp.mono ?_
  rintro e w1 ⟨rfl, hw⟩
  obtain rfl := hw.symm
  go_wp2
  go_ret
  exact ⟨rfl, rfl⟩
theorem dsize_is : Calls Try.prog 11 #[.pointer (some ⟨b, 0, none⟩)] w fun e w' => e = .returned (.int .i64 (S.kept.length : Int)) ∧ Only Nothing w w' := by
  obtain ⟨hwf, _, _, sb, mb, vs, vw, c, L, h⟩ := h
  have hc0 := h.head.cell (i := 0) rfl
  go_enter Try.func11, Try.ntmps11
  go_wp2
  go_ret
  exact ⟨rfl, Only.none_ _⟩
theorem dleft_is : Calls Try.prog 15 #[.pointer (some ⟨b, 0, none⟩)] w fun e w' => e = .returned (.int .i64 (S.room - (S.used : Int))) ∧ Only Nothing w w' := by
  obtain ⟨hwf, _, _, sb, mb, vs, vw, c, L, h⟩ := h
  have hc2 := h.head.cell (i := 2) rfl
  go_enter Try.func15, Try.ntmps15
  go_wp2
  go_ret
  exact ⟨rfl, Only.none_ _⟩
theorem dwaits_is : Calls Try.prog 14 #[.pointer (some ⟨b, 0, none⟩)] w fun e w' => e = .returned (.int .i64 (S.waits.length : Int)) ∧ Only Nothing w w' := by
  obtain ⟨hwf, _, _, sb, mb, vs, vw, c, L, h⟩ := h
  obtain ⟨A, ca, rfl, hm, _⟩ := h.wait.form
  have hc1 := h.head.cell (i := 1) rfl
  go_enter Try.func14, Try.ntmps14
  go_wp2
  go_ret
  exact ⟨rfl, Only.none_ _⟩
theorem don_is : Calls Try.prog 13 #[.pointer (some ⟨b, 0, none⟩)] w fun e w' => e = .returned (.bool (!S.off)) ∧ Only Nothing w w' := by
  have hp := dpowered_is F w b S h
  cases ho : S.off
  · rw [ho, if_neg (by simp)] at hp
    go_enter Try.func13, Try.ntmps13
    go_wp2_with fail
    refine hp.mono ?_
    rintro e w1 ⟨rfl, hw⟩
    obtain rfl := hw.symm
    go_wp2
    go_ret
    exact ⟨rfl, Only.none_ _⟩
  · rw [ho, if_pos rfl] at hp
    go_enter Try.func13, Try.ntmps13
    go_wp2_with fail
    refine hp.mono ?_
    rintro e w1 ⟨rfl, hw⟩
    obtain rfl := hw.symm
    go_wp2
    go_ret
    exact ⟨rfl, Only.none_ _⟩
theorem dmeter_is : Calls Try.prog 17 #[.pointer (some ⟨b, 0, none⟩)] w fun e w' => ∃ mb L, e = .returned (.pointer (some ⟨mb, 0, none⟩)) ∧ PMet w' mb L ∧ L.take 3 = S.ops ∧ Only Nothing w w' := by
  obtain ⟨hwf, _, _, sb, mb, vs, vw, c, L, h⟩ := h
  have hc5 := h.head.cell (i := 5) rfl
  have hm := h.met
  have ho := h.ops
  go_enter Try.func17, Try.ntmps17
  go_wp2
  go_ret
  exact ⟨mb, L, rfl, hm, ho, Only.none_ _⟩
end
end Go.Proofs.Ythdclncgmhgmfaa
