/- The program's own meter, as far as a disk asks of it: made, added to, counted. -/
import Derived.Test.YthdclncgmhgmfaaMet
import Derived.Test.YthdclncgmhgmfaaAtomic
import Derived.Deep.OwnRows
namespace Go.Proofs.Ythdclncgmhgmfaa
open Go.RowKit
set_option linter.unusedSimpArgs false
set_option linter.unusedVariables false

theorem grown_self (w : World) (row : Option Nat) : w.grownBy w row := ⟨rfl, rfl, rfl, Nat.le_refl _, fun _ _ _ => rfl⟩
theorem wrap_i64 (x : Int) : IntKind.i64.wrap x = wrap64 x := by unfold wrap64; exact IntKind.wrap_i64 x

/-- The program's meter at b: its counts. -/
def PMet (w : World) (b : Nat) (L : List Int) : Prop := Met6 L ∧ w.rowIs b 83 6 (fun i => .int .i64 (L.getD i 0))

theorem PMet.lt {w : World} {b : Nat} {L : List Int} (h : PMet w b L) : b < w.heap.size := h.2.lt
theorem PMet.kept {w w' : World} {b : Nat} {L : List Int} (h : PMet w b L) (e : w'.heap[b]? = w.heap[b]?) : PMet w' b L := ⟨h.1, h.2.of_block e⟩
theorem PMet.cell {w : World} {b i : Nat} {L : List Int} {u : Int} (h : PMet w b L) (hi : i < 6) (hu : L[i]? = some u) : w.cell? ⟨b, i, none⟩ = some (.int .i64 u) := by
  have := h.2.cell hi
  simpa [List.getD, hu] using this
theorem PMet.set {w : World} {b : Nat} {L : List Int} (h : PMet w b L) (i : Nat) (hi : i < 6) (u : Int) (h1 : -9223372036854775808 ≤ u) (h2 : u ≤ 9223372036854775807) :
    PMet (w.setCell ⟨b, i, none⟩ (.int .i64 u)) b (L.set i u) ∧ w.grownBy (w.setCell ⟨b, i, none⟩ (.int .i64 u)) (some b) := by
  refine ⟨⟨met_set h.1 i h1 h2, (h.2.set i _).congr ?_⟩, ⟨rfl, rfl, rfl, by simp [World.setCell], fun k _ hne => Go.Deep.blk_setCell_other _ _ _ _ (fun e => hne (by rw [e]))⟩⟩
  intro j hj
  simp only [List.getD]
  by_cases e : j = i
  · subst e
    rw [if_pos rfl, List.getElem?_set_self (by rw [h.1.1]; exact hj)]; rfl
  · rw [if_neg e, List.getElem?_set_ne (fun h => e h.symm)]

theorem mhas_is (w : World) (b : Nat) (k : Int) : Calls Try.prog 38 #[.pointer (some ⟨b, 0, none⟩), .int .i64 k] w fun e w' => e = .returned (.bool (mHas k)) ∧ w' = w := by
  by_cases h1 : 1 ≤ k
  · by_cases h2 : k ≤ 6
    · have e : mHas k = true := decide_eq_true ⟨h1, h2⟩
      rw [e]
      have d1 : decide (1 ≤ k) = true := decide_eq_true h1
      have d2 : decide (k ≤ 6) = true := decide_eq_true h2
      go_enter Try.func38, Try.ntmps38
      go_wp2
      go_ret
      exact ⟨rfl, rfl⟩
    · have e : mHas k = false := decide_eq_false (by omega)
      rw [e]
      have d1 : decide (1 ≤ k) = true := decide_eq_true h1
      have d2 : decide (k ≤ 6) = false := decide_eq_false h2
      go_enter Try.func38, Try.ntmps38
      go_wp2
      go_ret
      exact ⟨rfl, rfl⟩
  · have e : mHas k = false := decide_eq_false (by omega)
    rw [e]
    have d1 : decide (1 ≤ k) = false := decide_eq_false h1
    go_enter Try.func38, Try.ntmps38
    go_wp2
    go_ret
    exact ⟨rfl, rfl⟩
theorem mhas_nil (w : World) (k : Int) : Calls Try.prog 38 #[.pointer none, .int .i64 k] w fun e w' => e = .returned (.bool false) ∧ w' = w := by
  go_enter Try.func38, Try.ntmps38
  go_wp2
  go_ret
  exact ⟨rfl, rfl⟩

theorem pnew_is (w : World) : Calls Try.prog 40 #[] w fun e w' => ∃ b, e = .returned (.pointer (some ⟨b, 0, none⟩)) ∧ w.heap.size ≤ b ∧ PMet w' b [0, 0, 0, 0, 0, 0] ∧ Below w.heap.size w w' := by
  go_enter Try.func40, Try.ntmps40
  go_wp2
  go_ret
  refine ⟨w.heap.size, rfl, Nat.le_refl _, ⟨met_zero, ⟨_, Go.Deep.blk_alloc_new _ _, rfl, ?_⟩⟩, below_alloc _ _⟩
  intro i hi
  match i, hi with
  | 0, _ => rfl
  | 1, _ => rfl
  | 2, _ => rfl
  | 3, _ => rfl
  | 4, _ => rfl
  | 5, _ => rfl

set_option maxHeartbeats 800000 in
theorem padd_is (w : World) (b : Nat) (L : List Int) (k n : Int) (hn1 : -9223372036854775808 ≤ n) (hn2 : n ≤ 9223372036854775807) (h : PMet w b L) :
    Calls Try.prog 43 #[.pointer (some ⟨b, 0, none⟩), .int .i64 k, .int .i64 n] w fun e w' => e = .returned (.bool (mHas k)) ∧ PMet w' b (mAdd L k n) ∧ w.grownBy w' (some b) := by
  have hh := mhas_is w b k
  cases hk : mHas k
  · rw [(mOut hk).2.1]
    rw [hk] at hh
    go_enter Try.func43, Try.ntmps43
    go_wp2_with fail
    refine hh.mono ?_
    rintro e w1 ⟨rfl, hw⟩
    obtain rfl := hw.symm
    go_wp2
    go_ret
    exact ⟨rfl, h, grown_self _ _⟩
  · rw [hk] at hh
    obtain ⟨i, hi, rfl⟩ := mHas_in hk
    obtain ⟨u, hu, hu1, hu2⟩ := met_at h.1 hi
    have hc := h.cell hi hu
    have hf := h.2.frozen i
    have hk1 : (i : Int) + 1 - 1 = (i : Int) := by omega
    have hiI : (i : Int) < 6 := by omega
    rw [mAdd_at n hi hu]
    obtain ⟨z, hz⟩ : ∃ z, z = wrap64 (u + n) := ⟨_, rfl⟩
    have Hz := Lib.hid (h.set i hi z (by rw [hz]; exact (w64_range _).1) (by rw [hz]; exact (w64_range _).2))
    rw [← hz]
    have had := run_call_add (P := Try.prog) Try.func53 (by kernel_rfl) (by kernel_rfl) (by kernel_rfl) .i64 (by kernel_rfl) (y := n) (s := z) hc hf (by rw [hz]; simp [go_sem, wrap_i64])
    clear hz hu
    go_enter Try.func43, Try.ntmps43
    go_wp2_with fail
    refine hh.mono ?_
    rintro e w1 ⟨rfl, hw⟩
    obtain rfl := hw.symm
    go_wp2
    go_ret
    exact ⟨rfl, Hz.out⟩

set_option maxHeartbeats 800000 in
theorem pcount_is (w : World) (b : Nat) (L : List Int) (k : Int) (h : PMet w b L) :
    Calls Try.prog 21 #[.pointer (some ⟨b, 0, none⟩), .int .i64 k] w fun e w' => e = .returned (.int .i64 (mGet L k)) ∧ w' = w := by
  have hh := mhas_is w b k
  cases hk : mHas k
  · rw [(mOut (n := 0) hk).1]
    rw [hk] at hh
    go_enter Try.func21, Try.ntmps21
    go_wp2_with fail
    refine hh.mono ?_
    rintro e w1 ⟨rfl, hw⟩
    obtain rfl := hw.symm
    go_wp2
    go_ret
    exact ⟨rfl, rfl⟩
  · rw [hk] at hh
    obtain ⟨i, hi, rfl⟩ := mHas_in hk
    obtain ⟨u, hu, hu1, hu2⟩ := met_at h.1 hi
    have hc := h.cell hi hu
    have hf := h.2.frozen i
    have hk1 : (i : Int) + 1 - 1 = (i : Int) := by omega
    have hiI : (i : Int) < 6 := by omega
    rw [mGet_at hi hu]
    have hld := run_call_load (P := Try.prog) Try.func50 (by kernel_rfl) (by kernel_rfl) (by kernel_rfl) .i64 (by kernel_rfl) hc
    clear hu
    go_enter Try.func21, Try.ntmps21
    go_wp2_with fail
    refine hh.mono ?_
    rintro e w1 ⟨rfl, hw⟩
    obtain rfl := hw.symm
    go_wp2
    go_ret
    exact ⟨rfl, rfl⟩

end Go.Proofs.Ythdclncgmhgmfaa
