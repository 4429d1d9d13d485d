/- Six counts, as a plain list. No function of the program is named here. -/
import Derived.Test.YthdclncgmhgmfaaVals
namespace Go.Proofs.Ythdclncgmhgmfaa
open Go.RowKit
set_option linter.unusedSimpArgs false
set_option linter.unusedVariables false

theorem w64_range (x : Int) : -9223372036854775808 ≤ wrap64 x ∧ wrap64 x ≤ 9223372036854775807 := by unfold wrap64; omega
def mHas (k : Int) : Bool := decide (1 ≤ k ∧ k ≤ 6)
def mGet (L : List Int) (k : Int) : Int := if mHas k then L.getD (k - 1).toNat 0 else 0
def mAdd (L : List Int) (k n : Int) : List Int := if mHas k then L.set (k - 1).toNat (wrap64 (mGet L k + n)) else L
def mTake (L : List Int) (k : Int) : List Int := if mHas k then L.set (k - 1).toNat 0 else L
def mUp (L : List Int) (k n : Int) : Bool := mHas k && decide (mGet L k < n)
def mRaise (L : List Int) (k n : Int) : List Int := if mUp L k n then L.set (k - 1).toNat n else L
/-- Six counts, each an int. -/
def Met6 (L : List Int) : Prop := L.length = 6 ∧ ∀ x ∈ L, -9223372036854775808 ≤ x ∧ x ≤ 9223372036854775807

theorem mHas_in {k : Int} (h : mHas k = true) : ∃ i : Nat, i < 6 ∧ k = (i : Int) + 1 := by
  have h := of_decide_eq_true h
  exact ⟨(k - 1).toNat, by omega, by omega⟩
theorem mHas_at {i : Nat} (h : i < 6) : mHas ((i : Int) + 1) = true := decide_eq_true (by omega)
theorem mHas_out {k : Int} (h : mHas k = false) : k < 1 ∨ 6 < k := by have := of_decide_eq_false h; omega
theorem mGet_at {L : List Int} {i : Nat} {u : Int} (h : i < 6) (hu : L[i]? = some u) : mGet L ((i : Int) + 1) = u := by
  unfold mGet
  rw [if_pos (mHas_at h), show ((i : Int) + 1 - 1).toNat = i by omega]
  simp [List.getD, hu]
theorem met_at {L : List Int} (h : Met6 L) {i : Nat} (hi : i < 6) : ∃ u, L[i]? = some u ∧ -9223372036854775808 ≤ u ∧ u ≤ 9223372036854775807 := by
  have hl : i < L.length := by rw [h.1]; exact hi
  exact ⟨L[i], List.getElem?_eq_getElem hl, h.2 _ (List.getElem_mem hl)⟩
theorem mAdd_at {L : List Int} {i : Nat} {u : Int} (n : Int) (h : i < 6) (hu : L[i]? = some u) : mAdd L ((i : Int) + 1) n = L.set i (wrap64 (u + n)) := by
  unfold mAdd
  rw [if_pos (mHas_at h), mGet_at h hu, show ((i : Int) + 1 - 1).toNat = i by omega]
theorem mTake_at {L : List Int} {i : Nat} (h : i < 6) : mTake L ((i : Int) + 1) = L.set i 0 := by
  unfold mTake
  rw [if_pos (mHas_at h), show ((i : Int) + 1 - 1).toNat = i by omega]
theorem mUp_at {L : List Int} {i : Nat} {u : Int} (n : Int) (h : i < 6) (hu : L[i]? = some u) : mUp L ((i : Int) + 1) n = decide (u < n) := by
  unfold mUp; rw [mHas_at h, mGet_at h hu]; rfl
theorem mRaise_at {L : List Int} {i : Nat} {u : Int} (n : Int) (h : i < 6) (hu : L[i]? = some u) (hn : u < n) : mRaise L ((i : Int) + 1) n = L.set i n := by
  unfold mRaise
  rw [mUp_at n h hu, if_pos (decide_eq_true hn), show ((i : Int) + 1 - 1).toNat = i by omega]
theorem mRaise_no {L : List Int} {i : Nat} {u : Int} (n : Int) (h : i < 6) (hu : L[i]? = some u) (hn : n ≤ u) : mRaise L ((i : Int) + 1) n = L := by
  unfold mRaise
  rw [mUp_at n h hu, if_neg (by simpa using hn)]
theorem mOut {L : List Int} {k n : Int} (h : mHas k = false) : mGet L k = 0 ∧ mAdd L k n = L ∧ mTake L k = L ∧ mUp L k n = false ∧ mRaise L k n = L := by
  have hu : mUp L k n = false := by unfold mUp; rw [h]; rfl
  refine ⟨?_, ?_, ?_, hu, ?_⟩
  · unfold mGet; rw [h]; rfl
  · unfold mAdd; rw [h]; rfl
  · unfold mTake; rw [h]; rfl
  · unfold mRaise; rw [hu]; rfl
theorem met_set {L : List Int} (h : Met6 L) (i : Nat) {u : Int} (h1 : -9223372036854775808 ≤ u) (h2 : u ≤ 9223372036854775807) : Met6 (L.set i u) :=
  ⟨by rw [List.length_set]; exact h.1, fun x hx => by
    rcases List.mem_or_eq_of_mem_set hx with hx | rfl
    · exact h.2 x hx
    · exact ⟨h1, h2⟩⟩
theorem met_add {L : List Int} (h : Met6 L) (k n : Int) : Met6 (mAdd L k n) := by
  unfold mAdd; split
  · exact met_set h _ (w64_range _).1 (w64_range _).2
  · exact h
theorem met_take {L : List Int} (h : Met6 L) (k : Int) : Met6 (mTake L k) := by
  unfold mTake; split
  · exact met_set h _ (by omega) (by omega)
  · exact h
theorem met_raise {L : List Int} (h : Met6 L) (k : Int) {n : Int} (h1 : -9223372036854775808 ≤ n) (h2 : n ≤ 9223372036854775807) : Met6 (mRaise L k n) := by
  unfold mRaise; split
  · exact met_set h _ h1 h2
  · exact h
theorem met_zero : Met6 [0, 0, 0, 0, 0, 0] := ⟨rfl, fun x hx => by simp at hx; omega⟩
theorem mGet_range {L : List Int} (h : Met6 L) (k : Int) : -9223372036854775808 ≤ mGet L k ∧ mGet L k ≤ 9223372036854775807 := by
  cases hk : mHas k
  · rw [(mOut (n := 0) hk).1]; omega
  · obtain ⟨i, hi, rfl⟩ := mHas_in hk
    obtain ⟨u, hu, h1, h2⟩ := met_at h hi
    rw [mGet_at hi hu]; exact ⟨h1, h2⟩
/-- What is done of one kind changes no other one's count. -/
theorem mGet_other {L : List Int} {k j n : Int} (h : k ≠ j) : mGet (mAdd L k n) j = mGet L j ∧ mGet (mRaise L k n) j = mGet L j ∧ mGet (mTake L k) j = mGet L j := by
  have key : ∀ u : Int, mHas k = true → mGet (L.set (k - 1).toNat u) j = mGet L j := by
    intro u hk
    unfold mGet
    cases hj : mHas j
    · rfl
    · have h1 := of_decide_eq_true hk
      have h2 := of_decide_eq_true hj
      rw [if_pos rfl, if_pos rfl]
      simp only [List.getD]
      rw [List.getElem?_set_ne (by omega)]
  refine ⟨?_, ?_, ?_⟩
  · unfold mAdd; split
    · next hk => exact key _ hk
    · rfl
  · unfold mRaise; split
    · next hk => exact key _ (by unfold mUp at hk; simp at hk; exact hk.1)
    · rfl
  · unfold mTake; split
    · next hk => exact key _ hk
    · rfl
theorem mGet_add {L : List Int} (h : Met6 L) {k : Int} (n : Int) (hk : mHas k = true) : mGet (mAdd L k n) k = wrap64 (mGet L k + n) := by
  obtain ⟨i, hi, rfl⟩ := mHas_in hk
  obtain ⟨u, hu, _⟩ := met_at h hi
  rw [mAdd_at n hi hu, mGet_at hi hu, mGet_at hi (u := wrap64 (u + n))]
  rw [List.getElem?_set_self (by rw [h.1]; exact hi)]
theorem mGet_take {L : List Int} (h : Met6 L) (k : Int) : mGet (mTake L k) k = 0 := by
  cases hk : mHas k
  · exact (mOut (n := 0) hk).1
  · obtain ⟨i, hi, rfl⟩ := mHas_in hk
    rw [mTake_at hi, mGet_at hi (u := 0)]
    rw [List.getElem?_set_self (by rw [h.1]; exact hi)]
end Go.Proofs.Ythdclncgmhgmfaa
