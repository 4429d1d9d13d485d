/- Short bytes, read: plain lists and numbers, no program. -/
import Derived.Test.YtcfpjbbahpjhdaaMath
namespace Go.Proofs.Ytcfpjbbahpjhdaa
open Go.RowKit

/-- Byte k is the first below 128, and one of the first m. -/
def Stops (b : List Int) (m k : Nat) (u : Int) : Prop := k < m ∧ b[k]? = some u ∧ u < 128 ∧ ∀ x ∈ b.take k, 128 ≤ x
def Runs (b : List Int) (m : Nat) : Prop := ∀ x ∈ b.take m, 128 ≤ x

def stopAt (b : List Int) (m : Nat) : Option Nat := (b.take m).findIdx? (fun x => decide (x < 128))
theorem stop_some {b : List Int} {m k : Nat} {u : Int} (h : Stops b m k u) : stopAt b m = some k := by
  obtain ⟨h1, h2, h3, h4⟩ := h
  have hk : k < b.length := (List.getElem?_eq_some_iff.1 h2).1
  have hu : b[k] = u := (List.getElem?_eq_some_iff.1 h2).2
  unfold stopAt
  rw [List.findIdx?_eq_some_iff_getElem]
  refine ⟨by rw [List.length_take]; omega, by rw [List.getElem_take, hu]; simpa using h3, fun j hj => ?_⟩
  have : 128 ≤ b[j] := h4 _ (by rw [List.mem_take_iff_getElem]; exact ⟨j, by omega, rfl⟩)
  rw [List.getElem_take]
  simp; omega
theorem stop_none {b : List Int} {m : Nat} (h : Runs b m) : stopAt b m = none := by
  unfold stopAt
  rw [List.findIdx?_eq_none_iff]
  intro x hx
  have := h x hx
  simp; omega

def endErr (b : List Int) (m : Nat) : Int :=
  match stopAt b m with
  | some k => if 0 < k ∧ b.getD k 0 = 0 then 11 else 0
  | none => if b.length < m then 10 else 11
def endSize (b : List Int) (m : Nat) : Nat :=
  match stopAt b m with
  | some k => if 0 < k ∧ b.getD k 0 = 0 then 0 else k + 1
  | none => 0
theorem end_zero {b : List Int} {m k : Nat} (h : Stops b m k 0) (hk : 0 < k) : endErr b m = 11 ∧ endSize b m = 0 := by
  unfold endErr endSize
  rw [stop_some h]
  have : b.getD k 0 = 0 := by simp [List.getD, h.2.1]
  have h2 : b[k]?.getD 0 = 0 := by simp [h.2.1]
  simp [hk, h2]
theorem end_ok {b : List Int} {m k : Nat} {u : Int} (h : Stops b m k u) (hk : ¬ (0 < k ∧ u = 0)) : endErr b m = 0 ∧ endSize b m = k + 1 := by
  unfold endErr endSize
  rw [stop_some h]
  have : b.getD k 0 = u := by simp [List.getD, h.2.1]
  rw [← this] at hk
  simp only
  rw [if_neg hk, if_neg hk]
  exact ⟨rfl, rfl⟩
theorem end_short {b : List Int} {m : Nat} (h : Runs b m) (hl : b.length < m) : endErr b m = 10 ∧ endSize b m = 0 := by
  unfold endErr endSize
  rw [stop_none h]
  simp [hl]
theorem end_long {b : List Int} {m : Nat} (h : Runs b m) (hl : ¬ b.length < m) : endErr b m = 11 ∧ endSize b m = 0 := by
  unfold endErr endSize
  rw [stop_none h]
  simp; omega
theorem end_bad {b : List Int} {m : Nat} : endErr b m ≠ 0 → endSize b m = 0 := by
  unfold endErr endSize
  split <;> (try split) <;> simp
theorem end_good {b : List Int} {m : Nat} : endErr b m = 0 → 1 ≤ endSize b m ∧ endSize b m ≤ m ∧ endSize b m ≤ b.length := by
  intro h
  unfold endErr endSize at *
  cases hs : stopAt b m with
  | none => rw [hs] at h; simp at h; split at h <;> omega
  | some k =>
    rw [hs] at h
    unfold stopAt at hs
    rw [List.findIdx?_eq_some_iff_getElem] at hs
    obtain ⟨h1, _⟩ := hs
    rw [List.length_take] at h1
    simp only at h ⊢
    split at h
    · omega
    · rw [if_neg (by assumption)]; omega

/-- The digits of the first k bytes. -/
def digs (b : List Int) (k : Nat) : List Int := (b.take k).map (· % 128)
theorem digs_snoc {b : List Int} {k : Nat} {u : Int} (h : b[k]? = some u) : digs b (k + 1) = digs b k ++ [u % 128] := by
  unfold digs
  rw [take_snoc _ _ _ h, List.map_append]; rfl
theorem digs_length {b : List Int} {k : Nat} (h : k ≤ b.length) : (digs b k).length = k := by simp [digs, h]
theorem digs_range (b : List Int) (k : Nat) : ∀ x ∈ digs b k, 0 ≤ x ∧ x < 128 := by
  intro x hx
  simp only [digs, List.mem_map] at hx
  obtain ⟨y, _, rfl⟩ := hx
  omega
theorem pow128 (k : Nat) : (128 : Int) ^ k = 2 ^ (7 * k) := by rw [Int.pow_mul]; rfl
theorem digs_val (b : List Int) (k : Nat) (h : k ≤ b.length) : 0 ≤ val 128 (digs b k) ∧ val 128 (digs b k) < 2 ^ (7 * k) := by
  have := val_range 128 (by omega) (digs b k) (digs_range b k)
  rwa [digs_length h, pow128] at this
theorem digs_next {b : List Int} {k : Nat} {u : Int} (h : b[k]? = some u) : val 128 (digs b (k + 1)) = val 128 (digs b k) + u % 128 * 2 ^ (7 * k) := by
  have hk : k < b.length := (List.getElem?_eq_some_iff.1 h).1
  rw [digs_snoc h, val_snoc, digs_length (by omega), pow128, Int.mul_comm]

/-- What a natural number's short bytes come to. -/
def longVal (b : List Int) : Int := val 128 (digs b (endSize b 9))

end Go.Proofs.Ytcfpjbbahpjhdaa
