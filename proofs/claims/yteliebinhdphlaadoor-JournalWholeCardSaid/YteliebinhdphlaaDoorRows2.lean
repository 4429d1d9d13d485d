/- An argument that is a list of lists of bytes. -/
import Derived.Test.YteliebinhdphlaaDoorLists4
import Derived.Test.YteliebinhdphlaaDoorM4
namespace Go.Proofs.YteliebinhdphlaaDoor
set_option maxRecDepth 100000
open Go.RowKit Go.Deep
open Go.ChangeShapes Go.WideShapes Go.ChangeAt
set_option linter.unusedSimpArgs false
set_option linter.unusedVariables false

theorem open_rows2 {H : Type} {enc : TypeId × Value → H} {P : Program} {w : World} {spare : Nat → Bool} {held : Bool} {t e eb : TypeId} {fuel : Nat} {cs : List Value} {x : DataW H × List MemPlace}
    (ht : P.underlying t = some (.slice e)) (ce : P.cellsOf e = 1)
    (hb1 : P.underlying e = some (.slice eb)) (hb2 : P.underlying eb = some (.int .u8)) (hb3 : P.cellsOf eb = 1)
    (h : DataW.trod enc P w 0 spare held fuel t cs = some x) :
    ∃ (A : Option Addr) (len cap : Nat) (Z : Nat → List Int), cs = [.slice A len cap] ∧ len ≤ maxLen ∧ Rows2 w A len Z ∧ RowsOk len Z := by
  rcases open_slice ht h with h0 | ⟨a, len, cap, m, n, D, Pl, rfl, hb, hl, hm, hmm, _, hx⟩
  · exact ⟨none, 0, 0, fun _ => [], h0.1, by simp, fun i hi => by omega, fun i hi => by omega⟩
  have hlm : len ≤ m := by rw [hmm]; split <;> omega
  have each : ∀ i, i < len → ∃ (z : List Int), (∃ A' c, w.cell? (a.add i) = some (.slice A' z.length c) ∧ Sl w A' z.length (u8s z)) ∧ (∀ x ∈ z, 0 ≤ x ∧ x < 256) ∧ z.length ≤ 9223372036854775807 := by
    intro i hi
    obtain ⟨cs', h1, g⟩ := hx i (by omega)
    rw [ce] at h1
    obtain ⟨_, hlen, hcell⟩ := World.cells?_some h1
    have hc := hcell 0 (by omega)
    rw [addr_twice, Nat.mul_one, Nat.add_zero] at hc
    rcases ChangeShapes.open_ints hb1 hb2 hb3 g with ⟨hz, _⟩ | ⟨a', len', cap', zs, hz, _, hl', hm', hzl, _, hzc, hzw⟩
    · have hz2 : cs'[0]? = some (.slice none 0 0) := by rw [hz]; rfl
      exact ⟨[], ⟨none, 0, hc.trans hz2, Sl.nil_ _ _⟩, fun x hx => by simp at hx, by simp⟩
    · have hz2 : cs'[0]? = some (.slice (some a') len' cap') := by rw [hz]; rfl
      have hll : len' ≤ zs.length := by rw [hzl]; split <;> omega
      have htl : (zs.take len').length = len' := by rw [List.length_take]; omega
      refine ⟨zs.take len', ⟨some a', cap', by rw [htl]; exact hc.trans hz2, ?_⟩, fun x hx => ?_, by rw [htl]; simp only [maxLen] at hm'; omega⟩
      · rw [htl]
        refine ⟨by rw [List.length_map]; exact htl, fun j u hu => ⟨a', rfl, ?_⟩⟩
        rw [List.getElem?_map, List.getElem?_take] at hu
        split at hu
        · have hj : j < zs.length := by omega
          rw [hzc j hj]
          rw [List.getElem?_eq_getElem hj] at hu
          have hu2 : u = .int .u8 zs[j] := by simpa using hu.symm
          rw [hu2]
          simp [List.getD, List.getElem?_eq_getElem hj]
        · simp at hu
      · have := bounds_u8 (hzw x (List.mem_of_mem_take hx))
        omega
  refine ⟨some a, len, cap, fun i => if hi : i < len then Classical.choose (each i hi) else [], rfl, Nat.le_trans hl hm, fun i hi => ?_, fun i hi => ?_⟩
  · obtain ⟨⟨A', c', g1, g2⟩, _⟩ := Classical.choose_spec (each i hi)
    simp only [dif_pos hi]
    exact ⟨a, A', c', rfl, g1, g2⟩
  · obtain ⟨_, g3, g4⟩ := Classical.choose_spec (each i hi)
    simp only [dif_pos hi]
    exact ⟨g3, g4⟩
end Go.Proofs.YteliebinhdphlaaDoor
