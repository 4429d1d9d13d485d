/- An argument that is an array of bytes, of whatever length. -/
import Derived.Test.YtpmhjmbiiihfoaaDoorCrc
import Derived.Test.YtpmhjmbiiihfoaaDoorVals
import Derived.OpenShut
namespace Go.Proofs.YtpmhjmbiiihfoaaDoor
open Go.RowKit
set_option linter.unusedSimpArgs false
set_option linter.unusedVariables false

theorem drop_at_v : ∀ (l : List Value) (i : Nat) (c : Value), l[i]? = some c → l.drop i = c :: l.drop (i + 1)
  | [], i, c, h => by simp at h
  | a :: l, 0, c, h => by simp at h; subst h; rfl
  | a :: l, i + 1, c, h => by simpa using drop_at_v l i c (by simpa using h)
theorem open_bytes {H : Type} {enc : TypeId × Value → H} {P : Program} {w : World} {base : Nat} {spare : Nat → Bool} {held : Bool} {t e : TypeId} {n fuel : Nat} {cs : Array Value} {x : DataW H × List MemPlace}
    (ht : P.underlying t = some (.array n e)) (he : P.underlying e = some (.int .u8)) (hce : P.cellsOf e = 1) (hct : P.cellsOf t = n) (h : DataW.trod enc P w base spare held fuel t (Value.agg cs).cells.toList = some x) :
    ∃ zs : List Int, cs = (u8s zs).toArray ∧ zs.length = n ∧ Bytes zs := by
  obtain ⟨xs, m, _, _, hl, hxl, hf⟩ := DataW.trod_array ht h
  have hcl : cs.toList.length = n := by rw [← hct, ← hl]; rfl
  have each : ∀ i, i < n → ∃ u : Int, cs.toList[i]? = some (.int .u8 u) ∧ 0 ≤ u ∧ u < 256 := by
    intro i hi
    have h1 := hf i hi
    rw [hce, Nat.mul_one] at h1
    obtain ⟨y, hy⟩ : ∃ y, xs[i]? = some y := ⟨_, List.getElem?_eq_getElem (by omega)⟩
    rw [hy] at h1
    obtain ⟨c, hc⟩ : ∃ c, cs.toList[i]? = some c := ⟨_, List.getElem?_eq_getElem (by omega)⟩
    have hd : ((Value.agg cs).cells.toList.drop i).take 1 = [c] := by
      show (cs.toList.drop i).take 1 = [c]
      rw [drop_at_v cs.toList i c hc]; rfl
    rw [hd] at h1
    obtain ⟨u, hu, _, wu⟩ := DataW.trod_int he h1
    simp at hu
    subst hu
    have := bounds_u8 wu
    exact ⟨u, hc, by omega, by omega⟩
  refine ⟨cs.toList.map intOf, ?_, by rw [List.length_map, hcl], ?_⟩
  · apply Array.ext'
    show cs.toList = (cs.toList.map intOf).map (Value.int .u8)
    apply List.ext_getElem?
    intro i
    rw [List.getElem?_map, List.getElem?_map]
    by_cases hi : i < n
    · obtain ⟨u, hu, _⟩ := each i hi
      rw [hu]; rfl
    · rw [List.getElem?_eq_none (by omega)]; rfl
  · intro u hu
    obtain ⟨v, hv, rfl⟩ := List.mem_map.1 hu
    obtain ⟨i, hi⟩ := List.getElem?_of_mem hv
    have hin : i < n := by have := (List.getElem?_eq_some_iff.1 hi).1; omega
    obtain ⟨u, hu, h1, h2⟩ := each i hin
    rw [hi] at hu
    cases hu
    exact ⟨h1, h2⟩
end Go.Proofs.YtpmhjmbiiihfoaaDoor
