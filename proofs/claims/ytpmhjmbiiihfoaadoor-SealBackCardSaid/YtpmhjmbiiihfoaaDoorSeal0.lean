/- Sealed sectors as lists of bytes: no function of the program is named here. -/
import Derived.Test.YtpmhjmbiiihfoaaDoorTells
import Derived.Test.YtpmhjmbiiihfoaaDoorGB
import Derived.Test.YtpmhjmbiiihfoaaDoorArrS
namespace Go.Proofs.YtpmhjmbiiihfoaaDoor
open Go.RowKit
set_option linter.unusedSimpArgs false
set_option linter.unusedVariables false

def headOf (kind n : Int) (load : List Int) : List Int := kind :: (bytesOf n ++ ((load.length : Int) :: (load ++ List.replicate (113 - load.length) 0)))
def four (s : Nat) : List Int := [((s % 256 : Nat) : Int), ((s / 256 % 256 : Nat) : Int), ((s / 65536 % 256 : Nat) : Int), ((s / 16777216 % 256 : Nat) : Int)]
def sealOf (h : List Int) : List Int := h ++ (four (sumOf h) ++ [215])
def sealed (kind n : Int) (load : List Int) : List Int := sealOf (headOf kind n load)

theorem bytesOf_len (n : Int) : (bytesOf n).length = 8 := by simp [bytesOf]
theorem bytesOf_bytes (n : Int) : Bytes (bytesOf n) := by
  intro u hu
  obtain ⟨i, _, rfl⟩ := List.mem_map.1 hu
  unfold byteAt
  omega
theorem four_len (s : Nat) : (four s).length = 4 := rfl
theorem four_bytes (s : Nat) : Bytes (four s) := by
  intro u hu
  simp only [four, List.mem_cons, List.not_mem_nil, or_false] at hu
  omega
theorem four_inj' {s t : Nat} (hs : s < 4294967296) (ht : t < 4294967296) (h : four s = four t) : s = t := by
  simp only [four, List.cons.injEq, and_true] at h
  omega
theorem head_len (kind n : Int) {load : List Int} (hl : load.length ≤ 113) : (headOf kind n load).length = 123 := by
  simp only [headOf, List.length_cons, List.length_append, bytesOf_len, List.length_replicate]
  omega
theorem head_bytes {kind n : Int} {load : List Int} (hk : 1 ≤ kind ∧ kind ≤ 255) (hl : load.length ≤ 113) (hb : Bytes load) : Bytes (headOf kind n load) := by
  intro u hu
  simp only [headOf, List.mem_cons, List.mem_append] at hu
  rcases hu with rfl | hu | rfl | hu | hu
  · omega
  · exact bytesOf_bytes n u hu
  · omega
  · exact hb u hu
  · have := List.eq_of_mem_replicate hu; omega
theorem sealOf_len {h : List Int} (hl : h.length = 123) : (sealOf h).length = 128 := by simp [sealOf, hl, four_len]
theorem sealed_len (kind n : Int) {load : List Int} (hl : load.length ≤ 113) : (sealed kind n load).length = 128 := sealOf_len (head_len kind n hl)
theorem sealed_bytes {kind n : Int} {load : List Int} (hk : 1 ≤ kind ∧ kind ≤ 255) (hl : load.length ≤ 113) (hb : Bytes load) : Bytes (sealed kind n load) := by
  intro u hu
  rcases List.mem_append.1 hu with hu | hu
  · exact head_bytes hk hl hb u hu
  · rcases List.mem_append.1 hu with hu | hu
    · exact four_bytes _ u hu
    · simp at hu; omega
theorem sealOf_head {h : List Int} (hl : h.length = 123) : (sealOf h).take 123 = h := by rw [sealOf, List.take_left' hl]
theorem sealOf_four {h : List Int} (hl : h.length = 123) : ((sealOf h).drop 123).take 4 = four (sumOf h) := by rw [sealOf, List.drop_left' hl, List.take_left' (four_len _)]
theorem sealed_0 (kind n : Int) (load : List Int) : (sealed kind n load)[0]? = some kind := rfl
theorem sealed_127 (kind n : Int) {load : List Int} (hl : load.length ≤ 113) : (sealed kind n load)[127]? = some 215 := by
  unfold sealed sealOf
  rw [List.getElem?_append_right (by rw [head_len kind n hl]; omega), head_len kind n hl]; rfl
theorem sealed_9 (kind n : Int) (load : List Int) : (sealed kind n load)[9]? = some (load.length : Int) := by
  unfold sealed sealOf headOf
  rw [List.cons_append, List.getElem?_cons_succ, List.append_assoc, List.getElem?_append_right (by rw [bytesOf_len]; omega), bytesOf_len]; rfl
theorem sealed_num (kind n : Int) (load : List Int) : ((sealed kind n load).drop 1).take 8 = bytesOf n := by
  unfold sealed sealOf headOf
  rw [List.cons_append, List.drop_succ_cons, List.drop_zero, List.append_assoc, List.take_left' (bytesOf_len n)]
theorem sealed_load (kind n : Int) (load : List Int) : ((sealed kind n load).drop 10).take load.length = load := by
  unfold sealed sealOf headOf
  rw [List.cons_append, List.drop_succ_cons, List.append_assoc, List.drop_append, List.drop_of_length_le (by rw [bytesOf_len]; omega), bytesOf_len, List.nil_append, List.cons_append, show 9 - 8 = 0 + 1 from rfl, List.drop_succ_cons, List.drop_zero, List.append_assoc, List.take_left' rfl]

/-- bs is the sealed sector of that kind, number and load. -/
def SealedBy (bs : List Int) (kind n : Int) (l : List Int) : Prop := bs = sealed kind n l ∧ 1 ≤ kind ∧ kind ≤ 255 ∧ 0 ≤ n ∧ n ≤ 9223372036854775807 ∧ l.length ≤ 113 ∧ Bytes l
theorem SealedBy.one {bs : List Int} {k n n' : Int} {l l' : List Int} (h : SealedBy bs k n l) (h' : SealedBy bs k n' l') : n = n' ∧ l = l' := by
  obtain ⟨e, _, _, h3, h4, h5, _⟩ := h
  obtain ⟨e', _, _, h3', h4', h5', _⟩ := h'
  have h9 := sealed_9 k n l
  rw [← e, e', sealed_9] at h9
  have hl : l'.length = l.length := by have := Option.some.inj h9; omega
  have hn := sealed_num k n l
  rw [← e, e', sealed_num] at hn
  have hL := sealed_load k n l
  rw [← e, e', ← hl, sealed_load] at hL
  refine ⟨?_, hL.symm⟩
  rw [← get_put n (by omega) h4, ← hn, get_put n' (by omega) h4']
/-- What Open says of bs and a kind. -/
def OpenSays (bs : List Int) (kind n : Int) (l : List Int) (er : Int) : Prop := (er = 0 ∧ SealedBy bs kind n l) ∨ (er = 53 ∧ n = 0 ∧ l = [] ∧ ∀ n' l', ¬ SealedBy bs kind n' l')
theorem OpenSays.one {bs : List Int} {k n n' er er' : Int} {l l' : List Int} (h : OpenSays bs k n l er) (h' : OpenSays bs k n' l' er') : n = n' ∧ l = l' ∧ er = er' := by
  rcases h with ⟨rfl, h⟩ | ⟨rfl, rfl, rfl, h⟩
  · rcases h' with ⟨rfl, h'⟩ | ⟨rfl, rfl, rfl, h'⟩
    · exact ⟨(h.one h').1, (h.one h').2, rfl⟩
    · exact absurd h (h' _ _)
  · rcases h' with ⟨rfl, h'⟩ | ⟨rfl, rfl, rfl, h'⟩
    · exact absurd h' (h _ _)
    · exact ⟨rfl, rfl, rfl⟩
theorem OpenSays.bounds {bs : List Int} {k n er : Int} {l : List Int} (h : OpenSays bs k n l er) : (0 ≤ n ∧ n ≤ 9223372036854775807) ∧ l.length ≤ 113 ∧ Bytes l ∧ (er = 0 ∨ er = 53) := by
  rcases h with ⟨rfl, _, _, _, h3, h4, h5, h6⟩ | ⟨rfl, rfl, rfl, _⟩
  · exact ⟨⟨h3, h4⟩, h5, h6, Or.inl rfl⟩
  · exact ⟨by omega, by simp, fun u hu => by simp at hu, Or.inr rfl⟩
/-- Without the mark there is nothing. -/
theorem OpenSays.torn {bs : List Int} {k n er : Int} {l : List Int} (h : OpenSays bs k n l er) (hm : bs[127]? ≠ some 215) : er = 53 := by
  rcases h with ⟨rfl, e, _, _, _, _, h5, _⟩ | ⟨rfl, _⟩
  · exact absurd (by rw [e]; exact sealed_127 k n h5) hm
  · rfl
/-- Turned within four bytes of the first 123: nothing, or as it was. -/
theorem sealed_turned {k0 n : Int} {load bs : List Int} {k : Nat} (hk0 : 1 ≤ k0 ∧ k0 ≤ 255) (hl : load.length ≤ 113) (hb : Bytes load) (hk : k + 4 ≤ 123)
    (hbs : ∀ i, ¬ (k ≤ i ∧ i < k + 4) → bs[i]? = (sealed k0 n load)[i]?) {kind n' : Int} {l' : List Int} (h : SealedBy bs kind n' l') : bs = sealed k0 n load := by
  obtain ⟨e, h1, h2, h3, h4, h5, h6⟩ := h
  have hh : (headOf k0 n load).length = 123 := head_len k0 n hl
  have hh' : (headOf kind n' l').length = 123 := head_len kind n' h5
  have hf : four (sumOf (headOf kind n' l')) = four (sumOf (headOf k0 n load)) := by
    rw [← sealOf_four hh, ← sealOf_four hh']
    apply List.ext_getElem?
    intro i
    rw [List.getElem?_take, List.getElem?_take]
    split
    · rw [List.getElem?_drop, List.getElem?_drop]
      have := hbs (123 + i) (by omega)
      rw [e] at this
      exact this
    · rfl
  have hb1 := head_bytes (n := n) hk0 hl hb
  have hb2 := head_bytes (n := n') ⟨h1, h2⟩ h5 h6
  have hs := four_inj' (sum_lt hb2) (sum_lt hb1) hf
  have hx : headOf k0 n load = headOf kind n' l' := by
    refine sum_tells (k := k) (by rw [hh, hh']) (by rw [hh]; exact hk) hb1 hb2 ?_ hs.symm
    intro i hi
    rw [← sealOf_head hh, ← sealOf_head hh', List.getElem?_take, List.getElem?_take]
    split
    · have := hbs i hi
      rw [e] at this
      exact this
    · rfl
  rw [e, sealed, sealed, hx]

/-- What Make answers. -/
def makeErr (kind n : Int) (m : Nat) : Int := if kind < 1 ∨ 255 < kind ∨ n < 0 then 2 else if 113 < m then 3 else 0
def makeOf (kind n : Int) (load : List Int) : List Int := if makeErr kind n load.length = 0 then sealed kind n load else zeros128
theorem makeErr_zero {kind n : Int} {m : Nat} : makeErr kind n m = 0 ↔ 1 ≤ kind ∧ kind ≤ 255 ∧ 0 ≤ n ∧ m ≤ 113 := by
  unfold makeErr
  split
  · omega
  · split <;> omega
theorem makeErr_cases (kind n : Int) (m : Nat) : makeErr kind n m = 0 ∨ makeErr kind n m = 2 ∨ makeErr kind n m = 3 := by
  unfold makeErr
  split
  · omega
  · split <;> omega
theorem makeOf_len (kind n : Int) (load : List Int) : (makeOf kind n load).length = 128 := by
  unfold makeOf
  split
  · next h => exact sealed_len _ _ (makeErr_zero.1 h).2.2.2
  · exact zeros_len
theorem makeOf_bytes {kind n : Int} {load : List Int} (hb : Bytes load) : Bytes (makeOf kind n load) := by
  unfold makeOf
  split
  · next h => have h2 := makeErr_zero.1 h; exact sealed_bytes ⟨h2.1, h2.2.1⟩ h2.2.2.2 hb
  · intro u hu; have := List.eq_of_mem_replicate hu; omega
theorem makeOf_blank (kind n : Int) (load : List Int) : decide (makeOf kind n load = zeros128) = decide (makeErr kind n load.length ≠ 0) := by
  by_cases h : makeErr kind n load.length = 0
  · rw [makeOf, if_pos h]
    have : ¬ sealed kind n load = zeros128 := by
      intro e
      have h2 := sealed_127 kind n (makeErr_zero.1 h).2.2.2
      rw [e] at h2
      simp [zeros128] at h2
    rw [decide_eq_false this]; simp [h]
  · rw [makeOf, if_neg h]
    simp [h]
theorem makeOf_sealed {kind n : Int} {load : List Int} (hn : n ≤ 9223372036854775807) (hb : Bytes load) (h : makeErr kind n load.length = 0) : SealedBy (makeOf kind n load) kind n load := by
  have h2 := makeErr_zero.1 h
  rw [makeOf, if_pos h]
  exact ⟨rfl, h2.1, h2.2.1, h2.2.2.1, hn, h2.2.2.2, hb⟩
end Go.Proofs.YtpmhjmbiiihfoaaDoor
