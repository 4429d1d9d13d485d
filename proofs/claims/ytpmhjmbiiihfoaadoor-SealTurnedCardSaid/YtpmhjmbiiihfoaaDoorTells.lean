import Derived.Test.YtpmhjmbiiihfoaaDoorSumOne
namespace Go.Proofs.YtpmhjmbiiihfoaaDoor
open Go.RowKit

/-- j bytes from the k-th on, each turned by its own. -/
def flipTo (xs : List Int) (k : Nat) (ys : List Int) (j : Nat) : List Int :=
  xs.mapIdx fun i x => if k ≤ i ∧ i < k + j then ((x.toNat ^^^ (ys.getD (i - k) 0).toNat : Nat) : Int) else x
theorem flip_length (xs : List Int) (k : Nat) (ys : List Int) (j : Nat) : (flipTo xs k ys j).length = xs.length := by simp [flipTo]
theorem flip_zero (xs : List Int) (k : Nat) (ys : List Int) : flipTo xs k ys 0 = xs := by
  apply List.ext_getElem?
  intro i
  simp only [flipTo, List.getElem?_mapIdx]
  cases xs[i]? with
  | none => rfl
  | some x => simp; omega
theorem flip_at {xs : List Int} {k : Nat} {ys : List Int} {j i : Nat} {x : Int} (h : xs[i]? = some x) (hi : ¬ (k ≤ i ∧ i < k + j)) : (flipTo xs k ys j)[i]? = some x := by
  simp only [flipTo, List.getElem?_mapIdx, h, Option.map_some, if_neg hi]
theorem flip_in {xs : List Int} {k : Nat} {ys : List Int} {j i : Nat} {x : Int} (h : xs[i]? = some x) (hi : k ≤ i ∧ i < k + j) : (flipTo xs k ys j)[i]? = some (((x.toNat ^^^ (ys.getD (i - k) 0).toNat : Nat) : Int)) := by
  simp only [flipTo, List.getElem?_mapIdx, h, Option.map_some, if_pos hi]
theorem flip_out {xs : List Int} {k : Nat} {ys : List Int} {j i : Nat} (hi : ¬ (k ≤ i ∧ i < k + j)) : (flipTo xs k ys j)[i]? = xs[i]? := by
  cases h : xs[i]? with
  | none => simp only [flipTo, List.getElem?_mapIdx, h, Option.map_none]
  | some x => exact flip_at h hi
theorem flip_set {xs : List Int} {k j : Nat} {ys : List Int} {x y : Int} (hx : xs[k + j]? = some x) (hy : ys[j]? = some y) :
    (flipTo xs k ys j).set (k + j) (((x.toNat ^^^ y.toNat : Nat) : Int)) = flipTo xs k ys (j + 1) := by
  apply List.ext_getElem?
  intro i
  have hl : k + j < (flipTo xs k ys j).length := by rw [flip_length]; exact (List.getElem?_eq_some_iff.1 hx).1
  by_cases hi : k + j = i
  · subst hi
    rw [List.getElem?_set_self hl, flip_in hx (by omega), show k + j - k = j by omega]
    simp [List.getD, hy]
  · rw [List.getElem?_set_ne hi]
    by_cases h2 : k ≤ i ∧ i < k + j
    · cases h : xs[i]? with
      | none => simp only [flipTo, List.getElem?_mapIdx, h, Option.map_none]
      | some x => rw [flip_in h h2, flip_in h (by omega)]
    · rw [flip_out h2, flip_out (by omega)]
theorem flip_bytes {xs : List Int} {k : Nat} {ys : List Int} {j : Nat} (hx : Bytes xs) (hy : Bytes ys) : Bytes (flipTo xs k ys j) := by
  intro u hu
  obtain ⟨i, hi⟩ := List.getElem?_of_mem hu
  by_cases h2 : k ≤ i ∧ i < k + j
  · cases h : xs[i]? with
    | none => simp only [flipTo, List.getElem?_mapIdx, h, Option.map_none] at hi; cases hi
    | some x =>
      rw [flip_in h h2] at hi
      cases hi
      have h1 := hx x (List.mem_of_getElem? h)
      have h3 : 0 ≤ ys.getD (i - k) 0 ∧ ys.getD (i - k) 0 < 256 := by
        cases hg : ys[i - k]? with
        | none => simp [List.getD, hg]
        | some y => have := hy y (List.mem_of_getElem? hg); simpa [List.getD, hg] using this
      have : x.toNat ^^^ (ys.getD (i - k) 0).toNat < 2 ^ 8 := Nat.xor_lt_two_pow (by omega) (by omega)
      omega
  · rw [flip_out h2] at hi
    exact hx u (List.mem_of_getElem? hi)

/-- Four bytes at once. -/
theorem reg_four (c x0 x1 x2 x3 : Nat) :
    half8 (half8 (half8 (half8 (c ^^^ x0) ^^^ x1) ^^^ x2) ^^^ x3) = half8 (half8 (half8 (half8 (c ^^^ (x0 ^^^ 256 * (x1 ^^^ 256 * (x2 ^^^ 256 * x3))))))) := by
  have h : ∀ a b, half8 a ^^^ b = half8 (a ^^^ 256 * b) := fun a b => by rw [half8_xor, half8_byte]
  rw [h (half8 (half8 (c ^^^ x0) ^^^ x1) ^^^ x2) x3, Nat.xor_assoc (half8 (half8 (c ^^^ x0) ^^^ x1)) x2, h (half8 (c ^^^ x0) ^^^ x1), Nat.xor_assoc (half8 (c ^^^ x0)) x1, h (c ^^^ x0), Nat.xor_assoc c x0]
theorem four_inj {c x0 x1 x2 x3 y0 y1 y2 y3 : Nat} (hc : c < 2 ^ 32) (a0 : x0 < 256) (a1 : x1 < 256) (a2 : x2 < 256) (a3 : x3 < 256) (b0 : y0 < 256) (b1 : y1 < 256) (b2 : y2 < 256) (b3 : y3 < 256)
    (h : half8 (half8 (half8 (half8 (c ^^^ x0) ^^^ x1) ^^^ x2) ^^^ x3) = half8 (half8 (half8 (half8 (c ^^^ y0) ^^^ y1) ^^^ y2) ^^^ y3)) : x0 = y0 ∧ x1 = y1 ∧ x2 = y2 ∧ x3 = y3 := by
  rw [reg_four, reg_four] at h
  rw [xor_join _ x2 a2, xor_join _ x1 a1, xor_join _ x0 a0, xor_join _ y2 b2, xor_join _ y1 b1, xor_join _ y0 b0] at h
  have hx : c ^^^ (256 * (256 * (256 * x3 + x2) + x1) + x0) < 2 ^ 32 := Nat.xor_lt_two_pow hc (by omega)
  have hy : c ^^^ (256 * (256 * (256 * y3 + y2) + y1) + y0) < 2 ^ 32 := Nat.xor_lt_two_pow hc (by omega)
  have h := half8_inj hx hy (half8_inj (half8_lt hx) (half8_lt hy) (half8_inj (half8_lt (half8_lt hx)) (half8_lt (half8_lt hy)) (half8_inj (half8_lt (half8_lt (half8_lt hx))) (half8_lt (half8_lt (half8_lt hy))) h)))
  rw [Nat.xor_comm c, Nat.xor_comm c] at h
  have h := xor_cancel h
  omega

theorem cut_four {xs : List Int} {k : Nat} (h : k + 4 ≤ xs.length) : ∃ a b c d, xs = xs.take k ++ a :: b :: c :: d :: xs.drop (k + 4) := by
  obtain ⟨a, ha⟩ : ∃ a, xs[k]? = some a := ⟨_, List.getElem?_eq_getElem (by omega)⟩
  obtain ⟨b, hb⟩ : ∃ a, xs[k + 1]? = some a := ⟨_, List.getElem?_eq_getElem (by omega)⟩
  obtain ⟨c, hc⟩ : ∃ a, xs[k + 2]? = some a := ⟨_, List.getElem?_eq_getElem (by omega)⟩
  obtain ⟨d, hd⟩ : ∃ a, xs[k + 3]? = some a := ⟨_, List.getElem?_eq_getElem (by omega)⟩
  refine ⟨a, b, c, d, ?_⟩
  conv => lhs; rw [← List.take_append_drop k xs, drop_at xs k a ha, drop_at xs (k + 1) b hb, drop_at xs (k + 1 + 1) c hc, drop_at xs (k + 1 + 1 + 1) d hd]

/-- Texts that differ within four bytes alone have one sum only if they are one. -/
theorem sum_tells {xs ys : List Int} {k : Nat} (hl : ys.length = xs.length) (hk : k + 4 ≤ xs.length) (hx : Bytes xs) (hy : Bytes ys) (h : ∀ i, ¬ (k ≤ i ∧ i < k + 4) → ys[i]? = xs[i]?)
    (hs : sumOf xs = sumOf ys) : xs = ys := by
  have ht : ys.take k = xs.take k := by
    apply List.ext_getElem?
    intro i
    rw [List.getElem?_take, List.getElem?_take]
    split
    · exact h i (by omega)
    · rfl
  have hd : ys.drop (k + 4) = xs.drop (k + 4) := by
    apply List.ext_getElem?
    intro i
    rw [List.getElem?_drop, List.getElem?_drop]
    exact h _ (by omega)
  obtain ⟨a, b, c, d, hxe⟩ := cut_four hk
  obtain ⟨a', b', c', d', hye⟩ := cut_four (xs := ys) (k := k) (by omega)
  rw [ht, hd] at hye
  have hpre : Bytes (xs.take k) := fun u hu => hx u (List.mem_of_mem_take hu)
  have hpost : Bytes (xs.drop (k + 4)) := fun u hu => hx u (List.mem_of_mem_drop hu)
  generalize xs.take k = p at *
  generalize xs.drop (k + 4) = s at *
  subst hxe hye
  have ba := hx a (by simp); have bb := hx b (by simp); have bc := hx c (by simp); have bd := hx d (by simp)
  have ba' := hy a' (by simp); have bb' := hy b' (by simp); have bc' := hy c' (by simp); have bd' := hy d' (by simp)
  unfold sumOf moreOf at hs
  rw [Nat.xor_comm ones, Nat.xor_comm ones (reg _ (p ++ a' :: _))] at hs
  have hs := xor_cancel hs
  simp only [reg_append, reg_cons] at hs
  have hc : reg (ones ^^^ 0) p < 2 ^ 32 := reg_lt (by decide) hpre
  generalize reg (ones ^^^ 0) p = r at *
  have lt4 : ∀ x0 x1 x2 x3 : Int, x0.toNat < 2 ^ 32 → x1.toNat < 2 ^ 32 → x2.toNat < 2 ^ 32 → x3.toNat < 2 ^ 32 → half8 (half8 (half8 (half8 (r ^^^ x0.toNat) ^^^ x1.toNat) ^^^ x2.toNat) ^^^ x3.toNat) < 2 ^ 32 := fun x0 x1 x2 x3 h0 h1 h2 h3 =>
    half8_lt (Nat.xor_lt_two_pow (half8_lt (Nat.xor_lt_two_pow (half8_lt (Nat.xor_lt_two_pow (half8_lt (Nat.xor_lt_two_pow hc h0)) h1)) h2)) h3)
  have h4 := reg_inj (lt4 a b c d (by omega) (by omega) (by omega) (by omega)) (lt4 a' b' c' d' (by omega) (by omega) (by omega) (by omega)) hpost hs
  have := four_inj hc (by omega) (by omega) (by omega) (by omega) (by omega) (by omega) (by omega) (by omega) h4
  have e1 : a = a' := by omega
  have e2 : b = b' := by omega
  have e3 : c = c' := by omega
  have e4 : d = d' := by omega
  rw [e1, e2, e3, e4]
end Go.Proofs.YtpmhjmbiiihfoaaDoor
