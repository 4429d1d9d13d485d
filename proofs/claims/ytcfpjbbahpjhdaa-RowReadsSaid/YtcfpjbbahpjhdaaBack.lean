import Derived.Test.YtcfpjbbahpjhdaaRZag2

namespace Go.Proofs.Ytcfpjbbahpjhdaa
open Go.RowKit

/-- The short bytes of a number, whatever stands behind: where they end, with what, and what they come to. -/
theorem sh_reads (f : Nat) : ∀ (t : Int) (more : List Int), 0 ≤ t → t < 128 ^ (f + 1) →
    ∃ (k : Nat) (u : Int), (sh (f + 1) t).length = k + 1 ∧ k ≤ f ∧ (sh (f + 1) t ++ more)[k]? = some u ∧ u < 128 ∧ (∀ x ∈ (sh (f + 1) t ++ more).take k, 128 ≤ x) ∧ u = t / 128 ^ k ∧ (k = 0 ∨ 1 ≤ u) ∧ val 128 ((sh (f + 1) t).map (· % 128)) = t := by
  induction f with
  | zero =>
    intro t more h0 h1
    have h1 : t < 128 := by simpa using h1
    refine ⟨0, t, by rw [sh_last _ _ h1]; rfl, by omega, by rw [sh_last _ _ h1]; rfl, h1, by simp, by simp, .inl rfl, ?_⟩
    rw [sh_last _ _ h1]
    simp [val]; omega
  | succ f ih =>
    intro t more h0 h1
    by_cases h : t < 128
    · refine ⟨0, t, by rw [sh_last _ _ h]; rfl, by omega, by rw [sh_last _ _ h]; rfl, h, by simp, by simp, .inl rfl, ?_⟩
      rw [sh_last _ _ h]
      simp [val]; omega
    · have h3 : t / 128 < 128 ^ (f + 1) := Int.ediv_lt_of_lt_mul (by omega) (by rwa [Int.pow_succ] at h1)
      obtain ⟨k, u, e1, e2, e3, e4, e5, e6, e7, e8⟩ := ih (t / 128) more (by omega) h3
      rw [sh_more _ _ h]
      refine ⟨k + 1, u, by simp [e1], by omega, by simpa using e3, e4, ?_, ?_, ?_, ?_⟩
      · intro x hx
        rw [List.cons_append, List.take_succ_cons] at hx
        rcases List.mem_cons.1 hx with rfl | hx
        · omega
        · exact e5 x hx
      · rw [e6, Int.pow_succ, Int.mul_comm, ← Int.ediv_ediv_of_nonneg (by omega)]
      · right
        rcases e7 with rfl | h7
        · rw [e6]; simp; omega
        · exact h7
      · rw [List.map_cons, val_cons, e8]
        omega

/-- Read back: what begins some bytes is just what the number has. -/
theorem reads_sh (k : Nat) : ∀ (b : List Int) (u : Int) (f : Nat), (∀ x ∈ b, 0 ≤ x ∧ x < 256) → b[k]? = some u → u < 128 → (∀ x ∈ b.take k, 128 ≤ x) → ¬ (0 < k ∧ u = 0) → k ≤ f →
    sh (f + 1) (val 128 (digs b (k + 1))) = b.take (k + 1) ∧ (u ≠ 0 → 0 < val 128 (digs b (k + 1))) := by
  induction k with
  | zero =>
    intro b u f hb h1 h2 h3 h4 h5
    cases b with
    | nil => simp at h1
    | cons x b =>
      simp at h1
      subst h1
      have := hb x List.mem_cons_self
      have e : val 128 (digs (x :: b) (0 + 1)) = x := by simp [digs, val]; omega
      rw [e, sh_last _ _ h2]
      exact ⟨by simp, fun h => by omega⟩
  | succ k ih =>
    intro b u f hb h1 h2 h3 h4 h5
    cases b with
    | nil => simp at h1
    | cons x b =>
      obtain ⟨f, rfl⟩ : ∃ g, f = g + 1 := ⟨f - 1, by omega⟩
      have hu0 : u ≠ 0 := fun h => h4 ⟨by omega, h⟩
      have hx := hb x List.mem_cons_self
      have hx2 : 128 ≤ x := h3 x (by rw [List.take_succ_cons]; exact List.mem_cons_self)
      obtain ⟨i1, i2⟩ := ih b u f (fun y hy => hb y (List.mem_cons_of_mem _ hy)) (by simpa using h1) h2 (fun y hy => h3 y (by rw [List.take_succ_cons]; exact List.mem_cons_of_mem _ hy)) (fun h => hu0 h.2) (by omega)
      have i3 := i2 hu0
      have e : val 128 (digs (x :: b) (k + 1 + 1)) = x % 128 + 128 * val 128 (digs b (k + 1)) := by unfold digs; rw [List.take_succ_cons, List.map_cons, val_cons]
      rw [e, sh_more _ _ (by omega), List.take_succ_cons]
      refine ⟨?_, fun _ => by omega⟩
      rw [show (x % 128 + 128 * val 128 (digs b (k + 1))) / 128 = val 128 (digs b (k + 1)) by omega, i1]
      congr 1
      omega

theorem sh_range : ∀ (f : Nat) (t : Int), 0 ≤ t → ∀ x ∈ sh f t, 0 ≤ x ∧ x < 256
  | 0, _, _, x, hx => by simp [sh] at hx
  | f + 1, t, h0, x, hx => by
    by_cases h : t < 128
    · rw [sh_last _ _ h] at hx
      obtain rfl : x = t := by simpa using hx
      omega
    · rw [sh_more _ _ h] at hx
      rcases List.mem_cons.1 hx with rfl | hx
      · omega
      · exact sh_range f (t / 128) (by omega) x hx

theorem end_is {b : List Int} {m : Nat} (h : endErr b m = 0) : ∃ k u, Stops b m k u ∧ ¬ (0 < k ∧ u = 0) ∧ endSize b m = k + 1 := by
  unfold endErr at h
  cases hs : stopAt b m with
  | none => rw [hs] at h; simp at h; split at h <;> omega
  | some k =>
    have hs0 := hs
    rw [hs] at h
    unfold stopAt at hs
    rw [List.findIdx?_eq_some_iff_getElem] at hs
    obtain ⟨h1, h2, h3⟩ := hs
    rw [List.length_take] at h1
    rw [List.getElem_take] at h2
    have hb : b[k]? = some b[k] := List.getElem?_eq_getElem (by omega)
    simp only at h
    have hg : b.getD k 0 = b[k] := by simp [List.getD, hb]
    split at h
    · omega
    · rename_i hn
      rw [hg] at hn
      refine ⟨k, b[k], ⟨by omega, hb, by simpa using h2, fun x hx => ?_⟩, hn, ?_⟩
      · rw [List.mem_take_iff_getElem] at hx
        obtain ⟨j, hj, rfl⟩ := hx
        have := h3 j (by omega)
        rw [List.getElem_take] at this
        simpa using this
      · unfold endSize
        rw [hs0]
        simp only
        rw [hg, if_neg hn]

theorem endSize_le (b : List Int) (m : Nat) : endSize b m ≤ b.length := by
  by_cases h : endErr b m = 0
  · exact (end_good h).2.2
  · rw [end_bad h]; omega
theorem zSize_le (b : List Int) : zSize b ≤ b.length := by
  unfold zSize
  split
  · omega
  · exact endSize_le b 10
theorem long_back {b : List Int} (hb : ∀ x ∈ b, 0 ≤ x ∧ x < 256) (h : endErr b 9 = 0) : sh 10 (longVal b) = b.take (endSize b 9) ∧ 0 ≤ longVal b ∧ longVal b ≤ 9223372036854775807 := by
  obtain ⟨k, u, ⟨s1, s2, s3, s4⟩, hk, hz⟩ := end_is h
  have hv := digs_val b (k + 1) (by have := (List.getElem?_eq_some_iff.1 s2).1; omega)
  unfold longVal
  rw [hz]
  refine ⟨(reads_sh k b u 9 hb s2 s3 s4 hk (by omega)).1, hv.1, ?_⟩
  have : (2 : Int) ^ (7 * (k + 1)) ≤ 2 ^ 63 := by exact_mod_cast Nat.pow_le_pow_right (show 0 < 2 by omega) (by omega)
  omega
theorem zag_back {b : List Int} (hb : ∀ x ∈ b, 0 ≤ x ∧ x < 256) (h : zErr b = 0) : sh 10 (zTurned b) = b.take (zSize b) := by
  by_cases hz : zbad b = true
  · simp [zErr, hz] at h
  · have e1 : zErr b = endErr b 10 := by simp [zErr, hz]
    have e2 : zSize b = endSize b 10 := by simp [zSize, hz]
    rw [e1] at h
    obtain ⟨k, u, ⟨s1, s2, s3, s4⟩, hk, hsz⟩ := end_is h
    unfold zTurned
    rw [e2, hsz]
    exact (reads_sh k b u 9 hb s2 s3 s4 hk (by omega)).1

theorem digs_app (l more : List Int) (k : Nat) (h : l.length = k) : digs (l ++ more) k = l.map (· % 128) := by
  unfold digs
  rw [List.take_append_of_le_length (by omega), List.take_of_length_le (by omega)]

theorem long_fore (n : Int) (more : List Int) (h0 : 0 ≤ n) (h1 : n ≤ 9223372036854775807) :
    endErr (sh 10 n ++ more) 9 = 0 ∧ endSize (sh 10 n ++ more) 9 = (sh 10 n).length ∧ longVal (sh 10 n ++ more) = n := by
  obtain ⟨k, u, e1, e2, e3, e4, e5, e6, e7, e8⟩ := sh_reads 9 n more h0 (by omega)
  have hk : k < 9 := by
    rcases (show k < 9 ∨ k = 9 by omega) with h | rfl
    · exact h
    · rw [e6] at e7; simp at e7; omega
  have hend := end_ok (b := sh 10 n ++ more) (m := 9) (k := k) (u := u) ⟨hk, e3, e4, e5⟩ (by omega)
  refine ⟨hend.1, by rw [hend.2]; exact e1.symm, ?_⟩
  unfold longVal
  rw [hend.2, digs_app _ _ _ e1, e8]
theorem zag_fore (t : Int) (more : List Int) (h0 : 0 ≤ t) (h1 : t < 18446744073709551616) :
    zErr (sh 10 t ++ more) = 0 ∧ zSize (sh 10 t ++ more) = (sh 10 t).length ∧ zTurned (sh 10 t ++ more) = t := by
  obtain ⟨k, u, e1, e2, e3, e4, e5, e6, e7, e8⟩ := sh_reads 9 t more h0 (by omega)
  have hend := end_ok (b := sh 10 t ++ more) (m := 10) (k := k) (u := u) ⟨by omega, e3, e4, e5⟩ (by omega)
  have hz : zErr (sh 10 t ++ more) = 0 ∧ zSize (sh 10 t ++ more) = k + 1 := by
    rcases (show k < 9 ∨ k = 9 by omega) with h | h
    · have := zbad_small (b := sh 10 t ++ more) (by rw [hend.2]; omega)
      rw [this.1, this.2]; exact hend
    · have := zbad_one (b := sh 10 t ++ more) (by
        rw [h] at e3 e6
        simp [List.getD, e3]
        have e9 : (128 : Int) ^ 9 = 9223372036854775808 := by decide
        rw [e6, e9]; omega)
      rw [this.1, this.2]; exact hend
  refine ⟨hz.1, by rw [hz.2]; exact e1.symm, ?_⟩
  unfold zTurned
  rw [hz.2, digs_app _ _ _ e1, e8]

theorem back_turned (n : Int) : back (turned n) = n := by
  unfold turned
  split
  · rw [back_odd (by omega)]; omega
  · rw [back_even (by omega)]; omega

theorem val_bytes (n : Int) (m : Nat) : val 256 ((List.range m).map (byteAt n)) = n % 2 ^ (8 * m) := by
  induction m with
  | zero => simp [val, Int.emod_one]
  | succ m ih =>
    rw [List.range_succ, List.map_append, List.map_cons, List.map_nil, val_snoc, ih, List.length_map, List.length_range, ← pow256]
    unfold byteAt
    have hp : (0 : Int) < 2 ^ (8 * m) := Int.pow_pos (by omega)
    rw [show 8 * (m + 1) = 8 * m + 8 by omega, Int.pow_add]
    generalize (2 : Int) ^ (8 * m) = p at *
    have h1 := Int.emod_add_mul_ediv n p
    have h2 := Int.emod_nonneg n (show p ≠ 0 by omega)
    have h3 := Int.emod_lt_of_pos n hp
    generalize hq : n / p = q at *
    generalize hr : n % p = r at *
    have h4 : q = q % 256 + 256 * (q / 256) := by omega
    generalize hd : q % 256 = d at *
    have hd1 : 0 ≤ d ∧ d < 256 := by omega
    have e : n = (r + p * d) + p * 256 * (q / 256) := by
      have : p * q = p * d + p * 256 * (q / 256) := by conv => lhs; rw [h4, Int.mul_add, ← Int.mul_assoc]
      omega
    have h5 : p * (d + 1) ≤ p * 256 := Int.mul_le_mul_of_nonneg_left (by omega) (by omega)
    rw [Int.mul_add, Int.mul_one] at h5
    have h6 : 0 ≤ p * d := Int.mul_nonneg (by omega) hd1.1
    have e8 : (2 : Int) ^ 8 = 256 := by decide
    rw [e8, e, Int.add_mul_emod_self_left, Int.emod_eq_of_lt (by omega) (by omega)]

end Go.Proofs.Ytcfpjbbahpjhdaa
