import Derived.Test.YtcfpjbbahpjhdaaTurned
namespace Go.Proofs.Ytcfpjbbahpjhdaa
open Go.RowKit

/-- The digits of a number to the base 128, m of them. -/
def d128 (t : Int) (m : Nat) : List Int := (List.range m).map fun i => t / 2 ^ (7 * i) % 128
theorem d128_succ (t : Int) (m : Nat) : d128 t (m + 1) = d128 t m ++ [t / 2 ^ (7 * m) % 128] := by simp [d128, List.range_succ]
theorem d128_len (t : Int) (m : Nat) : (d128 t m).length = m := by simp [d128]
theorem d128_at (t : Int) (m k : Nat) (h : k < m) : (d128 t m)[k]? = some (t / 2 ^ (7 * k) % 128) := by simp [d128, h]
theorem d128_take (t : Int) (m k : Nat) (h : k ≤ m) : (d128 t m).take k = d128 t k := by
  apply List.ext_getElem (by simp [d128]; omega)
  intro i h1 h2
  simp [d128]
/-- The first k of m digits bear 128 more. -/
def up128 (t : Int) (m k : Nat) : List Int := (List.range m).map fun i => if i < k then t / 2 ^ (7 * i) % 128 + 128 else t / 2 ^ (7 * i) % 128
theorem up128_zero (t : Int) (m : Nat) : up128 t m 0 = d128 t m := by simp [up128, d128]
theorem up128_len (t : Int) (m k : Nat) : (up128 t m k).length = m := by simp [up128]
theorem up128_at (t : Int) (m k : Nat) (h : k < m) : (up128 t m k)[k]? = some (t / 2 ^ (7 * k) % 128) := by simp [up128, h]
theorem up128_set (t : Int) (m k : Nat) : (up128 t m k).set k (t / 2 ^ (7 * k) % 128 + 128) = up128 t m (k + 1) := by
  apply List.ext_getElem (by simp [up128])
  intro i h1 h2
  simp [up128] at h1 ⊢
  rw [List.getElem_set]
  split
  · subst_vars; simp
  · simp
    by_cases h : i < k
    · rw [if_pos h, if_pos (by omega)]
    · rw [if_neg h, if_neg (by omega)]
theorem up128_cons (t : Int) (m : Nat) : up128 t (m + 2) (m + 1) = (t % 128 + 128) :: up128 (t / 128) (m + 1) m := by
  apply List.ext_getElem (by simp [up128])
  intro i h1 h2
  rcases i with _ | i
  · simp [up128]
  · simp only [up128, List.getElem_map, List.getElem_range, List.getElem_cons_succ]
    have e : t / 2 ^ (7 * (i + 1)) = t / 128 / 2 ^ (7 * i) := by
      rw [show 7 * (i + 1) = 7 + 7 * i by omega, ← pow_ediv]; rfl
    rw [e]
    by_cases h : i < m
    · rw [if_pos (by omega), if_pos h]
    · rw [if_neg (by omega), if_neg h]
/-- The short bytes, by how many there are. -/
theorem sh_up (m : Nat) : ∀ (f : Nat) (t : Int), 0 ≤ t → m + 1 ≤ f → t < 2 ^ (7 * (m + 1)) → (m = 0 ∨ 2 ^ (7 * m) ≤ t) → sh f t = up128 t (m + 1) m := by
  induction m with
  | zero =>
    intro f t h0 hf h1 _
    obtain ⟨f, rfl⟩ : ∃ g, f = g + 1 := ⟨f - 1, by omega⟩
    have h1 : t < 128 := by simpa using h1
    rw [sh_last _ _ h1]
    simp [up128]
    omega
  | succ m ih =>
    intro f t h0 hf h1 h2
    obtain ⟨f, rfl⟩ : ∃ g, f = g + 1 := ⟨f - 1, by omega⟩
    have h2 : 2 ^ (7 * (m + 1)) ≤ t := by rcases h2 with h | h; omega; exact h
    have e1 : (2 : Int) ^ (7 * (m + 1)) = 2 ^ (7 * m) * 128 := by rw [show 7 * (m + 1) = 7 * m + 7 by omega, Int.pow_add]; rfl
    have e2 : (2 : Int) ^ (7 * (m + 1 + 1)) = 2 ^ (7 * (m + 1)) * 128 := by rw [show 7 * (m + 1 + 1) = 7 * (m + 1) + 7 by omega, Int.pow_add]; rfl
    have hp : (0 : Int) < 2 ^ (7 * m) := Int.pow_pos (by omega)
    rw [sh_more _ _ (by omega), up128_cons, ih f (t / 128) (by omega) (by omega) (by omega) (.inr (by omega))]
/-- A last digit that is not 0 tells how large the number is; one that is 0 can be left out. -/
theorem last_zero (t : Int) (m : Nat) (h0 : 0 ≤ t) (h1 : t < 2 ^ (7 * (m + 1))) (hz : t / 2 ^ (7 * m) % 128 = 0) : t < 2 ^ (7 * m) := by
  have e2 : (2 : Int) ^ (7 * (m + 1)) = 2 ^ (7 * m) * 128 := by rw [show 7 * (m + 1) = 7 * m + 7 by omega, Int.pow_add]; rfl
  have hp : (0 : Int) < 2 ^ (7 * m) := Int.pow_pos (by omega)
  rw [e2] at h1
  generalize (2 : Int) ^ (7 * m) = p at *
  have hq1 : t / p < 128 := Int.ediv_lt_of_lt_mul hp (by rw [Int.mul_comm]; exact h1)
  have hq0 : 0 ≤ t / p := Int.ediv_nonneg h0 (by omega)
  have hq : t / p = 0 := by omega
  have h3 := Int.emod_add_mul_ediv t p
  have h4 := Int.emod_lt_of_pos t hp
  rw [hq] at h3
  omega
theorem last_more (t : Int) (m : Nat) (h0 : 0 ≤ t) (hz : ¬ t / 2 ^ (7 * m) % 128 = 0) : 2 ^ (7 * m) ≤ t := by
  have hp : (0 : Int) < 2 ^ (7 * m) := Int.pow_pos (by omega)
  generalize (2 : Int) ^ (7 * m) = p at *
  rcases (show t < p ∨ p ≤ t by omega) with h | h
  · exact absurd (by rw [Int.ediv_eq_zero_of_lt h0 h]; rfl) hz
  · exact h
theorem last_digit (t : Int) (h0 : 0 ≤ t) (h1 : t < 18446744073709551616) (j : Nat) (hj : 64 ≤ 63 + j) : t / 2 ^ (63 + j) = 0 :=
  Int.ediv_eq_zero_of_lt h0 (by
    have : (2 : Int) ^ 64 ≤ 2 ^ (63 + j) := by exact_mod_cast Nat.pow_le_pow_right (show 0 < 2 by omega) hj
    omega)

set_option maxHeartbeats 2000000 in
theorem rzig_any (n : Int) (w : World) (h1 : -9223372036854775808 ≤ n) (h2 : n ≤ 9223372036854775807) :
    Calls Try.prog 25 #[.int .i64 n] w fun e w' => ∃ v m, e = .returned v ∧ w'.ownsRow w.heap.size 5 1 v m (u8s (sh 10 (turned n))) ∧ Below w.heap.size w w' := by
  obtain ⟨i0, hi0, hz0, hz1, hz2⟩ := info_parts info_u8
  obtain ⟨t, ht⟩ : ∃ t, t = turned n := ⟨_, rfl⟩
  have htr := turned_range h1 h2
  rw [← ht] at htr
  obtain ⟨t0, t1⟩ := htr
  rw [← ht]
  have Ht := Lib.hid ht
  clear ht
  go_enter Try.func25, Try.ntmps25
  go_wp2_with fail
  refine (turned_any n _ h1 h2).mono ?_
  rintro e w1 ⟨v1, rfl, hown1, hb1⟩
  obtain ⟨A, c, rfl, hsl⟩ := own_form hown1
  rw [← Ht.out] at hsl
  clear hown1
  have hsz1 := hb1.size
  go_wp2
  go_loopw [4, 5] (fun v i wr => ∃ k : Nat, k ≤ 10 ∧ i = .int .i64 k ∧ wr.ownsRow w1.heap.size 5 1 v k (u8s (d128 t k)) ∧ Below w1.heap.size w1 wr) (fun _ i _ => 10 - (intOf i).toNat)
  case atStart => exact ⟨0, by omega, rfl, World.ownsRow_nil _ _ _ _, Below.refl _ _⟩
  case round =>
    obtain ⟨k, hk, rfl, hown, hbl⟩ := hrel
    have hsz := hbl.size
    by_cases hlt : k < 10
    · have hd : decide ((k : Int) < 10) = true := decide_eq_true (by omega)
      have hs := hsl.below hbl
      obtain ⟨wo, rfl⟩ : ∃ wo : World, wo = wr := ⟨_, rfl⟩
      go_wp2
      go_loop [6, 7] (fun c i => ∃ (j : Nat) (q : Int), j ≤ 7 ∧ i = .int .i64 ((j : Int) - 1) ∧ c = .int .i64 q ∧ 0 ≤ q ∧ q < 256 ∧ q = t / 2 ^ (7 * k + j) % 2 ^ (7 - j)) (fun _ i => (intOf i + 1).toNat)
      case atStart => exact ⟨7, 0, by omega, by go_num, rfl, by omega, by omega, by simp [Int.emod_one]⟩
      case round =>
        obtain ⟨j, q, hj, rfl, rfl, q1, q2, hq⟩ := hrel
        have Hq := Lib.hid hq
        clear hq
        rcases j with _ | j
        · go_wp2_with (at_builtin; refine wpList_push _ _ 27 5 i0 _ _ 1 rfl rfl Try.underlying27 hi0 hz0 hz1 hz2 rfl w1.heap.size _ _ _ hown rfl rfl rfl (by omega) (by omega) hsz ?_; intro v' w2 hown2 hg2 hb2 hs2)
          go_roundw
          case rel =>
            refine ⟨k + 1, by omega, by go_num, ?_, hbl.trans hb2⟩
            have e : q = t / 2 ^ (7 * k) % 128 := Hq.out
            simpa [d128_succ, u8s, e] using hown2
          case measure => simp [intOf] <;> omega
        · by_cases hin : 7 * k + j < 64
          · obtain ⟨ad, u, rfl, hc, hu⟩ := hs.num (k := 7 * k + j) (by omega)
            rw [bitsTo_at t 64 _ (by omega)] at hu
            have hu' : u = t / 2 ^ (7 * k + j) % 2 := by simpa using hu.symm
            have u1 : 0 ≤ u ∧ u ≤ 1 := by omega
            have Hu := Lib.hid hu'
            clear hu hu'
            have q4 : q < 128 := by rw [Hq.out]; exact (emod_pow_lt _ _ 7 (by omega)).2
            go_wp2
            go_round
            case rel =>
              refine ⟨j, 2 * q + u, by omega, by go_num, by go_num, by omega, by omega, ?_⟩
              rw [Hq.out, Hu.out]
              have := bits_step t (7 * k + j) (7 - (j + 1))
              rw [show 7 - (j + 1) + 1 = 7 - j by omega] at this
              exact this
            case measure => simp [intOf] <;> omega
          · have hq0 : q = 0 := by rw [Hq.out, show 7 * k + (j + 1) = 63 + (7 * k + j - 62) by omega, last_digit t t0 t1 _ (by omega)]; simp
            have Hq0 := Lib.hid hq0
            clear hq0
            go_wp2
            go_round
            case rel =>
              refine ⟨j, q, by omega, by go_num, rfl, by omega, by omega, ?_⟩
              rw [Hq0.out, show 7 * k + j = 63 + (7 * k + j - 63) by omega, last_digit t t0 t1 _ (by omega)]; simp
            case measure => simp [intOf] <;> omega
    · obtain rfl : k = 10 := by omega
      obtain ⟨g, cap, rfl, hg1, hg2⟩ := hown.form (by omega)
      have t2 : t < 2 ^ (7 * 10) := by omega
      have T2 := Lib.hid t2
      clear t2
      have hfr : ∀ j, wr.frozen? ⟨g, j, none⟩ = false := fun j => hown.frozenAt j
      have hcap := own_cap hown
      have Hown := Lib.hid hown
      have Hfr := Lib.hid hfr
      clear hown hfr
      go_wp2
      go_loop [4] (fun v => ∃ j : Nat, j ≤ 9 ∧ v = .slice (some ⟨g, 0, none⟩) (j + 1) cap ∧ t < 2 ^ (7 * (j + 1))) (fun v => match v with | .slice _ n _ => n | _ => 0)
      case atStart => exact ⟨9, by omega, rfl, T2.out⟩
      case round =>
        obtain ⟨j, hj, rfl, ht⟩ := hrel
        have Htj := Lib.hid ht
        clear ht
        have hce := Hown.out.cellAt j (by omega)
        rw [List.getElem?_map, d128_at t 10 j (by omega)] at hce
        obtain ⟨u, hu⟩ : ∃ u, u = t / 2 ^ (7 * j) % 128 := ⟨_, rfl⟩
        rw [← hu] at hce
        have hu1 : 0 ≤ u ∧ u < 128 := by omega
        have Hu := Lib.hid hu
        clear hu
        have hce : wr.cell? ⟨g, j, none⟩ = some (.int .u8 u) := hce
        by_cases hgo : 1 ≤ j ∧ u = 0
        · obtain ⟨hj1, hu0⟩ := hgo
          have hz := Lib.hid (show t / 2 ^ (7 * j) % 128 = 0 by rw [← Hu.out, hu0])
          subst hu0
          obtain ⟨j, rfl⟩ : ∃ i, j = i + 1 := ⟨j - 1, by omega⟩
          go_wp2
          exact ⟨j, by omega, rfl, last_zero t (j + 1) t0 Htj.out hz.out⟩
        · have hlast : j = 0 ∨ 2 ^ (7 * j) ≤ t := by
            by_cases h : j = 0
            · exact .inl h
            · exact .inr (last_more t j t0 (by rw [← Hu.out]; intro h0; exact hgo ⟨by omega, h0⟩))
          have hcase : j ≤ 0 ∨ (1 ≤ j ∧ ¬ u = 0) := by omega
          have Hlast := Lib.hid hlast
          clear hgo hlast
          rcases hcase with hj0 | ⟨hj1, hu0⟩
          all_goals
            go_wp2
            go_loopw [8] (fun i wq => ∃ k : Nat, k ≤ j ∧ i = .int .i64 k ∧ wq.ownsRow w1.heap.size 5 1 (.slice (some ⟨g, 0, none⟩) (j + 1) cap) (j + 1) (u8s (up128 t (j + 1) k)) ∧ Below w1.heap.size w1 wq) (fun i _ => j - (intOf i).toNat)
            case atStart => exact ⟨0, by omega, rfl, by rw [up128_zero, ← d128_take t 10 (j + 1) (by omega)]; simpa [u8s] using own_cut Hown.out (k := j + 1) (by omega), hbl⟩
            case round =>
              obtain ⟨k, hk, rfl, hown3, hbl3⟩ := hrel
              have hfr3 := hown3.frozenAt k
              by_cases hlt3 : k < j
              · try (exfalso; omega)
                all_goals
                  have hce3 := hown3.cellAt k (by omega)
                  rw [List.getElem?_map, up128_at t (j + 1) k (by omega)] at hce3
                  obtain ⟨r, hr⟩ : ∃ r, r = t / 2 ^ (7 * k) % 128 := ⟨_, rfl⟩
                  rw [← hr] at hce3
                  have hr1 : 0 ≤ r ∧ r < 128 := by omega
                  have Hr := Lib.hid hr
                  clear hr
                  have hce3 : wr.cell? ⟨g, k, none⟩ = some (.int .u8 r) := hce3
                  go_wp2
                  go_roundw
                  case rel =>
                      have h9 := (hown3.stored k (.int .u8 (r + 128))).1
                      rw [set_u8, Hr.out, up128_set] at h9
                      refine ⟨k + 1, by omega, by go_num, ?_, hbl3.setCell hg1 _⟩
                      rw [Hr.out]
                      exact h9
                  case measure => simp [intOf] <;> omega
              · obtain rfl : k = j := by omega
                go_wp2
                go_ret
                exact ⟨_, k + 1, rfl, by rw [sh_up k 10 t t0 (by omega) Htj.out Hlast.out]; exact own_base hown3 hsz1, hb1.trans (hbl3.mono hsz1)⟩
end Go.Proofs.Ytcfpjbbahpjhdaa
