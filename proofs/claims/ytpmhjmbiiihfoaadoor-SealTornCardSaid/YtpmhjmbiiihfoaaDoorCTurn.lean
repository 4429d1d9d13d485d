import Derived.Test.YtpmhjmbiiihfoaaDoorBitN
import Derived.Test.YtpmhjmbiiihfoaaDoorVals
namespace Go.Proofs.YtpmhjmbiiihfoaaDoor
open Go.RowKit

def turnL : List Int := [14, 13, 11, 8, 8, 3, 2, 0]
/-- The bits of the last of eight numbers, of those from the m-th on. -/
def turnTo (m : Nat) : List Int := (turnL.drop m).reverse.flatMap fun x => bitsTo x 4
theorem turn_next {m : Nat} {u : Int} (hu : turnL[m]? = some u) : turnTo m = turnTo (m + 1) ++ bitsTo u 4 := by
  unfold turnTo
  rw [drop_at turnL m u hu, List.reverse_cons, List.flatMap_append]
  simp
theorem turn_full : turnTo 0 = bl poly := by decide
theorem turn_len (m : Nat) : m ≤ 8 → (turnTo m).length = 4 * (8 - m) := by
  intro h
  rcases (show m = 0 ∨ m = 1 ∨ m = 2 ∨ m = 3 ∨ m = 4 ∨ m = 5 ∨ m = 6 ∨ m = 7 ∨ m = 8 by omega) with rfl | rfl | rfl | rfl | rfl | rfl | rfl | rfl | rfl <;> rfl

set_option maxHeartbeats 1600000 in
theorem cturn_any (w : World) : Calls Tryd.prog 28 #[] w fun e w' => ∃ v, e = .returned v ∧ w'.ownsRow w.heap.size 3 1 v 32 (i64s (bl poly)) ∧ Below w.heap.size w w' := by
  obtain ⟨i0, hi0, hz0, hz1, hz2⟩ := info_parts info_int
  obtain ⟨wa, hwa⟩ : ∃ wa, wa = w.alloc (.cells #[.int .i64 14, .int .i64 13, .int .i64 11, .int .i64 8, .int .i64 8, .int .i64 3, .int .i64 2, .int .i64 0] 3) := ⟨_, rfl⟩
  have hs : Sl wa (some ⟨w.heap.size, 0, none⟩) 8 (i64s turnL) := by rw [hwa]; exact Sl.new_ w 3 (i64s turnL) 8 rfl
  have hbel : Below w.heap.size w wa := by rw [hwa]; exact below_alloc _ _
  have hlt1 : w.heap.size < wa.heap.size := by rw [hwa]; simp
  have Hwa := Lib.hid hwa
  go_enter Tryd.func28, Tryd.ntmps28
  go_wp2
  rw [← hwa]
  clear hwa
  go_loopw [2, 3] (fun v i wr => ∃ (m : Nat) (iv : Int), m ≤ 8 ∧ i = .int .i64 iv ∧ iv = (m : Int) - 1 ∧ wr.ownsRow wa.heap.size 3 1 v (4 * (8 - m)) (i64s (turnTo m)) ∧ Below wa.heap.size wa wr) (fun _ i _ => (intOf i + 1).toNat)
  case atStart => exact ⟨8, 7, by omega, by go_num, by omega, World.ownsRow_nil _ _ _ _, Below.refl _ _⟩
  case round =>
    obtain ⟨m, iv, hm, rfl, hiv, hown, hbl⟩ := hrel
    have hsr := hs.below hbl
    have hsz := hbl.size
    rcases m with _ | m
    · obtain rfl : iv = -1 := by omega
      clear hiv
      have hown2 := own_base hown (show w.heap.size ≤ wa.heap.size by omega)
      rw [turn_full] at hown2
      have hbw := hbel.trans (hbl.mono (by omega))
      go_wp2
      go_ret
      exact ⟨_, rfl, hown2, hbw⟩
    · obtain rfl : iv = (m : Int) := by omega
      clear hiv
      obtain ⟨ad, u, had, hc, hu⟩ := hsr.num (k := m) (by omega)
      simp only [Option.some.injEq] at had
      subst had
      have hc : wr.cell? ⟨w.heap.size, m, none⟩ = some (.int .i64 u) := by
        have e : (⟨w.heap.size, 0, none⟩ : Addr).add m = ⟨w.heap.size, m, none⟩ := by unfold Addr.add; split <;> simp_all
        rw [← e]; exact hc
      have hu1 : 0 ≤ u ∧ u < 16 := by
        have : ∀ x ∈ turnL, 0 ≤ x ∧ x < 16 := by decide
        exact this u (List.mem_of_getElem? hu)
      have Hn := Lib.hid (turn_next hu)
      clear hu
      obtain ⟨wo, rfl⟩ : ∃ wo : World, wo = wr := ⟨_, rfl⟩
      have hd : decide (0 ≤ (m : Int)) = true := decide_eq_true (by omega)
      go_wp2
      go_loopw [2, 4, 5] (fun v q i wr => ∃ (j : Nat) (r : Int), j ≤ 4 ∧ i = .int .i64 j ∧ q = .int .i64 r ∧ 0 ≤ r ∧ r < 16 ∧ r = u / 2 ^ j ∧ wr.ownsRow wa.heap.size 3 1 v (4 * (8 - (m + 1)) + j) (i64s (turnTo (m + 1) ++ bitsTo u j)) ∧ Below wa.heap.size wa wr) (fun _ _ i _ => 4 - (intOf i).toNat)
      case atStart => exact ⟨0, u, by omega, rfl, rfl, hu1.1, hu1.2, by simp, by simpa [bitsTo] using hown, hbl⟩
      case round =>
        obtain ⟨j, r, hj, rfl, rfl, r1, r2, hr, hown2, hbl2⟩ := hrel
        have Hr := Lib.hid hr
        clear hr
        by_cases hjl : j < 4
        · have hsz2 := hbl2.size
          go_wp2_with (at_builtin; refine wpList_push _ _ 55 3 i0 _ _ 8 rfl rfl Tryd.underlying55 hi0 hz0 hz1 hz2 rfl wa.heap.size _ _ _ hown2 rfl rfl rfl (by omega) (by omega) hsz2 ?_; intro v' w2 hown3 hg2 hb2 hs2)
          go_roundw
          case rel =>
            refine ⟨j + 1, r / 2, by omega, by go_num, rfl, by omega, by omega, by rw [Hr.out, half_pow], ?_, hbl2.trans hb2⟩
            rw [bitsTo_succ, ← Hr.out, ← List.append_assoc]
            simpa [i64s, Nat.add_assoc] using hown3
          case measure => simp [intOf] <;> omega
        · obtain rfl : j = 4 := by omega
          go_wp2
          go_roundw
          case rel =>
            refine ⟨m, (m : Int) - 1, by omega, by go_num, rfl, ?_, hbl2⟩
            rw [Hn.out, show 4 * (8 - m) = 4 * (8 - (m + 1)) + 4 by omega]
            exact hown2
          case measure => simp [intOf] <;> omega
end Go.Proofs.YtpmhjmbiiihfoaaDoor
