import Derived.Test.YtpmhjmbiiihfoaaDoorVals
namespace Go.Proofs.YtpmhjmbiiihfoaaDoor
open Go.RowKit
set_option linter.unusedSimpArgs false
set_option linter.unusedVariables false



set_option maxHeartbeats 400000 in
theorem same_any (A B : Option Addr) (n m c d : Nat) (xs ys : List Int) (w : World) (hx : Sl w A n (u8s xs)) (hy : Sl w B m (u8s ys)) (hn : n ≤ 9223372036854775807) (hm : m ≤ 9223372036854775807) :
    Calls Tryd.prog 11 #[.slice A n c, .slice B m d] w fun e w' => e = .returned (.bool (decide (xs = ys))) ∧ ∃ k, w' = w.drewN k := by
  have hnx : xs.length = n := by simpa using hx.1
  have hny : ys.length = m := by simpa using hy.1
  have Hnx := Lib.hid hnx; have Hny := Lib.hid hny
  clear hnx hny
  by_cases hnm : n = m
  · subst hnm
    go_enter Tryd.func11, Tryd.ntmps11
    go_wp2
    go_loopw [5] (fun i wr => ∃ k : Nat, k ≤ n ∧ i = .int .i64 k ∧ xs.take k = ys.take k ∧ ∃ q, wr = w.drewN q) (fun i _ => n - (intOf i).toNat)
    case atStart => exact ⟨0, by omega, rfl, by simp, 0, rfl⟩
    case round =>
      obtain ⟨k, hk, rfl, heq, q, rfl⟩ := hrel
      have Heq := Lib.hid heq
      clear heq
      by_cases hlt : k < n
      · obtain ⟨a, u, rfl, ha, hu⟩ := hx.num hlt
        obtain ⟨b, v, rfl, hb, hv⟩ := hy.num hlt
        have Hu := Lib.hid hu; have Hv := Lib.hid hv
        clear hu hv
        by_cases huv : u = v
        · subst huv
          go_wp2
          go_quiet (fail)
          go_wp2
          go_roundw
          case rel => exact ⟨k + 1, by omega, by go_num, by rw [take_snoc _ _ _ Hu.out, take_snoc _ _ _ Hv.out, Heq.out], _, rfl⟩
          case measure => simp [intOf]; omega
        · go_wp2
          go_quiet (fail)
          go_wp2
          go_ret
          exact ⟨ret_bool (by rw [decide_eq_false]; rintro rfl; have := Hu.out.symm.trans Hv.out; simp at this; exact huv this), _, World.drewN_drewN _ _ _⟩
      · have : k = n := by omega
        subst this
        go_wp2
        go_ret
        exact ⟨ret_bool (by rw [decide_eq_true]; have h1 := Heq.out; rwa [List.take_of_length_le (by rw [Hnx.out]; omega), List.take_of_length_le (by rw [Hny.out]; omega)] at h1), _, rfl⟩
  · go_enter Tryd.func11, Tryd.ntmps11
    go_wp2
    go_ret
    exact ⟨ret_bool (by rw [decide_eq_false]; rintro rfl; exact hnm (Hnx.out.symm.trans Hny.out)), 0, rfl⟩
end Go.Proofs.YtpmhjmbiiihfoaaDoor
