/- The program's seal: Make, where there is no sector. -/
import Derived.Test.YtpmhjmbiiihfoaaDoorPSeal0
namespace Go.Proofs.YtpmhjmbiiihfoaaDoor
open Go.RowKit Go.Deep
set_option linter.unusedSimpArgs false
set_option linter.unusedVariables false

/-- Two new arrays of noughts, the first for what is answered. -/
theorem two_new (w : World) : ∃ w1, w1 = (w.alloc (.cells Tryd.zeroCells24 24)).alloc (.cells Tryd.zeroCells24 24) ∧ Blk w1 w.heap.size 24 (u8s zeros128) ∧ Blk w1 (w.heap.size + 1) 24 (u8s zeros128) ∧ Below w.heap.size w w1 := by
  refine ⟨_, rfl, (zero_new w).alloc _, ?_, (below_alloc _ _).trans ((below_alloc _ _).mono (by rw [nblk_alloc]; omega))⟩
  have := zero_new (w.alloc (.cells Tryd.zeroCells24 24))
  rw [nblk_alloc] at this
  exact this

set_option maxRecDepth 100000 in
set_option maxHeartbeats 3200000 in
theorem pmake_bad (kind n : Int) (A : Option Addr) (m c : Nat) (w : World) (hm : m ≤ 9223372036854775807) (er : Int) (her : er = makeErr kind n m) (hne : er ≠ 0) :
    Calls Tryd.prog 9 #[.int .i64 kind, .int .i64 n, .slice A m c] w fun e w' => e = .returned (.tuple #[.agg (u8s zeros128).toArray, .int .i64 er]) ∧ Below w.heap.size w w' := by
  obtain ⟨w1, hw1, hB1, hB2, hb1⟩ := two_new w
  have hsL : (Tryd.prog.info? 24).map (·.size) = some (u8s zeros128).length := by rw [size_arr, List.length_map, zeros_len]
  have hsA : (Tryd.prog.info? 24).map (·.size) = some (u8s zeros128).toArray.size := by rw [size_arr, List.size_toArray, List.length_map, zeros_len]
  have hth := hB1.there (n := (u8s zeros128).toArray.size) (by rw [List.size_toArray]; omega)
  have Hw1 := Lib.hid hw1; have Hr := Lib.hid hB2.range; have Hth := Lib.hid hth

  clear hw1 hth
  obtain ⟨w2, hw2⟩ : ∃ w2, w2 = w1.setCells w.heap.size 0 (u8s zeros128) := ⟨_, rfl⟩
  have hB3 : Blk w2 w.heap.size 24 (u8s zeros128) := by rw [hw2]; exact setCells_whole hB1 rfl
  have hb2 : Below w.heap.size w w2 := by rw [hw2]; exact below_setCells hb1 (Nat.le_refl _) _ _
  have Hw2 := Lib.hid hw2
  have Her := Lib.hid her
  have Hne := Lib.hid hne
  clear hw2 her hne hB1 hB2
  by_cases h1 : kind < 1
  · have he : er = 2 := by rw [Her.out, makeErr, if_pos (Or.inl h1)]
    subst he
    clear Her Hne
    go_enter Tryd.func9, Tryd.ntmps9
    go_wp2_with (first
      | (rw [← Hw1.out]; refine wpList_load_mid rfl 24 (.tmp 8) rfl (w.heap.size + 1) 0 rfl (u8s zeros128) _ Hr.out Tryd.underlying24 rfl hsL ?_)
      | (refine wpList_store_mid rfl 24 (.tmp 6) (.tmp 21) rfl w.heap.size 0 (u8s zeros128).toArray rfl rfl Hth.out hsA (all_oneCell_toArray (one_u8s _)) ?_; rw [show (u8s zeros128).toArray.toList = u8s zeros128 from rfl, ← Hw2.out]))
    refine bodyPost_ret (v := .tuple #[.agg (u8s zeros128).toArray, .int .i64 2]) ?_ rfl ⟨rfl, hb2⟩
    exact results_arr_int rfl _ _ w.heap.size 24 _ (0, 0) _ rfl hB3 Tryd.underlying24 rfl hsA _ rfl
  by_cases h2 : 255 < kind
  · have he : er = 2 := by rw [Her.out, makeErr, if_pos (Or.inr (Or.inl h2))]
    subst he
    clear Her Hne
    go_enter Tryd.func9, Tryd.ntmps9
    go_wp2_with (first
      | (rw [← Hw1.out]; refine wpList_load_mid rfl 24 (.tmp 8) rfl (w.heap.size + 1) 0 rfl (u8s zeros128) _ Hr.out Tryd.underlying24 rfl hsL ?_)
      | (refine wpList_store_mid rfl 24 (.tmp 6) (.tmp 21) rfl w.heap.size 0 (u8s zeros128).toArray rfl rfl Hth.out hsA (all_oneCell_toArray (one_u8s _)) ?_; rw [show (u8s zeros128).toArray.toList = u8s zeros128 from rfl, ← Hw2.out]))
    refine bodyPost_ret (v := .tuple #[.agg (u8s zeros128).toArray, .int .i64 2]) ?_ rfl ⟨rfl, hb2⟩
    exact results_arr_int rfl _ _ w.heap.size 24 _ (0, 0) _ rfl hB3 Tryd.underlying24 rfl hsA _ rfl
  by_cases h3 : n < 0
  · have he : er = 2 := by rw [Her.out, makeErr, if_pos (Or.inr (Or.inr h3))]
    subst he
    clear Her Hne
    go_enter Tryd.func9, Tryd.ntmps9
    go_wp2_with (first
      | (rw [← Hw1.out]; refine wpList_load_mid rfl 24 (.tmp 8) rfl (w.heap.size + 1) 0 rfl (u8s zeros128) _ Hr.out Tryd.underlying24 rfl hsL ?_)
      | (refine wpList_store_mid rfl 24 (.tmp 6) (.tmp 21) rfl w.heap.size 0 (u8s zeros128).toArray rfl rfl Hth.out hsA (all_oneCell_toArray (one_u8s _)) ?_; rw [show (u8s zeros128).toArray.toList = u8s zeros128 from rfl, ← Hw2.out]))
    refine bodyPost_ret (v := .tuple #[.agg (u8s zeros128).toArray, .int .i64 2]) ?_ rfl ⟨rfl, hb2⟩
    exact results_arr_int rfl _ _ w.heap.size 24 _ (0, 0) _ rfl hB3 Tryd.underlying24 rfl hsA _ rfl
  by_cases h4 : 113 < m
  · have he : er = 3 := by rw [Her.out, makeErr, if_neg (by omega), if_pos h4]
    subst he
    clear Her Hne
    have h4I : decide (113 < (m : Int)) = true := decide_eq_true (by omega)
    go_enter Tryd.func9, Tryd.ntmps9
    go_wp2_with (first
      | (rw [← Hw1.out]; refine wpList_load_mid rfl 24 (.tmp 8) rfl (w.heap.size + 1) 0 rfl (u8s zeros128) _ Hr.out Tryd.underlying24 rfl hsL ?_)
      | (refine wpList_store_mid rfl 24 (.tmp 6) (.tmp 26) rfl w.heap.size 0 (u8s zeros128).toArray rfl rfl Hth.out hsA (all_oneCell_toArray (one_u8s _)) ?_; rw [show (u8s zeros128).toArray.toList = u8s zeros128 from rfl, ← Hw2.out]))
    refine bodyPost_ret (v := .tuple #[.agg (u8s zeros128).toArray, .int .i64 3]) ?_ rfl ⟨rfl, hb2⟩
    exact results_arr_int rfl _ _ w.heap.size 24 _ (0, 0) _ rfl hB3 Tryd.underlying24 rfl hsA _ rfl
  exact absurd (by rw [Her.out, makeErr, if_neg (by omega), if_neg h4]) Hne.out
end Go.Proofs.YtpmhjmbiiihfoaaDoor
