/- The program's own meter. -/
import Derived.Test.YtifolkckehnimaaMet
import Derived.Test.YtifolkckehnimaaAtomic
import Derived.Test.YtifolkckehnimaaRMeter2
import Derived.Deep.OwnRows
namespace Go.Proofs.Ytifolkckehnimaa
open Go.RowKit

/-- The program's meter at b: its counts. -/
def PMet (w : World) (b : Nat) (L : List Int) : Prop := Met6 L ∧ w.rowIs b 47 6 (fun i => .int .i64 (L.getD i 0))

theorem PMet.lt {w : World} {b : Nat} {L : List Int} (h : PMet w b L) : b < w.heap.size := h.2.lt
theorem PMet.kept {w w' : World} {b : Nat} {L : List Int} (h : PMet w b L) (e : w'.heap[b]? = w.heap[b]?) : PMet w' b L := ⟨h.1, h.2.of_block e⟩
theorem PMet.cell {w : World} {b i : Nat} {L : List Int} {u : Int} (h : PMet w b L) (hi : i < 6) (hu : L[i]? = some u) : w.cell? ⟨b, i, none⟩ = some (.int .i64 u) := by
  have := h.2.cell hi
  simpa [List.getD, hu] using this
theorem PMet.set {w : World} {b : Nat} {L : List Int} (h : PMet w b L) (i : Nat) (hi : i < 6) (u : Int) (h1 : -9223372036854775808 ≤ u) (h2 : u ≤ 9223372036854775807) :
    PMet (w.setCell ⟨b, i, none⟩ (.int .i64 u)) b (L.set i u) ∧ w.grownBy (w.setCell ⟨b, i, none⟩ (.int .i64 u)) (some b) := by
  refine ⟨⟨met_set h.1 i h1 h2, (h.2.set i _).congr ?_⟩, ⟨rfl, rfl, rfl, by simp [World.setCell], fun k _ hne => Go.Deep.blk_setCell_other _ _ _ _ (fun e => hne (by rw [e]))⟩⟩
  intro j hj
  simp only [List.getD]
  by_cases e : j = i
  · subst e
    rw [if_pos rfl, List.getElem?_set_self (by rw [h.1.1]; exact hj)]; rfl
  · rw [if_neg e, List.getElem?_set_ne (fun h => e h.symm)]

theorem mhas_is (w : World) (b : Nat) (k : Int) : Calls Try.prog 18 #[.pointer (some ⟨b, 0, none⟩), .int .i64 k] w fun e w' => e = .returned (.bool (mHas k)) ∧ w' = w := by
  by_cases h1 : 1 ≤ k
  · by_cases h2 : k ≤ 6
    · have e : mHas k = true := decide_eq_true ⟨h1, h2⟩
      rw [e]
      have d1 : decide (1 ≤ k) = true := decide_eq_true h1
      have d2 : decide (k ≤ 6) = true := decide_eq_true h2
      go_enter Try.func18, Try.ntmps18
      go_wp2
      go_ret
      exact ⟨rfl, rfl⟩
    · have e : mHas k = false := decide_eq_false (by omega)
      rw [e]
      have d1 : decide (1 ≤ k) = true := decide_eq_true h1
      have d2 : decide (k ≤ 6) = false := decide_eq_false h2
      go_enter Try.func18, Try.ntmps18
      go_wp2
      go_ret
      exact ⟨rfl, rfl⟩
  · have e : mHas k = false := decide_eq_false (by omega)
    rw [e]
    have d1 : decide (1 ≤ k) = false := decide_eq_false h1
    go_enter Try.func18, Try.ntmps18
    go_wp2
    go_ret
    exact ⟨rfl, rfl⟩
theorem mhas_nil (w : World) (k : Int) : Calls Try.prog 18 #[.pointer none, .int .i64 k] w fun e w' => e = .returned (.bool false) ∧ w' = w := by
  go_enter Try.func18, Try.ntmps18
  go_wp2
  go_ret
  exact ⟨rfl, rfl⟩

theorem pnew_is (w : World) : Calls Try.prog 11 #[] w fun e w' => ∃ b, e = .returned (.pointer (some ⟨b, 0, none⟩)) ∧ w.heap.size ≤ b ∧ PMet w' b [0, 0, 0, 0, 0, 0] ∧ Below w.heap.size w w' := by
  go_enter Try.func11, Try.ntmps11
  go_wp2
  go_ret
  refine ⟨w.heap.size, rfl, Nat.le_refl _, ⟨met_zero, ⟨_, Go.Deep.blk_alloc_new _ _, rfl, ?_⟩⟩, below_alloc _ _⟩
  intro i hi
  match i, hi with
  | 0, _ => rfl
  | 1, _ => rfl
  | 2, _ => rfl
  | 3, _ => rfl
  | 4, _ => rfl
  | 5, _ => rfl

theorem padd_nil (w : World) (k n : Int) : Calls Try.prog 6 #[.pointer none, .int .i64 k, .int .i64 n] w fun e w' => e = .returned (.bool false) ∧ w' = w := by
  go_enter Try.func6, Try.ntmps6
  go_wp2_with fail
  refine (mhas_nil w k).mono ?_
  rintro e w1 ⟨rfl, hw⟩
  obtain rfl := hw.symm
  go_wp2
  go_ret
  exact ⟨rfl, rfl⟩
theorem praise_nil (w : World) (k n : Int) : Calls Try.prog 7 #[.pointer none, .int .i64 k, .int .i64 n] w fun e w' => e = .returned (.bool false) ∧ w' = w := by
  go_enter Try.func7, Try.ntmps7
  go_wp2_with fail
  refine (mhas_nil w k).mono ?_
  rintro e w1 ⟨rfl, hw⟩
  obtain rfl := hw.symm
  go_wp2
  go_ret
  exact ⟨rfl, rfl⟩
theorem pcount_nil (w : World) (k : Int) : Calls Try.prog 8 #[.pointer none, .int .i64 k] w fun e w' => e = .returned (.int .i64 0) ∧ w' = w := by
  go_enter Try.func8, Try.ntmps8
  go_wp2_with fail
  refine (mhas_nil w k).mono ?_
  rintro e w1 ⟨rfl, hw⟩
  obtain rfl := hw.symm
  go_wp2
  go_ret
  exact ⟨rfl, rfl⟩
theorem ptake_nil (w : World) (k : Int) : Calls Try.prog 9 #[.pointer none, .int .i64 k] w fun e w' => e = .returned (.int .i64 0) ∧ w' = w := by
  go_enter Try.func9, Try.ntmps9
  go_wp2_with fail
  refine (mhas_nil w k).mono ?_
  rintro e w1 ⟨rfl, hw⟩
  obtain rfl := hw.symm
  go_wp2
  go_ret
  exact ⟨rfl, rfl⟩
theorem pall_nil (w : World) : Calls Try.prog 10 #[.pointer none] w fun e w' => e = .returned (.slice none 0 0) ∧ w' = w := by
  go_enter Try.func10, Try.ntmps10
  go_wp2
  go_ret
  exact ⟨rfl, rfl⟩

set_option maxHeartbeats 800000 in
theorem padd_is (w : World) (b : Nat) (L : List Int) (k n : Int) (hn1 : -9223372036854775808 ≤ n) (hn2 : n ≤ 9223372036854775807) (h : PMet w b L) :
    Calls Try.prog 6 #[.pointer (some ⟨b, 0, none⟩), .int .i64 k, .int .i64 n] w fun e w' => e = .returned (.bool (mHas k)) ∧ PMet w' b (mAdd L k n) ∧ w.grownBy w' (some b) := by
  have hh := mhas_is w b k
  cases hk : mHas k
  · rw [(mOut hk).2.1]
    rw [hk] at hh
    go_enter Try.func6, Try.ntmps6
    go_wp2_with fail
    refine hh.mono ?_
    rintro e w1 ⟨rfl, hw⟩
    obtain rfl := hw.symm
    go_wp2
    go_ret
    exact ⟨rfl, h, grown_self _ _⟩
  · rw [hk] at hh
    obtain ⟨i, hi, rfl⟩ := mHas_in hk
    obtain ⟨u, hu, hu1, hu2⟩ := met_at h.1 hi
    have hc := h.cell hi hu
    have hf := h.2.frozen i
    have hk1 : (i : Int) + 1 - 1 = (i : Int) := by omega
    have hiI : (i : Int) < 6 := by omega
    rw [mAdd_at n hi hu]
    obtain ⟨z, hz⟩ : ∃ z, z = wrap64 (u + n) := ⟨_, rfl⟩
    have Hz := Lib.hid (h.set i hi z (by rw [hz]; exact (w64_range _).1) (by rw [hz]; exact (w64_range _).2))
    rw [← hz]
    have had := run_call_add (P := Try.prog) Try.func24 (by kernel_rfl) (by kernel_rfl) (by kernel_rfl) .i64 (by kernel_rfl) (y := n) (s := z) hc hf (by rw [hz]; simp [go_sem, wrap_i64])
    clear hz hu
    go_enter Try.func6, Try.ntmps6
    go_wp2_with fail
    refine hh.mono ?_
    rintro e w1 ⟨rfl, hw⟩
    obtain rfl := hw.symm
    go_wp2
    go_ret
    exact ⟨rfl, Hz.out⟩

set_option maxHeartbeats 800000 in
theorem ptake_is (w : World) (b : Nat) (L : List Int) (k : Int) (h : PMet w b L) :
    Calls Try.prog 9 #[.pointer (some ⟨b, 0, none⟩), .int .i64 k] w fun e w' => e = .returned (.int .i64 (mGet L k)) ∧ PMet w' b (mTake L k) ∧ w.grownBy w' (some b) := by
  have hh := mhas_is w b k
  cases hk : mHas k
  · rw [(mOut (n := 0) hk).1, (mOut (n := 0) hk).2.2.1]
    rw [hk] at hh
    go_enter Try.func9, Try.ntmps9
    go_wp2_with fail
    refine hh.mono ?_
    rintro e w1 ⟨rfl, hw⟩
    obtain rfl := hw.symm
    go_wp2
    go_ret
    exact ⟨rfl, h, grown_self _ _⟩
  · rw [hk] at hh
    obtain ⟨i, hi, rfl⟩ := mHas_in hk
    obtain ⟨u, hu, hu1, hu2⟩ := met_at h.1 hi
    have hc := h.cell hi hu
    have hf := h.2.frozen i
    have hk1 : (i : Int) + 1 - 1 = (i : Int) := by omega
    have hiI : (i : Int) < 6 := by omega
    rw [mGet_at hi hu, mTake_at hi]
    have Hz := Lib.hid (h.set i hi 0 (by omega) (by omega))
    have hsw := run_call_swap (P := Try.prog) Try.func27 (by kernel_rfl) (by kernel_rfl) (by kernel_rfl) .i64 (by kernel_rfl) (y := 0) hc hf
    clear hu
    go_enter Try.func9, Try.ntmps9
    go_wp2_with fail
    refine hh.mono ?_
    rintro e w1 ⟨rfl, hw⟩
    obtain rfl := hw.symm
    go_wp2
    go_ret
    exact ⟨rfl, Hz.out⟩

set_option maxHeartbeats 800000 in
theorem pcount_is (w : World) (b : Nat) (L : List Int) (k : Int) (h : PMet w b L) :
    Calls Try.prog 8 #[.pointer (some ⟨b, 0, none⟩), .int .i64 k] w fun e w' => e = .returned (.int .i64 (mGet L k)) ∧ w' = w := by
  have hh := mhas_is w b k
  cases hk : mHas k
  · rw [(mOut (n := 0) hk).1]
    rw [hk] at hh
    go_enter Try.func8, Try.ntmps8
    go_wp2_with fail
    refine hh.mono ?_
    rintro e w1 ⟨rfl, hw⟩
    obtain rfl := hw.symm
    go_wp2
    go_ret
    exact ⟨rfl, rfl⟩
  · rw [hk] at hh
    obtain ⟨i, hi, rfl⟩ := mHas_in hk
    obtain ⟨u, hu, hu1, hu2⟩ := met_at h.1 hi
    have hc := h.cell hi hu
    have hf := h.2.frozen i
    have hk1 : (i : Int) + 1 - 1 = (i : Int) := by omega
    have hiI : (i : Int) < 6 := by omega
    rw [mGet_at hi hu]
    have hld := run_call_load (P := Try.prog) Try.func25 (by kernel_rfl) (by kernel_rfl) (by kernel_rfl) .i64 (by kernel_rfl) hc
    clear hu
    go_enter Try.func8, Try.ntmps8
    go_wp2_with fail
    refine hh.mono ?_
    rintro e w1 ⟨rfl, hw⟩
    obtain rfl := hw.symm
    go_wp2
    go_ret
    exact ⟨rfl, rfl⟩

set_option maxHeartbeats 800000 in
theorem praise_is (w : World) (b : Nat) (L : List Int) (k n : Int) (hn1 : -9223372036854775808 ≤ n) (hn2 : n ≤ 9223372036854775807) (h : PMet w b L) :
    Calls Try.prog 7 #[.pointer (some ⟨b, 0, none⟩), .int .i64 k, .int .i64 n] w fun e w' => e = .returned (.bool (mUp L k n)) ∧ PMet w' b (mRaise L k n) ∧ w.grownBy w' (some b) := by
  have hh := mhas_is w b k
  cases hk : mHas k
  · rw [(mOut hk).2.2.2.1, (mOut hk).2.2.2.2]
    rw [hk] at hh
    go_enter Try.func7, Try.ntmps7
    go_wp2_with fail
    refine hh.mono ?_
    rintro e w1 ⟨rfl, hw⟩
    obtain rfl := hw.symm
    go_wp2
    go_ret
    exact ⟨rfl, h, grown_self _ _⟩
  · rw [hk] at hh
    obtain ⟨i, hi, rfl⟩ := mHas_in hk
    obtain ⟨u, hu, hu1, hu2⟩ := met_at h.1 hi
    have hc := h.cell hi hu
    have hf := h.2.frozen i
    have hk1 : (i : Int) + 1 - 1 = (i : Int) := by omega
    have hiI : (i : Int) < 6 := by omega
    have hld := run_call_load (P := Try.prog) Try.func25 (by kernel_rfl) (by kernel_rfl) (by kernel_rfl) .i64 (by kernel_rfl) hc
    have hcas := run_call_cas_hit (P := Try.prog) Try.func26 (by kernel_rfl) (by kernel_rfl) (by kernel_rfl) .i64 (by kernel_rfl) (y := n) hc hf
    by_cases hlt : u < n
    · rw [mUp_at n hi hu, decide_eq_true hlt, mRaise_at n hi hu hlt]
      have Hz := Lib.hid (h.set i hi n hn1 hn2)
      have hd : decide (n ≤ u) = false := decide_eq_false (by omega)
      clear hu hlt
      go_enter Try.func7, Try.ntmps7
      go_wp2_with fail
      refine hh.mono ?_
      rintro e w1 ⟨rfl, hw⟩
      obtain rfl := hw.symm
      go_wp2_with fail
      go_loopw [] (fun wr => wr = w) (fun _ => 1)
      case atStart => rfl
      case round =>
        obtain rfl := hrel.symm
        go_wp2
        go_ret
        exact ⟨rfl, Hz.out⟩
    · rw [mUp_at n hi hu, decide_eq_false hlt, mRaise_no n hi hu (by omega)]
      have hd : decide (n ≤ u) = true := decide_eq_true (by omega)
      clear hu hlt hcas
      go_enter Try.func7, Try.ntmps7
      go_wp2_with fail
      refine hh.mono ?_
      rintro e w1 ⟨rfl, hw⟩
      obtain rfl := hw.symm
      go_wp2_with fail
      go_loopw [] (fun wr => wr = w) (fun _ => 1)
      case atStart => rfl
      case round =>
        obtain rfl := hrel.symm
        go_wp2
        go_ret
        exact ⟨rfl, h, grown_self _ _⟩

/-- The first j of L, and noughts up to six. -/
def upTo (L : List Int) (j : Nat) : List Int := L.take j ++ List.replicate (6 - j) 0
theorem upTo_zero (L : List Int) : upTo L 0 = [0, 0, 0, 0, 0, 0] := by simp [upTo, List.replicate]
theorem upTo_six {L : List Int} (h : Met6 L) : upTo L 6 = L := by simp [upTo, List.take_of_length_le (show L.length ≤ 6 by rw [h.1]; omega)]
theorem upTo_set {L : List Int} (h : Met6 L) {j : Nat} (hj : j < 6) : (upTo L j).set j (mGet L ((j : Int) + 1)) = upTo L (j + 1) := by
  obtain ⟨u, hu, _⟩ := met_at h hj
  rw [mGet_at hj hu, upTo, upTo, take_snoc _ _ _ hu]
  have hl : (L.take j).length = j := by rw [List.length_take, h.1]; omega
  rw [List.set_append_right _ _ (by omega), hl, Nat.sub_self, show 6 - j = (6 - (j + 1)) + 1 by omega, List.replicate_succ, List.set_cons_zero, List.append_assoc]; rfl
set_option maxHeartbeats 800000 in
set_option maxRecDepth 100000 in
theorem pall_is (w : World) (b : Nat) (L : List Int) (h : PMet w b L) :
    Calls Try.prog 10 #[.pointer (some ⟨b, 0, none⟩)] w fun e w' => ∃ v, e = .returned v ∧ w'.ownsRow w.heap.size 3 1 v 6 (i64s L) ∧ Below w.heap.size w w' := by
  obtain ⟨i0, hi0, hz0, hz1, hz2⟩ := info_parts info_int
  go_enter Try.func10, Try.ntmps10
  go_wp2_with (at_make; refine wpList_mk _ _ 27 3 i0 _ 8 6 rfl rfl Try.underlying27 hi0 hz0 hz1 hz2 rfl .i64 .i64 _ _ rfl rfl rfl rfl (by omega) (by omega) ?_; intro w1 hown1 hb1)
  have hown2 : w1.ownsRow w.heap.size 3 1 (.slice (some ⟨w.heap.size, 0, none⟩) 6 6) 6 (i64s (upTo L 0)) := by rw [upTo_zero]; exact hown1
  clear hown1
  go_loopw [10] (fun i wr => ∃ j : Nat, j ≤ 6 ∧ i = .int .i64 j ∧ wr.ownsRow w.heap.size 3 1 (.slice (some ⟨w.heap.size, 0, none⟩) 6 6) 6 (i64s (upTo L j)) ∧ Below w.heap.size w wr) (fun i _ => 6 - (intOf i).toNat)
  case atStart => exact ⟨0, by omega, rfl, hown2, hb1⟩
  case round =>
    clear hown2 hb1
    obtain ⟨j, hj, rfl, hown, hb⟩ := hrel
    by_cases hlt : j < 6
    · have hm := h.kept (w' := wr) (hb.block b h.lt)
      obtain ⟨u, hu⟩ : ∃ u, u = mGet L ((j : Int) + 1) := ⟨_, rfl⟩
      have hset := upTo_set h.1 hlt
      have hlen : (upTo L j).length = 6 := by simpa using (own_len hown).symm
      obtain ⟨x, hx⟩ : ∃ x, (upTo L j)[j]? = some x := ⟨_, List.getElem?_eq_getElem (by omega)⟩
      have hc := own_cell hown hlt hx
      have hf := hown.frozenAt j
      have hcnt := pcount_is wr b L ((j : Int) + 1) hm
      rw [← hu] at hset hcnt
      have Hset := Lib.hid (own_set hown hset)
      clear hset hx hu hlen hm
      go_wp2_with fail
      refine hcnt.mono ?_
      rintro e w1 ⟨rfl, hw⟩
      obtain rfl := hw.symm
      go_wp2
      go_roundw
      case rel => exact ⟨j + 1, by omega, by go_num, Hset.out, hb.setCell (p := ⟨w.heap.size, j, none⟩) (Nat.le_refl _) _⟩
      case measure => simp [intOf]; omega
    · have : j = 6 := by omega
      subst this
      go_wp2
      go_ret
      exact ⟨_, rfl, by rwa [upTo_six h.1] at hown, hb⟩
end Go.Proofs.Ytifolkckehnimaa
