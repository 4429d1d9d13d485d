/- The program's disks that are none: nil, and one that no call made. -/
import Derived.Test.YthdclncgmhgmfaaPDisk
namespace Go.Proofs.Ythdclncgmhgmfaa
open Go.RowKit Go.Deep
set_option linter.unusedSimpArgs false
set_option linter.unusedVariables false

/-- A disk that is none. -/
def NoD (w : World) (p : Option Addr) : Prop := p = none ∨ ∃ b, p = some ⟨b, 0, none⟩ ∧ Blk w b 63 [.slice none 0 0, .slice none 0 0, .int .i64 0, .int .i64 0, .bool false, .pointer none]
theorem NoD.below {w w' : World} {p : Option Addr} (h : NoD w p) (hb : Below w.heap.size w w') : NoD w' p := by
  rcases h with h | ⟨b, h, hk⟩
  · exact Or.inl h
  · exact Or.inr ⟨b, h, hk.kept (hb.block _ hk.lt)⟩
theorem NoD.only {w w' : World} {p : Option Addr} (h : NoD w p) (ho : Only Nothing w w') : NoD w' p := h.below (ho.below (Nat.le_refl _) (fun _ h => h.elim))

theorem nnone_is (w : World) (p : Option Addr) (h : NoD w p) : Calls Try.prog 37 #[.pointer p] w fun e w' => e = .returned (.bool true) ∧ w' = w := by
  rcases h with rfl | ⟨b, rfl, hk⟩
  · go_enter Try.func37, Try.ntmps37
    go_wp2
    go_ret
    exact ⟨rfl, rfl⟩
  · have hc0 := hk.cell (i := 0) rfl
    go_enter Try.func37, Try.ntmps37
    go_wp2
    go_ret
    exact ⟨rfl, rfl⟩
theorem npowered_is (w : World) (p : Option Addr) (h : NoD w p) : Calls Try.prog 35 #[.pointer p] w fun e w' => e = .returned (.int .i64 1) ∧ w' = w := by
  go_enter Try.func35, Try.ntmps35
  go_wp2_with fail
  refine (nnone_is w p h).mono ?_
  rintro e w1 ⟨rfl, hw⟩
  obtain rfl := hw.symm
  go_wp2
  go_ret
  exact ⟨rfl, rfl⟩
theorem nreach_is (w : World) (p : Option Addr) (n : Int) (h : NoD w p) : Calls Try.prog 41 #[.pointer p, .int .i64 n] w fun e w' => e = .returned (.int .i64 1) ∧ w' = w := by
  go_enter Try.func41, Try.ntmps41
  go_wp2_with fail
  refine (npowered_is w p h).mono ?_
  rintro e w1 ⟨rfl, hw⟩
  obtain rfl := hw.symm
  go_wp2
  go_ret
  exact ⟨rfl, rfl⟩
theorem ncut_is (w : World) (p : Option Addr) (n : Int) (h : NoD w p) : Calls Try.prog 28 #[.pointer p, .int .i64 n] w fun e w' => e = .returned (.tuple #[]) ∧ Only Nothing w w' := by
  go_enter Try.func28, Try.ntmps28
  go_wp2_with fail
  refine (nnone_is w p h).mono ?_
  rintro e w1 ⟨rfl, hw⟩
  obtain rfl := hw.symm
  go_wp2
  exact bodyPost_ret (results_none rfl _ _ _) rfl ⟨rfl, Only.none_ _⟩
theorem ncrash_is (w : World) (p : Option Addr) (v : Value) (hv : ∃ A n c, v = .slice A n c) (h : NoD w p) : Calls Try.prog 27 #[.pointer p, v] w fun e w' => e = .returned (.tuple #[]) ∧ Only Nothing w w' := by
  obtain ⟨A, n, c, rfl⟩ := hv
  obtain ⟨w1, hw1⟩ : ∃ w1, w1 = w.alloc (.cells #[.slice A n c] 22) := ⟨_, rfl⟩
  have hb1 : Below w.heap.size w w1 := by rw [hw1]; exact below_alloc _ _
  have h1 := h.below hb1
  have Hw1 := Lib.hid hw1
  clear hw1 h
  go_enter Try.func27, Try.ntmps27
  go_wp2_with fail
  rw [← Hw1.out]
  refine (nnone_is w1 p h1).mono ?_
  rintro e w2 ⟨rfl, hw⟩
  obtain rfl := hw.symm
  go_wp2
  exact bodyPost_ret (results_none rfl _ _ _) rfl ⟨rfl, Only.of_below hb1⟩
theorem nflush_is (w : World) (p : Option Addr) (h : NoD w p) : Calls Try.prog 25 #[.pointer p] w fun e w' => e = .returned (.int .i64 1) ∧ Only Nothing w w' := by
  go_enter Try.func25, Try.ntmps25
  go_wp2_with fail
  refine (npowered_is w p h).mono ?_
  rintro e w1 ⟨rfl, hw⟩
  obtain rfl := hw.symm
  go_wp2
  go_ret
  exact ⟨rfl, Only.none_ _⟩
theorem nwrite_is (w : World) (p : Option Addr) (n : Int) (bs : List Int) (h : NoD w p) : Calls Try.prog 23 #[.pointer p, .int .i64 n, .agg (u8s bs).toArray] w fun e w' => e = .returned (.int .i64 1) ∧ Only Nothing w w' := by
  obtain ⟨w1, hw1⟩ : ∃ w1, w1 = w.alloc (.cells (u8s bs).toArray 52) := ⟨_, rfl⟩
  have hb1 : Below w.heap.size w w1 := by rw [hw1]; exact below_alloc _ _
  have h1 := h.below hb1
  have Hw1 := Lib.hid hw1
  clear hw1 h
  go_enter Try.func23, Try.ntmps23
  go_wp2_with fail
  rw [← Hw1.out]
  refine (nreach_is w1 p n h1).mono ?_
  rintro e w2 ⟨rfl, hw⟩
  obtain rfl := hw.symm
  go_wp2
  go_ret
  exact ⟨rfl, Only.of_below hb1⟩
set_option maxHeartbeats 800000 in
theorem nread_is (w : World) (p : Option Addr) (n : Int) (h : NoD w p) :
    Calls Try.prog 26 #[.pointer p, .int .i64 n] w fun e w' => e = .returned (.tuple #[.agg (u8s zeros128).toArray, .int .i64 1]) ∧ Only Nothing w w' := by
  obtain ⟨w1, hw1⟩ : ∃ w1, w1 = w.alloc (.cells Try.zeroCells52 52) := ⟨_, rfl⟩
  have hz : Blk w1 w.heap.size 52 (u8s zeros128) := by rw [hw1]; exact zero_new w
  have hb1 : Below w.heap.size w w1 := by rw [hw1]; exact below_alloc _ _
  have h1 := h.below hb1
  have hsz : Try.zeroCells52 = (u8s zeros128).toArray := zero_arr
  have hsize2 : (Try.prog.info? 52).map (·.size) = some Try.zeroCells52.size := by rw [size_arr, zero_size]
  have Hthere := Lib.hid (hz.there (n := Try.zeroCells52.size) (by rw [zero_size, List.length_map, zeros_len]; omega))
  have Hw1 := Lib.hid hw1
  have Hsz := Lib.hid hsz
  have Hone := Lib.hid (show Try.zeroCells52.all (·.oneCell') = true by rw [hsz]; exact all_oneCell_toArray (one_u8s _))
  clear hw1 h hsz
  go_enter Try.func26, Try.ntmps26
  go_wp2_with fail
  rw [← Hw1.out]
  clear Hw1
  refine (nreach_is w1 p n h1).mono ?_
  rintro e w2 ⟨rfl, hw⟩
  obtain rfl := hw.symm
  go_wp2_with (refine wpList_store_mid rfl 52 (.tmp 4) (.tmp 13) rfl w.heap.size 0 Try.zeroCells52 rfl rfl Hthere.out hsize2 Hone.out ?_)
  refine bodyPost_ret (v := .tuple #[.agg (u8s zeros128).toArray, .int .i64 1]) ?_ rfl ⟨rfl, Only.of_below (below_setCells hb1 (Nat.le_refl _) _ _)⟩
  rw [← Hsz.out]
  exact results_arr_int rfl _ _ w.heap.size 52 Try.zeroCells52 (0, 0) _ rfl (setCells_whole hz (by rw [Array.length_toList, zero_size, List.length_map, zeros_len])) Try.underlying52 rfl hsize2 _ rfl

theorem nsize_is (w : World) (p : Option Addr) (h : NoD w p) : Calls Try.prog 11 #[.pointer p] w fun e w' => e = .returned (.int .i64 0) ∧ Only Nothing w w' := by
  rcases h with rfl | ⟨b, rfl, hk⟩
  · go_enter Try.func11, Try.ntmps11
    go_wp2
    go_ret
    exact ⟨rfl, Only.none_ _⟩
  · have hc := hk.cell (i := 0) rfl
    go_enter Try.func11, Try.ntmps11
    go_wp2
    go_ret
    exact ⟨rfl, Only.none_ _⟩
theorem nleft_is (w : World) (p : Option Addr) (h : NoD w p) : Calls Try.prog 15 #[.pointer p] w fun e w' => e = .returned (.int .i64 0) ∧ Only Nothing w w' := by
  rcases h with rfl | ⟨b, rfl, hk⟩
  · go_enter Try.func15, Try.ntmps15
    go_wp2
    go_ret
    exact ⟨rfl, Only.none_ _⟩
  · have hc := hk.cell (i := 2) rfl
    go_enter Try.func15, Try.ntmps15
    go_wp2
    go_ret
    exact ⟨rfl, Only.none_ _⟩
theorem nwaits_is (w : World) (p : Option Addr) (h : NoD w p) : Calls Try.prog 14 #[.pointer p] w fun e w' => e = .returned (.int .i64 0) ∧ Only Nothing w w' := by
  rcases h with rfl | ⟨b, rfl, hk⟩
  · go_enter Try.func14, Try.ntmps14
    go_wp2
    go_ret
    exact ⟨rfl, Only.none_ _⟩
  · have hc := hk.cell (i := 1) rfl
    go_enter Try.func14, Try.ntmps14
    go_wp2
    go_ret
    exact ⟨rfl, Only.none_ _⟩
theorem nmeter_is (w : World) (p : Option Addr) (h : NoD w p) : Calls Try.prog 17 #[.pointer p] w fun e w' => e = .returned (.pointer none) ∧ Only Nothing w w' := by
  rcases h with rfl | ⟨b, rfl, hk⟩
  · go_enter Try.func17, Try.ntmps17
    go_wp2
    go_ret
    exact ⟨rfl, Only.none_ _⟩
  · have hc := hk.cell (i := 5) rfl
    go_enter Try.func17, Try.ntmps17
    go_wp2
    go_ret
    exact ⟨rfl, Only.none_ _⟩
theorem non_is (w : World) (p : Option Addr) (h : NoD w p) : Calls Try.prog 13 #[.pointer p] w fun e w' => e = .returned (.bool false) ∧ Only Nothing w w' := by
  go_enter Try.func13, Try.ntmps13
  go_wp2_with fail
  refine (npowered_is w p h).mono ?_
  rintro e w1 ⟨rfl, hw⟩
  obtain rfl := hw.symm
  go_wp2
  go_ret
  exact ⟨rfl, Only.none_ _⟩
theorem nimage_is (w : World) (p : Option Addr) (h : NoD w p) : Calls Try.prog 19 #[.pointer p] w fun e w' => e = .returned (.slice none 0 0) ∧ Only Nothing w w' := by
  go_enter Try.func19, Try.ntmps19
  go_wp2_with fail
  refine (nnone_is w p h).mono ?_
  rintro e w1 ⟨rfl, hw⟩
  obtain rfl := hw.symm
  go_wp2
  go_ret
  exact ⟨rfl, Only.none_ _⟩
end Go.Proofs.Ythdclncgmhgmfaa
