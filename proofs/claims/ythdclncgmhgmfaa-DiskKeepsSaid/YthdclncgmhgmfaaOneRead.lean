/- One: what is read. -/
import Derived.Test.YthdclncgmhgmfaaOne
namespace Go.Proofs.Ythdclncgmhgmfaa
open Go.RowKit Go.Deep
set_option linter.unusedSimpArgs false
set_option linter.unusedVariables false

set_option maxRecDepth 100000 in
set_option maxHeartbeats 3200000 in
theorem one_read_in (B : Nat) (w : World) (d c : Nat) (S : DS) (n : Int) (A : Option Addr) (m k : Nat) (h : Both B w d c S) (hB : B ≤ w.heap.size) (ho : S.off = false) (q : Nat) (hq : n = (q : Int)) (hqn : q < S.kept.length) :
    Calls Try.prog 12 #[.pointer (some ⟨d, 0, none⟩), .pointer (some ⟨c, 0, none⟩), .agg #[.int .i64 3, .int .i64 n, .slice A m k]] w (OnePost B w d c S) := by
  obtain ⟨w1, hw1⟩ : ∃ w1, w1 = w.alloc (.cells #[.int .i64 3, .int .i64 n, .slice A m k] 36) := ⟨_, rfl⟩
  have hb1 : Below w.heap.size w w1 := by rw [hw1]; exact below_alloc _ _
  have hP : Blk w1 w.heap.size 36 [.int .i64 3, .int .i64 n, .slice A m k] := by rw [hw1]; exact Blk.new _ _ _
  have hPF : ∀ F : Nat → Prop, (∀ k, F k → k < w.heap.size) → ¬ F w.heap.size := fun F hF hk => by have := hF _ hk; omega
  obtain ⟨F, G, hF, hG, hd, hFB, hGB⟩ := h
  have hPF1 := hPF F (fun k hk => hF.fin hk)
  have hPG1 := hPF G (fun k hk => hG.fin hk)
  have hF1 := hF.only (Only.of_below (F := Nothing) hb1) (fun _ _ hk => hk)
  have hG1 := hG.only (Only.of_below (F := Nothing) hb1) (fun _ _ hk => hk)
  have hB1 : B ≤ w1.heap.size := Nat.le_trans hB hb1.size
  have hp1 : w.heap.size < w1.heap.size := hP.lt
  have hdG : ∀ k, G k → ¬ F k := fun k hg hf => hd k hf hg
  have Hw1 := Lib.hid hw1
  clear hw1 hPF
  subst hq
  go_enter Try.func12, Try.ntmps12
  go_wp2_with fail
  rw [← Hw1.out]
  clear Hw1
  refine (dread_in F w1 d S hF1 q ho hqn).mono ?_
  rintro e w2 ⟨rfl, hF2, hO2⟩
  have hP2 := hO2.blk hP hPF1
  have hG2 := hG1.only hO2 hdG
  have hat : Byte128 (S.at_ q) := at_byte hF.wf hqn
  obtain ⟨w3, hw3⟩ : ∃ w3, w3 = (w2.alloc (.cells Try.zeroCells52 52)).setCells w2.heap.size 0 (u8s (S.at_ q)) := ⟨_, rfl⟩
  have hz : Blk (w2.alloc (.cells Try.zeroCells52 52)) w2.heap.size 52 (u8s zeros128) := by rw [zero_arr]; exact Blk.new _ 52 (u8s zeros128)
  have hb3 : Below w2.heap.size w2 w3 := by rw [hw3]; exact below_setCells (below_alloc _ _) (Nat.le_refl _) _ _
  have hR3 : Blk w3 w2.heap.size 52 (u8s (S.at_ q)) := by rw [hw3]; exact setCells_whole hz (by simp [hat.1, zeros_len])
  have Hthere := Lib.hid (hz.there (n := (u8s (S.at_ q)).toArray.size) (by rw [List.size_toArray, List.length_map, List.length_map, hat.1, zeros_len]; omega))
  have hsize2 : (Try.prog.info? 52).map (·.size) = some (u8s (S.at_ q)).toArray.size := by rw [size_arr, List.size_toArray, List.length_map, hat.1]
  have hP3 := hP2.kept (hb3.block _ hP2.lt)
  have hF3 := hF2.only (Only.of_below (F := Nothing) hb3) (fun _ _ hk => hk)
  have hG3 := hG2.only (Only.of_below (F := Nothing) hb3) (fun _ _ hk => hk)
  have hN3 := hP3.cell (i := 1) rfl
  have Hw3 := Lib.hid hw3
  clear hw3 hz
  go_wp2_with (refine wpList_store_mid rfl 52 (.tmp 8) (.tmp 44) rfl w2.heap.size 0 (u8s (S.at_ q)).toArray rfl rfl Hthere.out hsize2 (all_oneCell_toArray (one_u8s _)) ?_; rw [← Hw3.out])
  refine (rread_in G w3 c S q hG3 ho hqn).mono ?_
  rintro e w4 ⟨v, rfl, hv, hG4, hO4⟩
  have hR4 : Blk w4 w2.heap.size 52 (u8s (S.at_ q)) := hO4.blk hR3 (fun hg => by have := hG2.fin hg; omega)
  obtain ⟨Av, cv, rfl, hsv, hlcv⟩ := hv.sl
  rw [hat.1] at hsv
  have hlv : (S.at_ q).length = 128 := hat.1
  have hsl := hR4.sl8
  rw [hat.1] at hsl
  have hfin : OnePost B w d c S (.returned (.bool true)) w4 := by
    obtain ⟨hboth, hbel⟩ := both_step (w1 := w3) hF1 hG1 hd hFB hGB hB1 (hF3.mono' (by
      intro k hk
      rcases hk with hk | hk
      · exact Or.inl hk
      · exact Or.inr ⟨hk.1, Nat.lt_of_lt_of_le hk.2 hb3.size⟩) (fun k hk => by
      rcases hk with hk | hk
      · exact Nat.lt_of_lt_of_le (hF1.fin hk) (Nat.le_trans hO2.size hb3.size)
      · exact hk.2)) (hO2.trans (Only.of_below (F := F) hb3) (fun _ _ h => h)) (hG4.mono (G := More G w3 w4) (fun _ _ h => Or.inl h) (fun k hk => by rcases hk with hk | hk; exact hG4.fin hk; exact hk.2)) hO4
    exact ⟨rfl, _, hboth, (hb1.mono hB).trans hbel, by rw [(count_len S 0).1]; omega, rfl⟩
  have Hfin := Lib.hid (fun k => (⟨rfl, hfin.2.choose, hfin.2.choose_spec.1.nothing ((Only.refl Nothing w4).drewN k), (below_drewN hfin.2.choose_spec.2.1 k), hfin.2.choose_spec.2.2⟩ : OnePost B w d c S (.returned (.bool true)) (w4.drewN k)))
  clear hfin
  go_wp2_with fail
  refine (same_any (some ⟨w2.heap.size, 0, none⟩) Av 128 128 128 cv (S.at_ q) (S.at_ q) w4 hsl hsv (by omega) (by omega)).mono ?_
  rintro e w5 ⟨rfl, kk, rfl⟩
  rw [decide_eq_true rfl]
  go_wp2
  go_ret
  exact (show OnePost B w d c S (.returned (.bool true)) _ from ⟨rfl, (Hfin.out kk).2⟩)

set_option maxRecDepth 100000 in
set_option maxHeartbeats 3200000 in
theorem one_read_off (B : Nat) (w : World) (d c : Nat) (S : DS) (n : Int) (A : Option Addr) (m k : Nat) (h : Both B w d c S) (hB : B ≤ w.heap.size) (ho : S.off = true) :
    Calls Try.prog 12 #[.pointer (some ⟨d, 0, none⟩), .pointer (some ⟨c, 0, none⟩), .agg #[.int .i64 3, .int .i64 n, .slice A m k]] w (OnePost B w d c S) := by
  obtain ⟨w1, hw1⟩ : ∃ w1, w1 = w.alloc (.cells #[.int .i64 3, .int .i64 n, .slice A m k] 36) := ⟨_, rfl⟩
  have hb1 : Below w.heap.size w w1 := by rw [hw1]; exact below_alloc _ _
  have hP : Blk w1 w.heap.size 36 [.int .i64 3, .int .i64 n, .slice A m k] := by rw [hw1]; exact Blk.new _ _ _
  have hPF : ∀ F : Nat → Prop, (∀ k, F k → k < w.heap.size) → ¬ F w.heap.size := fun F hF hk => by have := hF _ hk; omega
  obtain ⟨F, G, hF, hG, hd, hFB, hGB⟩ := h
  have hPF1 := hPF F (fun k hk => hF.fin hk)
  have hPG1 := hPF G (fun k hk => hG.fin hk)
  have hF1 := hF.only (Only.of_below (F := Nothing) hb1) (fun _ _ hk => hk)
  have hG1 := hG.only (Only.of_below (F := Nothing) hb1) (fun _ _ hk => hk)
  have hB1 : B ≤ w1.heap.size := Nat.le_trans hB hb1.size
  have hp1 : w.heap.size < w1.heap.size := hP.lt
  have hdG : ∀ k, G k → ¬ F k := fun k hg hf => hd k hf hg
  have Hw1 := Lib.hid hw1
  clear hw1 hPF
  go_enter Try.func12, Try.ntmps12
  go_wp2_with fail
  rw [← Hw1.out]
  clear Hw1
  refine (dread_off F w1 d S hF1 n ho).mono ?_
  rintro e w2 ⟨rfl, hO2⟩
  have hP2 := hO2.blk hP (fun hk => hk)
  have hF2 := hF1.only hO2 (fun _ _ hk => hk)
  have hG2 := hG1.only hO2 (fun _ _ hk => hk)
  obtain ⟨w3, hw3⟩ : ∃ w3, w3 = (w2.alloc (.cells Try.zeroCells52 52)).setCells w2.heap.size 0 (u8s zeros128) := ⟨_, rfl⟩
  have hz : Blk (w2.alloc (.cells Try.zeroCells52 52)) w2.heap.size 52 (u8s zeros128) := by rw [zero_arr]; exact Blk.new _ 52 (u8s zeros128)
  have hb3 : Below w2.heap.size w2 w3 := by rw [hw3]; exact below_setCells (below_alloc _ _) (Nat.le_refl _) _ _
  have hR3 : Blk w3 w2.heap.size 52 (u8s zeros128) := by rw [hw3]; exact setCells_whole hz rfl
  have Hthere := Lib.hid (hz.there (n := (u8s zeros128).toArray.size) (by rw [List.size_toArray]; omega))
  have hsize2 : (Try.prog.info? 52).map (·.size) = some (u8s zeros128).toArray.size := by rw [size_arr, List.size_toArray, List.length_map, zeros_len]
  have hsize : (Try.prog.info? 52).map (·.size) = some (u8s zeros128).length := by rw [size_arr, List.length_map, zeros_len]
  have hP3 := hP2.kept (hb3.block _ hP2.lt)
  have hF3 := hF2.only (Only.of_below (F := Nothing) hb3) (fun _ _ hk => hk)
  have hG3 := hG2.only (Only.of_below (F := Nothing) hb3) (fun _ _ hk => hk)
  have hN3 := hP3.cell (i := 1) rfl
  have Hrange := Lib.hid hR3.range
  have Hw3 := Lib.hid hw3
  have Heq := Lib.hid (show (Op.equalIn 10000 52 (.agg (u8s zeros128).toArray) (.agg Try.zeroCells52)).run Try.prog w3 = .ok true w3 by
    have := arr128_eq zeros128 zeros128 zeros_len zeros_len w3
    rw [decide_eq_true rfl] at this
    rw [zero_arr]; exact this)
  clear hw3 hz
  go_wp2_with (refine wpList_store_mid rfl 52 (.tmp 8) (.tmp 44) rfl w2.heap.size 0 (u8s zeros128).toArray rfl rfl Hthere.out hsize2 (all_oneCell_toArray (one_u8s _)) ?_; rw [← Hw3.out])
  refine (rread_off G w3 c S n hG3 ho).mono ?_
  rintro e w4 ⟨rfl, hw4⟩
  obtain rfl := hw4.symm
  have Hfin := Lib.hid (OnePost.same (B := B) (w := w) (w' := w3) (d := d) (c := c) (S := S) ⟨F, G, hF3, hG3, hd, hFB, hGB⟩ (((hb1.mono hB).trans (hO2.nothing_below hB1)).trans (hb3.mono (Nat.le_trans hB1 hO2.size))))
  go_wp2_with fail
  refine wp_load_mid 52 (.tmp 8) rfl w2.heap.size 0 rfl (u8s zeros128) _ Hrange.out Try.underlying52 rfl hsize ?_
  have Heq2 := Heq.out
  go_wp2
  go_ret
  exact Hfin.out

set_option maxRecDepth 100000 in
set_option maxHeartbeats 3200000 in
theorem one_read_out (B : Nat) (w : World) (d c : Nat) (S : DS) (n : Int) (A : Option Addr) (m k : Nat) (h : Both B w d c S) (hB : B ≤ w.heap.size) (ho : S.off = false) (hn : n < 0 ∨ (S.kept.length : Int) ≤ n) :
    Calls Try.prog 12 #[.pointer (some ⟨d, 0, none⟩), .pointer (some ⟨c, 0, none⟩), .agg #[.int .i64 3, .int .i64 n, .slice A m k]] w (OnePost B w d c S) := by
  obtain ⟨w1, hw1⟩ : ∃ w1, w1 = w.alloc (.cells #[.int .i64 3, .int .i64 n, .slice A m k] 36) := ⟨_, rfl⟩
  have hb1 : Below w.heap.size w w1 := by rw [hw1]; exact below_alloc _ _
  have hP : Blk w1 w.heap.size 36 [.int .i64 3, .int .i64 n, .slice A m k] := by rw [hw1]; exact Blk.new _ _ _
  have hPF : ∀ F : Nat → Prop, (∀ k, F k → k < w.heap.size) → ¬ F w.heap.size := fun F hF hk => by have := hF _ hk; omega
  obtain ⟨F, G, hF, hG, hd, hFB, hGB⟩ := h
  have hPF1 := hPF F (fun k hk => hF.fin hk)
  have hPG1 := hPF G (fun k hk => hG.fin hk)
  have hF1 := hF.only (Only.of_below (F := Nothing) hb1) (fun _ _ hk => hk)
  have hG1 := hG.only (Only.of_below (F := Nothing) hb1) (fun _ _ hk => hk)
  have hB1 : B ≤ w1.heap.size := Nat.le_trans hB hb1.size
  have hp1 : w.heap.size < w1.heap.size := hP.lt
  have hdG : ∀ k, G k → ¬ F k := fun k hg hf => hd k hf hg
  have Hw1 := Lib.hid hw1
  clear hw1 hPF
  go_enter Try.func12, Try.ntmps12
  go_wp2_with fail
  rw [← Hw1.out]
  clear Hw1
  refine (dread_out F w1 d S hF1 n ho hn).mono ?_
  rintro e w2 ⟨rfl, hO2⟩
  have hP2 := hO2.blk hP (fun hk => hk)
  have hF2 := hF1.only hO2 (fun _ _ hk => hk)
  have hG2 := hG1.only hO2 (fun _ _ hk => hk)
  obtain ⟨w3, hw3⟩ : ∃ w3, w3 = (w2.alloc (.cells Try.zeroCells52 52)).setCells w2.heap.size 0 (u8s zeros128) := ⟨_, rfl⟩
  have hz : Blk (w2.alloc (.cells Try.zeroCells52 52)) w2.heap.size 52 (u8s zeros128) := by rw [zero_arr]; exact Blk.new _ 52 (u8s zeros128)
  have hb3 : Below w2.heap.size w2 w3 := by rw [hw3]; exact below_setCells (below_alloc _ _) (Nat.le_refl _) _ _
  have hR3 : Blk w3 w2.heap.size 52 (u8s zeros128) := by rw [hw3]; exact setCells_whole hz rfl
  have Hthere := Lib.hid (hz.there (n := (u8s zeros128).toArray.size) (by rw [List.size_toArray]; omega))
  have hsize2 : (Try.prog.info? 52).map (·.size) = some (u8s zeros128).toArray.size := by rw [size_arr, List.size_toArray, List.length_map, zeros_len]
  have hsize : (Try.prog.info? 52).map (·.size) = some (u8s zeros128).length := by rw [size_arr, List.length_map, zeros_len]
  have hP3 := hP2.kept (hb3.block _ hP2.lt)
  have hF3 := hF2.only (Only.of_below (F := Nothing) hb3) (fun _ _ hk => hk)
  have hG3 := hG2.only (Only.of_below (F := Nothing) hb3) (fun _ _ hk => hk)
  have hN3 := hP3.cell (i := 1) rfl
  have Hrange := Lib.hid hR3.range
  have Hw3 := Lib.hid hw3
  have Heq := Lib.hid (show (Op.equalIn 10000 52 (.agg (u8s zeros128).toArray) (.agg Try.zeroCells52)).run Try.prog w3 = .ok true w3 by
    have := arr128_eq zeros128 zeros128 zeros_len zeros_len w3
    rw [decide_eq_true rfl] at this
    rw [zero_arr]; exact this)
  clear hw3 hz
  go_wp2_with (refine wpList_store_mid rfl 52 (.tmp 8) (.tmp 44) rfl w2.heap.size 0 (u8s zeros128).toArray rfl rfl Hthere.out hsize2 (all_oneCell_toArray (one_u8s _)) ?_; rw [← Hw3.out])
  refine (rread_out G w3 c S n hG3 ho hn).mono ?_
  rintro e w4 ⟨rfl, hw4⟩
  obtain rfl := hw4.symm
  have Hfin := Lib.hid (OnePost.same (B := B) (w := w) (w' := w3) (d := d) (c := c) (S := S) ⟨F, G, hF3, hG3, hd, hFB, hGB⟩ (((hb1.mono hB).trans (hO2.nothing_below hB1)).trans (hb3.mono (Nat.le_trans hB1 hO2.size))))
  go_wp2_with fail
  refine wp_load_mid 52 (.tmp 8) rfl w2.heap.size 0 rfl (u8s zeros128) _ Hrange.out Try.underlying52 rfl hsize ?_
  have Heq2 := Heq.out
  go_wp2
  go_ret
  exact Hfin.out
end Go.Proofs.Ythdclncgmhgmfaa
