/- One: what is written. -/
import Derived.Test.YthdclncgmhgmfaaOneRead
namespace Go.Proofs.Ythdclncgmhgmfaa
open Go.RowKit Go.Deep
set_option linter.unusedSimpArgs false
set_option linter.unusedVariables false

set_option maxRecDepth 100000 in
set_option maxHeartbeats 6400000 in
theorem one_write_off (B : Nat) (w : World) (d c : Nat) (S : DS) (n : Int) (A : Option Addr) (m k : Nat) (xs : List Int) (h : Both B w d c S) (hB : B ≤ w.heap.size) (hx : Sl w A m (u8s xs)) (hxb : ∀ x ∈ xs, 0 ≤ x ∧ x < 256) (hm : m ≤ 9223372036854775807) (ho : S.off = true) :
    Calls Try.prog 12 #[.pointer (some ⟨d, 0, none⟩), .pointer (some ⟨c, 0, none⟩), .agg #[.int .i64 1, .int .i64 n, .slice A m k]] w (OnePost B w d c S) := by
  obtain ⟨w1, hw1⟩ : ∃ w1, w1 = w.alloc (.cells #[.int .i64 1, .int .i64 n, .slice A m k] 36) := ⟨_, rfl⟩
  have hb1 : Below w.heap.size w w1 := by rw [hw1]; exact below_alloc _ _
  have hP : Blk w1 w.heap.size 36 [.int .i64 1, .int .i64 n, .slice A m k] := by rw [hw1]; exact Blk.new _ _ _
  have hPF : ∀ F : Nat → Prop, (∀ k, F k → k < w.heap.size) → ¬ F w.heap.size := fun F hF hk => by have := hF _ hk; omega
  obtain ⟨F, G, hF, hG, hd, hFB, hGB⟩ := h
  have hPF1 := hPF F (fun k hk => hF.fin hk)
  have hPG1 := hPF G (fun k hk => hG.fin hk)
  have hF1 := hF.only (Only.of_below (F := Nothing) hb1) (fun _ _ hk => hk)
  have hG1 := hG.only (Only.of_below (F := Nothing) hb1) (fun _ _ hk => hk)
  have hB1 : B ≤ w1.heap.size := Nat.le_trans hB hb1.size
  have hp1 : w.heap.size < w1.heap.size := hP.lt
  have hdG : ∀ k, G k → ¬ F k := fun k hg hf => hd k hf hg
  have Hw1 := Lib.hid hw1
  clear hw1 hPF
  have hx1 := hx.below hb1
  obtain ⟨bs, hbs⟩ : ∃ bs, bs = fullOf xs := ⟨_, rfl⟩
  have hbB : Byte128 bs := by rw [hbs]; exact fullOf_byte hxb
  have Hfull := Lib.hid (show Calls Try.prog 24 #[.slice A m k] w1 fun e w' => e = .returned (.agg (u8s bs).toArray) ∧ Below w1.heap.size w1 w' by rw [hbs]; exact full_is w1 A m k xs hx1 hm)
  have HbB := Lib.hid hbB
  have hcB := hP.cell (i := 2) rfl
  clear hbs
  go_enter Try.func12, Try.ntmps12
  go_wp2_with fail
  rw [← Hw1.out]
  clear Hw1
  refine Hfull.out.mono ?_
  rintro e w2 ⟨rfl, hb2⟩
  have hF2 := hF1.only (Only.of_below (F := Nothing) hb2) (fun _ _ hk => hk)
  have hG2 := hG1.only (Only.of_below (F := Nothing) hb2) (fun _ _ hk => hk)
  have hP2 := hP.kept (hb2.block _ hP.lt)
  obtain ⟨w3, hw3⟩ : ∃ w3, w3 = (w2.alloc (.cells Try.zeroCells52 52)).setCells w2.heap.size 0 (u8s bs) := ⟨_, rfl⟩
  have hz : Blk (w2.alloc (.cells Try.zeroCells52 52)) w2.heap.size 52 (u8s zeros128) := by rw [zero_arr]; exact Blk.new _ 52 (u8s zeros128)
  have hb3 : Below w2.heap.size w2 w3 := by rw [hw3]; exact below_setCells (below_alloc _ _) (Nat.le_refl _) _ _
  have hR3 : Blk w3 w2.heap.size 52 (u8s bs) := by rw [hw3]; exact setCells_whole hz (by simp [HbB.out.1, zeros_len])
  have Hthere := Lib.hid (hz.there (n := (u8s bs).toArray.size) (by rw [List.size_toArray, List.length_map, List.length_map, HbB.out.1, zeros_len]; omega))
  have hsize2 : (Try.prog.info? 52).map (·.size) = some (u8s bs).toArray.size := by rw [size_arr, List.size_toArray, List.length_map, HbB.out.1]
  have hP3 := hP2.kept (hb3.block _ hP2.lt)
  have hF3 := hF2.only (Only.of_below (F := Nothing) hb3) (fun _ _ hk => hk)
  have hG3 := hG2.only (Only.of_below (F := Nothing) hb3) (fun _ _ hk => hk)
  have Hw3 := Lib.hid hw3
  have hs23 : w2.heap.size < w3.heap.size := hR3.lt
  have hs12 : w1.heap.size ≤ w2.heap.size := hb2.size
  clear hw3 hz hcB
  go_wp2_with (refine wpList_store_mid rfl 52 (.tmp 7) (.tmp 18) rfl w2.heap.size 0 (u8s bs).toArray rfl rfl Hthere.out hsize2 (all_oneCell_toArray (one_u8s _)) ?_; rw [← Hw3.out])
  clear Hw3 hsize2 Hthere Hfull
  have hN3 : w3.cell? ⟨w.heap.size, 1, none⟩ = some (.int .i64 n) := hP3.cell rfl
  have hu := Try.underlying52
  have hi : (Try.prog.info? 52).map (·.size) = some (u8s bs).length := by rw [size_arr, List.length_map, HbB.out.1]
  have hlen : (u8s bs).length = 128 := by rw [List.length_map, HbB.out.1]
  have hone := one_u8s bs
  have hrg : w3.rangeAt w2.heap.size 0 (u8s bs) := hR3.range
  have hsl3 := hR3.sl8
  rw [HbB.out.1] at hsl3
  have hbt3 : Below B w w3 := ((hb1.mono hB).trans (hb2.mono hB1)).trans (hb3.mono (Nat.le_trans hB1 hs12))
  go_region_held3 (fun w' => w'.cell? ⟨w.heap.size, 1, none⟩ = some (.int .i64 n) ∧ w'.rangeAt w2.heap.size 0 (u8s bs))
    (first | exact ⟨hN3, hrg⟩ | exact ⟨hN4, hrg4⟩ | exact ⟨hN5, hrg5⟩)
    (first
      | (go_at_call 23; refine (dwrite_off F w3.drew d S hF3.drew n bs HbB.out ho).mono ?_; rintro e w4 ⟨rfl, hO4x⟩;
         have hO4 := hO4x.undrew;
         have hP4 := hO4.blk hP3 (fun hk => hk);
         have hR4 := hO4.blk hR3 (fun hk => hk);
         have hN4 : w4.cell? ⟨w.heap.size, 1, none⟩ = some (.int .i64 n) := hP4.cell rfl;
         have hrg4 : w4.rangeAt w2.heap.size 0 (u8s bs) := hR4.range;
         have hG4 := hG3.only hO4 (fun _ _ hk => hk);
         have hsl4 := hR4.sl8)
      | (go_at_call 30; refine (rwrite_off G w4 c S n _ 128 128 hG4 ho).mono ?_; rintro e w5 ⟨rfl, hw5⟩; obtain rfl := hw5.symm))
  have hfin : OnePost B w d c S (.returned (.bool true)) w4 := OnePost.same ⟨F, G, hF3.only hO4 (fun _ _ hk => hk), hG4, hd, hFB, hGB⟩ (hbt3.trans (hO4.nothing_below (by omega)))
  go_wp2
  go_ret
  exact hfin

set_option maxRecDepth 100000 in
set_option maxHeartbeats 6400000 in
theorem one_write_out (B : Nat) (w : World) (d c : Nat) (S : DS) (n : Int) (A : Option Addr) (m k : Nat) (xs : List Int) (h : Both B w d c S) (hB : B ≤ w.heap.size) (hx : Sl w A m (u8s xs)) (hxb : ∀ x ∈ xs, 0 ≤ x ∧ x < 256) (hm : m ≤ 9223372036854775807) (ho : S.off = false) (hn : n < 0 ∨ (S.kept.length : Int) ≤ n) :
    Calls Try.prog 12 #[.pointer (some ⟨d, 0, none⟩), .pointer (some ⟨c, 0, none⟩), .agg #[.int .i64 1, .int .i64 n, .slice A m k]] w (OnePost B w d c S) := by
  obtain ⟨w1, hw1⟩ : ∃ w1, w1 = w.alloc (.cells #[.int .i64 1, .int .i64 n, .slice A m k] 36) := ⟨_, rfl⟩
  have hb1 : Below w.heap.size w w1 := by rw [hw1]; exact below_alloc _ _
  have hP : Blk w1 w.heap.size 36 [.int .i64 1, .int .i64 n, .slice A m k] := by rw [hw1]; exact Blk.new _ _ _
  have hPF : ∀ F : Nat → Prop, (∀ k, F k → k < w.heap.size) → ¬ F w.heap.size := fun F hF hk => by have := hF _ hk; omega
  obtain ⟨F, G, hF, hG, hd, hFB, hGB⟩ := h
  have hPF1 := hPF F (fun k hk => hF.fin hk)
  have hPG1 := hPF G (fun k hk => hG.fin hk)
  have hF1 := hF.only (Only.of_below (F := Nothing) hb1) (fun _ _ hk => hk)
  have hG1 := hG.only (Only.of_below (F := Nothing) hb1) (fun _ _ hk => hk)
  have hB1 : B ≤ w1.heap.size := Nat.le_trans hB hb1.size
  have hp1 : w.heap.size < w1.heap.size := hP.lt
  have hdG : ∀ k, G k → ¬ F k := fun k hg hf => hd k hf hg
  have Hw1 := Lib.hid hw1
  clear hw1 hPF
  have hx1 := hx.below hb1
  obtain ⟨bs, hbs⟩ : ∃ bs, bs = fullOf xs := ⟨_, rfl⟩
  have hbB : Byte128 bs := by rw [hbs]; exact fullOf_byte hxb
  have Hfull := Lib.hid (show Calls Try.prog 24 #[.slice A m k] w1 fun e w' => e = .returned (.agg (u8s bs).toArray) ∧ Below w1.heap.size w1 w' by rw [hbs]; exact full_is w1 A m k xs hx1 hm)
  have HbB := Lib.hid hbB
  have hcB := hP.cell (i := 2) rfl
  clear hbs
  go_enter Try.func12, Try.ntmps12
  go_wp2_with fail
  rw [← Hw1.out]
  clear Hw1
  refine Hfull.out.mono ?_
  rintro e w2 ⟨rfl, hb2⟩
  have hF2 := hF1.only (Only.of_below (F := Nothing) hb2) (fun _ _ hk => hk)
  have hG2 := hG1.only (Only.of_below (F := Nothing) hb2) (fun _ _ hk => hk)
  have hP2 := hP.kept (hb2.block _ hP.lt)
  obtain ⟨w3, hw3⟩ : ∃ w3, w3 = (w2.alloc (.cells Try.zeroCells52 52)).setCells w2.heap.size 0 (u8s bs) := ⟨_, rfl⟩
  have hz : Blk (w2.alloc (.cells Try.zeroCells52 52)) w2.heap.size 52 (u8s zeros128) := by rw [zero_arr]; exact Blk.new _ 52 (u8s zeros128)
  have hb3 : Below w2.heap.size w2 w3 := by rw [hw3]; exact below_setCells (below_alloc _ _) (Nat.le_refl _) _ _
  have hR3 : Blk w3 w2.heap.size 52 (u8s bs) := by rw [hw3]; exact setCells_whole hz (by simp [HbB.out.1, zeros_len])
  have Hthere := Lib.hid (hz.there (n := (u8s bs).toArray.size) (by rw [List.size_toArray, List.length_map, List.length_map, HbB.out.1, zeros_len]; omega))
  have hsize2 : (Try.prog.info? 52).map (·.size) = some (u8s bs).toArray.size := by rw [size_arr, List.size_toArray, List.length_map, HbB.out.1]
  have hP3 := hP2.kept (hb3.block _ hP2.lt)
  have hF3 := hF2.only (Only.of_below (F := Nothing) hb3) (fun _ _ hk => hk)
  have hG3 := hG2.only (Only.of_below (F := Nothing) hb3) (fun _ _ hk => hk)
  have Hw3 := Lib.hid hw3
  have hs23 : w2.heap.size < w3.heap.size := hR3.lt
  have hs12 : w1.heap.size ≤ w2.heap.size := hb2.size
  clear hw3 hz hcB
  go_wp2_with (refine wpList_store_mid rfl 52 (.tmp 7) (.tmp 18) rfl w2.heap.size 0 (u8s bs).toArray rfl rfl Hthere.out hsize2 (all_oneCell_toArray (one_u8s _)) ?_; rw [← Hw3.out])
  clear Hw3 hsize2 Hthere Hfull
  have hN3 : w3.cell? ⟨w.heap.size, 1, none⟩ = some (.int .i64 n) := hP3.cell rfl
  have hu := Try.underlying52
  have hi : (Try.prog.info? 52).map (·.size) = some (u8s bs).length := by rw [size_arr, List.length_map, HbB.out.1]
  have hlen : (u8s bs).length = 128 := by rw [List.length_map, HbB.out.1]
  have hone := one_u8s bs
  have hrg : w3.rangeAt w2.heap.size 0 (u8s bs) := hR3.range
  have hsl3 := hR3.sl8
  rw [HbB.out.1] at hsl3
  have hbt3 : Below B w w3 := ((hb1.mono hB).trans (hb2.mono hB1)).trans (hb3.mono (Nat.le_trans hB1 hs12))
  go_region_held3 (fun w' => w'.cell? ⟨w.heap.size, 1, none⟩ = some (.int .i64 n) ∧ w'.rangeAt w2.heap.size 0 (u8s bs))
    (first | exact ⟨hN3, hrg⟩ | exact ⟨hN4, hrg4⟩ | exact ⟨hN5, hrg5⟩)
    (first
      | (go_at_call 23; refine (dwrite_out F w3.drew d S hF3.drew n bs HbB.out ho hn).mono ?_; rintro e w4 ⟨rfl, hO4x⟩;
         have hO4 := hO4x.undrew;
         have hP4 := hO4.blk hP3 (fun hk => hk);
         have hR4 := hO4.blk hR3 (fun hk => hk);
         have hN4 : w4.cell? ⟨w.heap.size, 1, none⟩ = some (.int .i64 n) := hP4.cell rfl;
         have hrg4 : w4.rangeAt w2.heap.size 0 (u8s bs) := hR4.range;
         have hG4 := hG3.only hO4 (fun _ _ hk => hk);
         have hsl4 := hR4.sl8)
      | (go_at_call 30; refine (rwrite_out G w4 c S n _ 128 128 hG4 ho hn).mono ?_; rintro e w5 ⟨rfl, hw5⟩; obtain rfl := hw5.symm))
  have hfin : OnePost B w d c S (.returned (.bool true)) w4 := OnePost.same ⟨F, G, hF3.only hO4 (fun _ _ hk => hk), hG4, hd, hFB, hGB⟩ (hbt3.trans (hO4.nothing_below (by omega)))
  go_wp2
  go_ret
  exact hfin

set_option maxRecDepth 100000 in
set_option maxHeartbeats 6400000 in
theorem one_write_full (B : Nat) (w : World) (d c : Nat) (S : DS) (n : Int) (A : Option Addr) (m k : Nat) (xs : List Int) (h : Both B w d c S) (hB : B ≤ w.heap.size) (hx : Sl w A m (u8s xs)) (hxb : ∀ x ∈ xs, 0 ≤ x ∧ x < 256) (hm : m ≤ 9223372036854775807) (ho : S.off = false) (q : Nat) (hq : n = (q : Int)) (hqn : q < S.kept.length) (huse : S.isUse q = false) (hf : S.room ≤ (S.used : Int)) :
    Calls Try.prog 12 #[.pointer (some ⟨d, 0, none⟩), .pointer (some ⟨c, 0, none⟩), .agg #[.int .i64 1, .int .i64 n, .slice A m k]] w (OnePost B w d c S) := by
  subst hq
  obtain ⟨w1, hw1⟩ : ∃ w1, w1 = w.alloc (.cells #[.int .i64 1, .int .i64 (q : Int), .slice A m k] 36) := ⟨_, rfl⟩
  have hb1 : Below w.heap.size w w1 := by rw [hw1]; exact below_alloc _ _
  have hP : Blk w1 w.heap.size 36 [.int .i64 1, .int .i64 (q : Int), .slice A m k] := by rw [hw1]; exact Blk.new _ _ _
  have hPF : ∀ F : Nat → Prop, (∀ k, F k → k < w.heap.size) → ¬ F w.heap.size := fun F hF hk => by have := hF _ hk; omega
  obtain ⟨F, G, hF, hG, hd, hFB, hGB⟩ := h
  have hPF1 := hPF F (fun k hk => hF.fin hk)
  have hPG1 := hPF G (fun k hk => hG.fin hk)
  have hF1 := hF.only (Only.of_below (F := Nothing) hb1) (fun _ _ hk => hk)
  have hG1 := hG.only (Only.of_below (F := Nothing) hb1) (fun _ _ hk => hk)
  have hB1 : B ≤ w1.heap.size := Nat.le_trans hB hb1.size
  have hp1 : w.heap.size < w1.heap.size := hP.lt
  have hdG : ∀ k, G k → ¬ F k := fun k hg hf => hd k hf hg
  have Hw1 := Lib.hid hw1
  clear hw1 hPF
  have hx1 := hx.below hb1
  obtain ⟨bs, hbs⟩ : ∃ bs, bs = fullOf xs := ⟨_, rfl⟩
  have hbB : Byte128 bs := by rw [hbs]; exact fullOf_byte hxb
  have Hfull := Lib.hid (show Calls Try.prog 24 #[.slice A m k] w1 fun e w' => e = .returned (.agg (u8s bs).toArray) ∧ Below w1.heap.size w1 w' by rw [hbs]; exact full_is w1 A m k xs hx1 hm)
  have HbB := Lib.hid hbB
  have hcB := hP.cell (i := 2) rfl
  clear hbs
  go_enter Try.func12, Try.ntmps12
  go_wp2_with fail
  rw [← Hw1.out]
  clear Hw1
  refine Hfull.out.mono ?_
  rintro e w2 ⟨rfl, hb2⟩
  have hF2 := hF1.only (Only.of_below (F := Nothing) hb2) (fun _ _ hk => hk)
  have hG2 := hG1.only (Only.of_below (F := Nothing) hb2) (fun _ _ hk => hk)
  have hP2 := hP.kept (hb2.block _ hP.lt)
  obtain ⟨w3, hw3⟩ : ∃ w3, w3 = (w2.alloc (.cells Try.zeroCells52 52)).setCells w2.heap.size 0 (u8s bs) := ⟨_, rfl⟩
  have hz : Blk (w2.alloc (.cells Try.zeroCells52 52)) w2.heap.size 52 (u8s zeros128) := by rw [zero_arr]; exact Blk.new _ 52 (u8s zeros128)
  have hb3 : Below w2.heap.size w2 w3 := by rw [hw3]; exact below_setCells (below_alloc _ _) (Nat.le_refl _) _ _
  have hR3 : Blk w3 w2.heap.size 52 (u8s bs) := by rw [hw3]; exact setCells_whole hz (by simp [HbB.out.1, zeros_len])
  have Hthere := Lib.hid (hz.there (n := (u8s bs).toArray.size) (by rw [List.size_toArray, List.length_map, List.length_map, HbB.out.1, zeros_len]; omega))
  have hsize2 : (Try.prog.info? 52).map (·.size) = some (u8s bs).toArray.size := by rw [size_arr, List.size_toArray, List.length_map, HbB.out.1]
  have hP3 := hP2.kept (hb3.block _ hP2.lt)
  have hF3 := hF2.only (Only.of_below (F := Nothing) hb3) (fun _ _ hk => hk)
  have hG3 := hG2.only (Only.of_below (F := Nothing) hb3) (fun _ _ hk => hk)
  have Hw3 := Lib.hid hw3
  have hs23 : w2.heap.size < w3.heap.size := hR3.lt
  have hs12 : w1.heap.size ≤ w2.heap.size := hb2.size
  clear hw3 hz hcB
  go_wp2_with (refine wpList_store_mid rfl 52 (.tmp 7) (.tmp 18) rfl w2.heap.size 0 (u8s bs).toArray rfl rfl Hthere.out hsize2 (all_oneCell_toArray (one_u8s _)) ?_; rw [← Hw3.out])
  clear Hw3 hsize2 Hthere Hfull
  have hN3 : w3.cell? ⟨w.heap.size, 1, none⟩ = some (.int .i64 (q : Int)) := hP3.cell rfl
  have hu := Try.underlying52
  have hi : (Try.prog.info? 52).map (·.size) = some (u8s bs).length := by rw [size_arr, List.length_map, HbB.out.1]
  have hlen : (u8s bs).length = 128 := by rw [List.length_map, HbB.out.1]
  have hone := one_u8s bs
  have hrg : w3.rangeAt w2.heap.size 0 (u8s bs) := hR3.range
  have hsl3 := hR3.sl8
  rw [HbB.out.1] at hsl3
  have hbt3 : Below B w w3 := ((hb1.mono hB).trans (hb2.mono hB1)).trans (hb3.mono (Nat.le_trans hB1 hs12))
  go_region_held3 (fun w' => w'.cell? ⟨w.heap.size, 1, none⟩ = some (.int .i64 (q : Int)) ∧ w'.rangeAt w2.heap.size 0 (u8s bs))
    (first | exact ⟨hN3, hrg⟩ | exact ⟨hN4, hrg4⟩ | exact ⟨hN5, hrg5⟩)
    (first
      | (go_at_call 23; refine (dwrite_full F w3.drew d S hF3.drew q bs HbB.out ho hqn huse hf).mono ?_; rintro e w4 ⟨rfl, hO4x⟩;
         have hO4 := hO4x.undrew;
         have hP4 := hO4.blk hP3 (fun hk => hk);
         have hR4 := hO4.blk hR3 (fun hk => hk);
         have hN4 : w4.cell? ⟨w.heap.size, 1, none⟩ = some (.int .i64 (q : Int)) := hP4.cell rfl;
         have hrg4 : w4.rangeAt w2.heap.size 0 (u8s bs) := hR4.range;
         have hG4 := hG3.only hO4 (fun _ _ hk => hk);
         have hsl4 := hR4.sl8)
      | (go_at_call 30; refine (rwrite_full G w4 c S q _ 128 128 hG4 ho hqn huse hf).mono ?_; rintro e w5 ⟨rfl, kk, hw5⟩; subst hw5; have hN5 : (w4.drewN kk).cell? ⟨w.heap.size, 1, none⟩ = some (.int .i64 (q : Int)) := hN4; have hrg5 : (w4.drewN kk).rangeAt w2.heap.size 0 (u8s bs) := hR4.range))
  have hfin : OnePost B w d c S (.returned (.bool true)) (w4.drewN kk) := OnePost.same ⟨F, G, (hF3.only hO4 (fun _ _ hk => hk)).only ((Only.refl Nothing w4).drewN kk) (fun _ _ hk => hk), hG4.only ((Only.refl Nothing w4).drewN kk) (fun _ _ hk => hk), hd, hFB, hGB⟩ (below_drewN (hbt3.trans (hO4.nothing_below (by omega))) kk)
  go_wp2
  go_ret
  exact hfin

set_option maxRecDepth 100000 in
set_option maxHeartbeats 6400000 in
theorem one_write_in (B : Nat) (w : World) (d c : Nat) (S : DS) (n : Int) (A : Option Addr) (m k : Nat) (xs : List Int) (h : Both B w d c S) (hB : B ≤ w.heap.size) (hx : Sl w A m (u8s xs)) (hxb : ∀ x ∈ xs, 0 ≤ x ∧ x < 256) (hm : m ≤ 9223372036854775807) (ho : S.off = false) (q : Nat) (hq : n = (q : Int)) (hqn : q < S.kept.length) (hroom : S.isUse q = true ∨ (S.used : Int) < S.room) (hmany : S.waits.length ≤ 1000000) :
    Calls Try.prog 12 #[.pointer (some ⟨d, 0, none⟩), .pointer (some ⟨c, 0, none⟩), .agg #[.int .i64 1, .int .i64 n, .slice A m k]] w (OnePost B w d c S) := by
  subst hq
  obtain ⟨w1, hw1⟩ : ∃ w1, w1 = w.alloc (.cells #[.int .i64 1, .int .i64 (q : Int), .slice A m k] 36) := ⟨_, rfl⟩
  have hb1 : Below w.heap.size w w1 := by rw [hw1]; exact below_alloc _ _
  have hP : Blk w1 w.heap.size 36 [.int .i64 1, .int .i64 (q : Int), .slice A m k] := by rw [hw1]; exact Blk.new _ _ _
  have hPF : ∀ F : Nat → Prop, (∀ k, F k → k < w.heap.size) → ¬ F w.heap.size := fun F hF hk => by have := hF _ hk; omega
  obtain ⟨F, G, hF, hG, hd, hFB, hGB⟩ := h
  have hPF1 := hPF F (fun k hk => hF.fin hk)
  have hPG1 := hPF G (fun k hk => hG.fin hk)
  have hF1 := hF.only (Only.of_below (F := Nothing) hb1) (fun _ _ hk => hk)
  have hG1 := hG.only (Only.of_below (F := Nothing) hb1) (fun _ _ hk => hk)
  have hB1 : B ≤ w1.heap.size := Nat.le_trans hB hb1.size
  have hp1 : w.heap.size < w1.heap.size := hP.lt
  have hdG : ∀ k, G k → ¬ F k := fun k hg hf => hd k hf hg
  have Hw1 := Lib.hid hw1
  clear hw1 hPF
  have hx1 := hx.below hb1
  obtain ⟨bs, hbs⟩ : ∃ bs, bs = fullOf xs := ⟨_, rfl⟩
  have hbB : Byte128 bs := by rw [hbs]; exact fullOf_byte hxb
  have Hfull := Lib.hid (show Calls Try.prog 24 #[.slice A m k] w1 fun e w' => e = .returned (.agg (u8s bs).toArray) ∧ Below w1.heap.size w1 w' by rw [hbs]; exact full_is w1 A m k xs hx1 hm)
  have HbB := Lib.hid hbB
  have hcB := hP.cell (i := 2) rfl
  clear hbs
  go_enter Try.func12, Try.ntmps12
  go_wp2_with fail
  rw [← Hw1.out]
  clear Hw1
  refine Hfull.out.mono ?_
  rintro e w2 ⟨rfl, hb2⟩
  have hF2 := hF1.only (Only.of_below (F := Nothing) hb2) (fun _ _ hk => hk)
  have hG2 := hG1.only (Only.of_below (F := Nothing) hb2) (fun _ _ hk => hk)
  have hP2 := hP.kept (hb2.block _ hP.lt)
  obtain ⟨w3, hw3⟩ : ∃ w3, w3 = (w2.alloc (.cells Try.zeroCells52 52)).setCells w2.heap.size 0 (u8s bs) := ⟨_, rfl⟩
  have hz : Blk (w2.alloc (.cells Try.zeroCells52 52)) w2.heap.size 52 (u8s zeros128) := by rw [zero_arr]; exact Blk.new _ 52 (u8s zeros128)
  have hb3 : Below w2.heap.size w2 w3 := by rw [hw3]; exact below_setCells (below_alloc _ _) (Nat.le_refl _) _ _
  have hR3 : Blk w3 w2.heap.size 52 (u8s bs) := by rw [hw3]; exact setCells_whole hz (by simp [HbB.out.1, zeros_len])
  have Hthere := Lib.hid (hz.there (n := (u8s bs).toArray.size) (by rw [List.size_toArray, List.length_map, List.length_map, HbB.out.1, zeros_len]; omega))
  have hsize2 : (Try.prog.info? 52).map (·.size) = some (u8s bs).toArray.size := by rw [size_arr, List.size_toArray, List.length_map, HbB.out.1]
  have hP3 := hP2.kept (hb3.block _ hP2.lt)
  have hF3 := hF2.only (Only.of_below (F := Nothing) hb3) (fun _ _ hk => hk)
  have hG3 := hG2.only (Only.of_below (F := Nothing) hb3) (fun _ _ hk => hk)
  have Hw3 := Lib.hid hw3
  have hs23 : w2.heap.size < w3.heap.size := hR3.lt
  have hs12 : w1.heap.size ≤ w2.heap.size := hb2.size
  clear hw3 hz hcB
  go_wp2_with (refine wpList_store_mid rfl 52 (.tmp 7) (.tmp 18) rfl w2.heap.size 0 (u8s bs).toArray rfl rfl Hthere.out hsize2 (all_oneCell_toArray (one_u8s _)) ?_; rw [← Hw3.out])
  clear Hw3 hsize2 Hthere Hfull
  have hN3 : w3.cell? ⟨w.heap.size, 1, none⟩ = some (.int .i64 (q : Int)) := hP3.cell rfl
  have hu := Try.underlying52
  have hi : (Try.prog.info? 52).map (·.size) = some (u8s bs).length := by rw [size_arr, List.length_map, HbB.out.1]
  have hlen : (u8s bs).length = 128 := by rw [List.length_map, HbB.out.1]
  have hone := one_u8s bs
  have hrg : w3.rangeAt w2.heap.size 0 (u8s bs) := hR3.range
  have hsl3 := hR3.sl8
  rw [HbB.out.1] at hsl3
  have hbt3 : Below B w w3 := ((hb1.mono hB).trans (hb2.mono hB1)).trans (hb3.mono (Nat.le_trans hB1 hs12))
  have hRF : ¬ F w2.heap.size := fun hk => by have := hF2.fin hk; omega
  have hRG : ¬ G w2.heap.size := fun hk => by have := hG2.fin hk; omega
  go_region_held3 (fun w' => w'.cell? ⟨w.heap.size, 1, none⟩ = some (.int .i64 (q : Int)) ∧ w'.rangeAt w2.heap.size 0 (u8s bs))
    (first | exact ⟨hN3, hrg⟩ | exact ⟨hN4, hrg4⟩ | exact ⟨hN5, hrg5⟩)
    (first
      | (go_at_call 23; refine (dwrite_in F w3.drew d S hF3.drew q bs HbB.out ho hqn hroom hmany).mono ?_; rintro e w4 ⟨rfl, hF4x, hO4x⟩;
         have hO4 := hO4x.undrew;
         have hP4 := hO4.blk hP3 hPF1;
         have hR4 := hO4.blk hR3 hRF;
         have hN4 : w4.cell? ⟨w.heap.size, 1, none⟩ = some (.int .i64 (q : Int)) := hP4.cell rfl;
         have hrg4 : w4.rangeAt w2.heap.size 0 (u8s bs) := hR4.range;
         have hG4 := hG3.only hO4 hdG;
         have hsl4' := hR4.sl8; rw [HbB.out.1] at hsl4')
      | (go_at_call 30; refine (rwrite_in G w4 c S q _ 128 bs hG4 ho hqn hroom hmany hsl4' HbB.out).mono ?_; rintro e w5 ⟨rfl, hG5, hO5⟩; have hN5 : w5.cell? ⟨w.heap.size, 1, none⟩ = some (.int .i64 (q : Int)) := (hO5.blk hP4 hPG1).cell rfl; have hrg5 : w5.rangeAt w2.heap.size 0 (u8s bs) := (hO5.blk hR4 hRG).range))
  have hF4 : PD (More F w3 w4) w4 d ((S.put q bs).goes 1).1 := hF4x
  have hfin : OnePost B w d c S (.returned (.bool true)) w5 := by
    obtain ⟨hboth, hbel⟩ := both_step hF3 hG3 hd hFB hGB (by omega) hF4 hO4 hG5 hO5
    have hl := goes_len (S.put q bs) 1
    exact ⟨rfl, _, hboth, hbt3.trans hbel, by rw [hl.2.2.1]; simp [DS.put], by rw [hl.1]; rfl⟩
  go_wp2
  go_ret
  exact hfin
end Go.Proofs.Ythdclncgmhgmfaa
