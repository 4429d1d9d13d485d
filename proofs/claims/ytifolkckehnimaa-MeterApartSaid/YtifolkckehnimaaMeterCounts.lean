/- MeterCounts: whatever is done, each answer and all counts are the document's. -/
import Derived.Test.YtifolkckehnimaaMeter
import Derived.Test.YtifolkckehnimaaRecs
import Derived.Test.YtifolkckehnimaaInts
import Derived.Deep.RegionHeld3
namespace Go.Proofs.Ytifolkckehnimaa
open Go.RowKit

set_option maxHeartbeats 800000 in
theorem awake5_any (w : World) : Calls Try.prog 5 #[] w fun e w' => e = .returned (.bool true) ∧ Below w.heap.size w w' := by
  have e1 : mAdd [0, 0, 0, 0, 0, 0] 2 3 = [0, 3, 0, 0, 0, 0] := by simp [mAdd, mHas, mGet, wrap64]
  have e2 : mAdd [0, 3, 0, 0, 0, 0] 2 4 = [0, 7, 0, 0, 0, 0] := by simp [mAdd, mHas, mGet, wrap64]
  have e3 : mGet [0, 7, 0, 0, 0, 0] 2 = 7 := by rfl
  have e4 : mHas 2 = true := by rfl
  have E1 := Lib.hid e1; have E2 := Lib.hid e2; have E3 := Lib.hid e3; have E4 := Lib.hid e4
  clear e1 e2 e3 e4
  go_enter Try.func5, Try.ntmps5
  go_wp2_with fail
  refine (pnew_is w).mono ?_
  rintro e w1 ⟨b, rfl, hb, h1, hn1⟩
  go_wp2_with fail
  refine (padd_is w1 b _ 2 3 (by omega) (by omega) h1).mono ?_
  rintro e w2 ⟨rfl, h2, hg2⟩
  rw [E1.out] at h2
  rw [E4.out]
  have hn2 := hn1.grown hg2 hn1.size (fun k hk => by cases hk; exact hb)
  go_wp2_with fail
  refine (padd_is w2 b _ 2 4 (by omega) (by omega) h2).mono ?_
  rintro e w3 ⟨rfl, h3, hg3⟩
  rw [E2.out] at h3
  rw [E4.out]
  have hn3 := hn2.grown hg3 hn2.size (fun k hk => by cases hk; exact hb)
  go_wp2_with fail
  refine (pcount_is w3 b _ 2 h3).mono ?_
  rintro e w4 ⟨rfl, hw4⟩
  obtain rfl := hw4.symm
  rw [E3.out]
  go_wp2_with fail
  go_ret
  exact ⟨rfl, hn3⟩

set_option maxRecDepth 100000 in
set_option maxHeartbeats 3200000 in
theorem meterCounts_walk (w : World) (A : Option Addr) (n c : Nat) (V : Nat → Nat → Int) (hx : Recs w A n 3 V) (hr : ∀ i f, i < n → f < 3 → -9223372036854775808 ≤ V i f ∧ V i f ≤ 9223372036854775807) (hn : n ≤ 9223372036854775807) :
    Calls Try.prog 3 #[.slice A n c] w fun e w' => e = .returned (.bool true) ∧ Below w.heap.size w w' := by
  go_enter Try.func3, Try.ntmps3
  go_wp2_with fail
  refine (awake5_any w).mono ?_
  rintro e w1 ⟨rfl, hb1⟩
  go_wp2_with fail
  refine (padd_nil w1 1 1).mono ?_
  rintro e w2 ⟨rfl, hw2⟩
  obtain rfl := hw2.symm
  go_wp2_with fail
  refine (praise_nil w1 1 1).mono ?_
  rintro e w2 ⟨rfl, hw2⟩
  obtain rfl := hw2.symm
  go_wp2_with fail
  refine (pcount_nil w1 1).mono ?_
  rintro e w2 ⟨rfl, hw2⟩
  obtain rfl := hw2.symm
  go_wp2_with fail
  refine (ptake_nil w1 1).mono ?_
  rintro e w2 ⟨rfl, hw2⟩
  obtain rfl := hw2.symm
  go_wp2_with fail
  refine (pall_nil w1).mono ?_
  rintro e w2 ⟨rfl, hw2⟩
  obtain rfl := hw2.symm
  by_cases hbig : 60 < n
  · go_wp2
    go_ret
    exact ⟨rfl, hb1⟩
  go_wp2_with fail
  refine (pnew_is w1).mono ?_
  rintro e w3 ⟨b, rfl, hpb, hp, hb3⟩
  go_wp2_with fail
  refine (rnew_any w3).mono ?_
  rintro e w4 ⟨rfl, hq, hb4, hz4⟩
  have hp4 := hp.kept (w' := w4) (hb4.block b hp.lt)
  go_wp2_with fail
  have hkeep := hb3.trans (hb4.mono hb3.size)
  obtain ⟨g, hg⟩ : ∃ g, g = w3.heap.size := ⟨_, rfl⟩
  rw [← hg] at hq hz4 ⊢
  have hbg : b < g := by rw [hg]; exact hp.lt
  have hwg : w1.heap.size ≤ g := by rw [hg]; exact hb3.size
  have hg4 : g + 2 ≤ w4.heap.size := by omega
  clear hg hp hb3 hb4 hz4
  go_loopw [40] (fun i wr => ∃ (k : Nat) (L : List Int), k ≤ n ∧ i = .int .i64 k ∧ PMet wr b L ∧ RMet g wr (g + 1) g L ∧ Below w1.heap.size w1 wr ∧ g + 2 ≤ wr.heap.size) (fun i _ => n - (intOf i).toNat)
  case atStart => exact ⟨0, _, by omega, rfl, hp4, hq, hkeep, hg4⟩
  case round =>
    clear hp4 hq hkeep hg4
    obtain ⟨k, L, hk, rfl, hp, hq, hb, hgr⟩ := hrel
    by_cases hlt : k < n
    · have hxr := hx.below (hb1.trans (hb.mono hb1.size))
      have hr0 := hr k 0 hlt (by omega)
      have hr1 := hr k 1 hlt (by omega)
      have hr2 := hr k 2 hlt (by omega)
      obtain ⟨ad, rfl, hc0, hc1, hc2⟩ := hxr.three hlt
      obtain ⟨what, hwhat⟩ : ∃ x, x = V k 0 := ⟨_, rfl⟩
      obtain ⟨kind, hkind⟩ : ∃ x, x = V k 1 := ⟨_, rfl⟩
      obtain ⟨by_, hby⟩ : ∃ x, x = V k 2 := ⟨_, rfl⟩
      rw [← hwhat] at hc0 hr0
      rw [← hkind] at hc1 hr1
      rw [← hby] at hc2 hr2
      clear hwhat hkind hby
      obtain ⟨wd, hwd⟩ : ∃ wd, wd = wr.alloc (.cells #[.int .i64 what, .int .i64 kind, .int .i64 by_] 33) := ⟨_, rfl⟩
      have hpd := hp.kept (w' := wd) (by rw [hwd]; exact Go.Deep.blk_alloc_lt _ _ _ hp.lt)
      have hqd := hq.kept (w' := wd) (by rw [hwd]; exact Go.Deep.blk_alloc_lt _ _ _ hq.lt.1) (by rw [hwd]; exact Go.Deep.blk_alloc_lt _ _ _ hq.lt.2)
      have hbd : Below w1.heap.size w1 wd := by rw [hwd]; exact hb.trans ((below_alloc _ _).mono hb.size)
      have hsd : wd.heap.size = wr.heap.size + 1 := by rw [hwd]; simp
      have hcd1 : wd.cell? ⟨wr.heap.size, 1, none⟩ = some (.int .i64 kind) := by rw [hwd, cell_of_row _ _ 1 _ _ (0, 0) (heap_alloc_new _ _)]; rfl
      have hcd2 : wd.cell? ⟨wr.heap.size, 2, none⟩ = some (.int .i64 by_) := by rw [hwd, cell_of_row _ _ 2 _ _ (0, 0) (heap_alloc_new _ _)]; rfl
      have hblt := hp.lt
      have Hwd := Lib.hid hwd
      clear hwd
      rcases (show what = 1 ∨ what = 2 ∨ what = 3 ∨ what = 4 ∨ (what ≠ 1 ∧ what ≠ 2 ∧ what ≠ 3 ∧ what ≠ 4) by omega) with h1 | h2 | h3 | h4 | h5
      · subst h1
        go_wp2_with fail
        rw [← Hwd.out]
        go_region_held3 (fun w' => w'.cell? ⟨wr.heap.size, 1, none⟩ = some (.int .i64 kind) ∧ w'.cell? ⟨wr.heap.size, 2, none⟩ = some (.int .i64 by_))
          (first | exact ⟨hcd1, hcd2⟩ | exact ⟨hcd1', hcd2'⟩ | exact ⟨hcd1'', hcd2''⟩)
          (first
            | (go_at_call 6; refine (padd_is wd.drew b L kind by_ hr2.1 hr2.2 hpd).mono ?_; rintro e w5 ⟨rfl, hp5, hg5x⟩;
               have hg5 := drew_grown hg5x;
               have hq5 := hqd.kept (w' := w5) (block_grown hg5 hqd.lt.1 (by omega)) (block_grown hg5 hqd.lt.2 (by omega));
               have hcd1' := cell_grown hg5 hcd1 (by omega);
               have hcd2' := cell_grown hg5 hcd2 (by omega);
               have hs5 : wd.heap.size ≤ w5.heap.size := hg5.size;
               have hb5 := hbd.grown hg5 hbd.size (fun k hk => by cases hk; exact hpb))
            | (go_at_call 13; refine (radd5_is w5 g (g + 1) g L kind by_ hp.1 hq5).mono ?_; rintro e w6 ⟨rfl, hq6, hg6'⟩;
               have hcd1'' := cell_grown hg6' hcd1' (by omega);
               have hcd2'' := cell_grown hg6' hcd2' (by omega)))
        have hp6 := hp5.kept (w' := w6) (block_grown hg6' hp5.lt (by omega))
        have hs6 := hg6'.size
        have hb6 := hb5.grown hg6' hb5.size (fun k hk => by cases hk; exact hwg)
        have hg6 : g + 2 ≤ w6.heap.size := by omega
        go_wp2
        go_roundw
        case rel => exact ⟨k + 1, _, by omega, by go_num, hp6, hq6, hb6, hg6⟩
        case measure => simp [intOf]; omega
      · subst h2
        go_wp2_with fail
        rw [← Hwd.out]
        go_region_held3 (fun w' => w'.cell? ⟨wr.heap.size, 1, none⟩ = some (.int .i64 kind))
          (exact hcd1)
          (first
            | (go_at_call 8; refine (pcount_is wd.drew b L kind hpd).mono ?_; rintro e w5 ⟨rfl, rfl⟩)
            | (go_at_call 14; refine (rcount5_is wd.drew g (g + 1) g L kind hp.1 hqd).mono ?_; rintro e w6 ⟨rfl, rfl⟩))
        have hp6 := hpd
        have hq6 := hqd
        have hb6 := hbd.drew
        have hg6 : g + 2 ≤ wd.heap.size := by omega
        go_wp2
        go_roundw
        case rel => exact ⟨k + 1, _, by omega, by go_num, hp6, hq6, hb6, hg6⟩
        case measure => simp [intOf]; omega
      · subst h3
        go_wp2_with fail
        rw [← Hwd.out]
        go_region_held3 (fun w' => w'.cell? ⟨wr.heap.size, 1, none⟩ = some (.int .i64 kind))
          (first | exact hcd1 | exact hcd1' | exact hcd1'')
          (first
            | (go_at_call 9; refine (ptake_is wd.drew b L kind hpd).mono ?_; rintro e w5 ⟨rfl, hp5, hg5x⟩;
               have hg5 := drew_grown hg5x;
               have hq5 := hqd.kept (w' := w5) (block_grown hg5 hqd.lt.1 (by omega)) (block_grown hg5 hqd.lt.2 (by omega));
               have hcd1' := cell_grown hg5 hcd1 (by omega);
               have hcd2' := cell_grown hg5 hcd2 (by omega);
               have hs5 : wd.heap.size ≤ w5.heap.size := hg5.size;
               have hb5 := hbd.grown hg5 hbd.size (fun k hk => by cases hk; exact hpb))
            | (go_at_call 15; refine (rtake5_is w5 g (g + 1) g L kind hp.1 hq5).mono ?_; rintro e w6 ⟨rfl, hq6, hg6'⟩;
               have hcd1'' := cell_grown hg6' hcd1' (by omega);
               have hcd2'' := cell_grown hg6' hcd2' (by omega)))
        have hp6 := hp5.kept (w' := w6) (block_grown hg6' hp5.lt (by omega))
        have hs6 := hg6'.size
        have hb6 := hb5.grown hg6' hb5.size (fun k hk => by cases hk; exact hwg)
        have hg6 : g + 2 ≤ w6.heap.size := by omega
        go_wp2
        go_roundw
        case rel => exact ⟨k + 1, _, by omega, by go_num, hp6, hq6, hb6, hg6⟩
        case measure => simp [intOf]; omega
      · subst h4
        go_wp2_with fail
        rw [← Hwd.out]
        go_region_held3 (fun w' => w'.cell? ⟨wr.heap.size, 1, none⟩ = some (.int .i64 kind) ∧ w'.cell? ⟨wr.heap.size, 2, none⟩ = some (.int .i64 by_))
          (first | exact ⟨hcd1, hcd2⟩ | exact ⟨hcd1', hcd2'⟩ | exact ⟨hcd1'', hcd2''⟩)
          (first
            | (go_at_call 7; refine (praise_is wd.drew b L kind by_ hr2.1 hr2.2 hpd).mono ?_; rintro e w5 ⟨rfl, hp5, hg5x⟩;
               have hg5 := drew_grown hg5x;
               have hq5 := hqd.kept (w' := w5) (block_grown hg5 hqd.lt.1 (by omega)) (block_grown hg5 hqd.lt.2 (by omega));
               have hcd1' := cell_grown hg5 hcd1 (by omega);
               have hcd2' := cell_grown hg5 hcd2 (by omega);
               have hs5 : wd.heap.size ≤ w5.heap.size := hg5.size;
               have hb5 := hbd.grown hg5 hbd.size (fun k hk => by cases hk; exact hpb))
            | (go_at_call 16; refine (rraise5_is w5 g (g + 1) g L kind by_ hp.1 hq5).mono ?_; rintro e w6 ⟨rfl, hq6, hg6'⟩;
               have hcd1'' := cell_grown hg6' hcd1' (by omega);
               have hcd2'' := cell_grown hg6' hcd2' (by omega)))
        have hp6 := hp5.kept (w' := w6) (block_grown hg6' hp5.lt (by omega))
        have hs6 := hg6'.size
        have hb6 := hb5.grown hg6' hb5.size (fun k hk => by cases hk; exact hwg)
        have hg6 : g + 2 ≤ w6.heap.size := by omega
        go_wp2
        go_roundw
        case rel => exact ⟨k + 1, _, by omega, by go_num, hp6, hq6, hb6, hg6⟩
        case measure => simp [intOf]; omega
      · have q1 : (what == 1) = false := by simpa using h5.1
        have q2 : (what == 2) = false := by simpa using h5.2.1
        have q3 : (what == 3) = false := by simpa using h5.2.2.1
        have q4 : (what == 4) = false := by simpa using h5.2.2.2
        clear h5
        go_wp2_with fail
        go_roundw
        case rel => rw [← Hwd.out]; exact ⟨k + 1, _, by omega, by go_num, hpd, hqd, hbd, by omega⟩
        case measure => simp [intOf]; omega
    · obtain rfl : k = n := by omega
      go_wp2_with fail
      have hcq := hq.2.1
      obtain ⟨A6, c6, e6, hs6'⟩ := own_form hq.2.2
      cases e6
      go_region_held3 (fun w' => w'.cell? ⟨g + 1, 0, none⟩ = some (.slice (some ⟨g, 0, none⟩) 6 6))
          (first | exact hcq | exact hcr)
          (first
            | (go_at_call 10; refine (pall_is wr.drew b L hp).mono ?_; rintro e w5 ⟨v, rfl, hown, hn5x⟩;
               have hn5 := drew_below hn5x;
               obtain ⟨A5, c5, rfl, hs5⟩ := own_form hown;
               have hcr : w5.cell? ⟨g + 1, 0, none⟩ = some (.slice (some ⟨g, 0, none⟩) 6 6) := (hn5.cell hq.lt.1).trans hcq)
            | (go_at_call 17; refine (ints_any _ _ 6 6 c5 6 L L w5 hs5 (hs6'.below hn5) (by omega) (by omega)).mono ?_; rintro e w6 ⟨rfl, q, rfl⟩; rw [decide_eq_true rfl]))
      go_wp2
      go_ret
      exact ⟨rfl, hb1.trans ((below_drewN (hb.trans (hn5.mono hb.size)) _).mono hb1.size)⟩
end Go.Proofs.Ytifolkckehnimaa
