/- MeterApart: what is done of one kind changes no other one's count; what was taken and what is there is what was added. -/
import Derived.Test.YtifolkckehnimaaMeterCounts
namespace Go.Proofs.Ytifolkckehnimaa
open Go.RowKit

theorem apart_take (s t g : Int) (h : g = wrap64 (s - t)) : 0 = wrap64 (s - wrap64 (t + g)) := by subst h; unfold wrap64; omega
theorem apart_none (s t : Int) (h : 0 = wrap64 (s - t)) : 0 = wrap64 (s - wrap64 (t + 0)) := by unfold wrap64 at *; omega
theorem apart_add (s t g n : Int) (h : g = wrap64 (s - t)) : wrap64 (g + n) = wrap64 (wrap64 (s + n) - t) := by subst h; unfold wrap64; omega
theorem w64_i64 (x : Int) : IntKind.i64.wrap x = wrap64 x := wrap_i64 x

set_option maxRecDepth 100000 in
set_option maxHeartbeats 3200000 in
theorem meterApart_walk (w : World) (A : Option Addr) (n c : Nat) (V : Nat → Nat → Int) (hx : Recs w A n 3 V) (hr : ∀ i f, i < n → f < 3 → -9223372036854775808 ≤ V i f ∧ V i f ≤ 9223372036854775807) (hn : n ≤ 9223372036854775807)
    (kind : Int) (hkind : -9223372036854775808 ≤ kind ∧ kind ≤ 9223372036854775807) :
    Calls Try.prog 4 #[.slice A n c, .int .i64 kind] w fun e w' => e = .returned (.bool true) ∧ Below w.heap.size w w' := by
  go_enter Try.func4, Try.ntmps4
  go_wp2_with fail
  refine (awake5_any w).mono ?_
  rintro e w1 ⟨rfl, hb1⟩
  by_cases hbig : 60 < n
  · go_wp2
    go_ret
    exact ⟨rfl, hb1⟩
  go_wp2_with fail
  refine (pnew_is w1).mono ?_
  rintro e w3 ⟨b, rfl, hpb, hp3, hb3⟩
  go_wp2_with fail
  have hstart : mGet [0, 0, 0, 0, 0, 0] kind = wrap64 (0 - 0) := by
    have hz : ∀ i : Nat, ([0, 0, 0, 0, 0, 0] : List Int).getD i 0 = 0 := by
      intro i; rcases i with _ | _ | _ | _ | _ | _ | i <;> simp [List.getD]
    unfold mGet
    split
    · rw [hz]; unfold wrap64; omega
    · unfold wrap64; omega
  have Hstart := Lib.hid hstart
  clear hstart
  go_loopw [6, 7, 19] (fun s t i wr => ∃ (k : Nat) (L : List Int) (sm tk : Int), k ≤ n ∧ i = .int .i64 k ∧ s = .int .i64 sm ∧ t = .int .i64 tk ∧ Hid (mGet L kind = wrap64 (sm - tk)) ∧ PMet wr b L ∧ Below w1.heap.size w1 wr) (fun _ _ i _ => n - (intOf i).toNat)
  case atStart => exact ⟨0, _, 0, 0, by omega, rfl, rfl, rfl, Hstart, hp3, hb3⟩
  case round =>
    clear hp3 hb3 Hstart
    obtain ⟨k, L, sm, tk, hk, rfl, rfl, rfl, Hm, hp, hb⟩ := hrel
    by_cases hlt : k < n
    · have hxr := hx.below (hb1.trans (hb.mono hb1.size))
      have hr0 := hr k 0 hlt (by omega)
      have hr1 := hr k 1 hlt (by omega)
      have hr2 := hr k 2 hlt (by omega)
      obtain ⟨ad, rfl, hc0, hc1, hc2⟩ := hxr.three hlt
      obtain ⟨what, hwhat⟩ : ∃ x, x = V k 0 := ⟨_, rfl⟩
      obtain ⟨kd, hkd⟩ : ∃ x, x = V k 1 := ⟨_, rfl⟩
      obtain ⟨by_, hby⟩ : ∃ x, x = V k 2 := ⟨_, rfl⟩
      rw [← hwhat] at hc0 hr0
      rw [← hkd] at hc1 hr1
      rw [← hby] at hc2 hr2
      clear hwhat hkd hby
      obtain ⟨wd, hwd⟩ : ∃ wd, wd = wr.alloc (.cells #[.int .i64 what, .int .i64 kd, .int .i64 by_] 33) := ⟨_, rfl⟩
      have hpd := hp.kept (w' := wd) (by rw [hwd]; exact Go.Deep.blk_alloc_lt _ _ _ hp.lt)
      have hbd : Below w1.heap.size w1 wd := by rw [hwd]; exact hb.trans ((below_alloc _ _).mono hb.size)
      have hsd : wd.heap.size = wr.heap.size + 1 := by rw [hwd]; simp
      have hcd0 : wd.cell? ⟨wr.heap.size, 0, none⟩ = some (.int .i64 what) := by rw [hwd, cell_of_row _ _ 0 _ _ (0, 0) (heap_alloc_new _ _)]; rfl
      have hcd1 : wd.cell? ⟨wr.heap.size, 1, none⟩ = some (.int .i64 kd) := by rw [hwd, cell_of_row _ _ 1 _ _ (0, 0) (heap_alloc_new _ _)]; rfl
      have hcd2 : wd.cell? ⟨wr.heap.size, 2, none⟩ = some (.int .i64 by_) := by rw [hwd, cell_of_row _ _ 2 _ _ (0, 0) (heap_alloc_new _ _)]; rfl
      have hblt := hp.lt
      have Hwd := Lib.hid hwd
      clear hwd
      obtain ⟨gm, hgm⟩ : ∃ x, x = mGet L kind := ⟨_, rfl⟩
      have Hgm := Lib.hid hgm
      have hgmr : -9223372036854775808 ≤ gm ∧ gm ≤ 9223372036854775807 := by rw [hgm]; exact mGet_range hp.1 kind
      by_cases hne : kd = kind
      · subst hne
        by_cases h3 : what = 3
        · subst h3
          obtain ⟨t2, ht2⟩ : ∃ x, x = wrap64 (tk + gm) := ⟨_, rfl⟩
          have hsum : IntKind.i64.wrap (tk + gm) = t2 := by rw [ht2, w64_i64]
          have Hend := Lib.hid (show mGet (mTake L kd) kd = wrap64 (sm - t2) by rw [mGet_take hp.1, ht2, hgm]; exact apart_take _ _ _ Hm.out)
          clear ht2 hgm
          go_wp2_with fail
          rw [← Hwd.out]
          refine (ptake_is wd b L kd hpd).mono ?_
          rintro e w5 ⟨rfl, hp5, hg5⟩
          rw [← Hgm.out]
          go_wp2
          go_roundw
          case rel => exact ⟨k + 1, _, _, _, by omega, by go_num, rfl, rfl, Hend, hp5, hbd.grown hg5 hbd.size (fun k hk => by cases hk; exact hpb)⟩
          case measure => simp [intOf]; omega
        · have h3' : (what == 3) = false := by simpa using h3
          clear h3
          cases hhas : mHas kd
          · have Hend := Lib.hid (show mGet (mAdd L kd by_) kd = wrap64 (sm - tk) by rw [(mOut hhas).2.1]; exact Hm.out)
            have Hh := Lib.hid hhas
            clear hhas hgm
            go_wp2_with fail
            rw [← Hwd.out]
            go_wp2_with fail
            refine (padd_is wd b L kd by_ hr2.1 hr2.2 hpd).mono ?_
            rintro e w5 ⟨rfl, hp5, hg5⟩
            rw [Hh.out]
            go_wp2
            go_roundw
            case rel => exact ⟨k + 1, _, _, _, by omega, by go_num, rfl, rfl, Hend, hp5, hbd.grown hg5 hbd.size (fun k hk => by cases hk; exact hpb)⟩
            case measure => simp [intOf]; omega
          · obtain ⟨s2, hs2⟩ : ∃ x, x = wrap64 (sm + by_) := ⟨_, rfl⟩
            have hsum : IntKind.i64.wrap (sm + by_) = s2 := by rw [hs2, w64_i64]
            have Hend := Lib.hid (show mGet (mAdd L kd by_) kd = wrap64 (s2 - tk) by rw [mGet_add hp.1 _ hhas, hs2]; exact apart_add _ _ _ _ Hm.out)
            have Hh := Lib.hid hhas
            clear hhas hgm hs2
            go_wp2_with fail
            rw [← Hwd.out]
            go_wp2_with fail
            refine (padd_is wd b L kd by_ hr2.1 hr2.2 hpd).mono ?_
            rintro e w5 ⟨rfl, hp5, hg5⟩
            rw [Hh.out]
            have hcd2' := cell_grown hg5 hcd2 (by omega)
            go_wp2
            go_roundw
            case rel => exact ⟨k + 1, _, _, _, by omega, by go_num, rfl, rfl, Hend, hp5, hbd.grown hg5 hbd.size (fun k hk => by cases hk; exact hpb)⟩
            case measure => simp [intOf]; omega
      · have hne' : (kd == kind) = false := by simpa using hne
        have H1 := Lib.hid (mGet_other (L := L) (n := by_) hne).1
        have H2 := Lib.hid (mGet_other (L := mAdd L kd by_) (n := by_) hne).2.1
        have H3 := Lib.hid (mGet_other (L := mRaise (mAdd L kd by_) kd by_) (n := by_) hne).2.2
        have Hall := Lib.hid (show mGet (mTake (mRaise (mAdd L kd by_) kd by_) kd) kind = gm by rw [H3.out, H2.out, H1.out, hgm])
        clear hgm hne
        go_wp2_with fail
        rw [← Hwd.out]
        go_wp2_with fail
        refine (pcount_is wd b L kind hpd).mono ?_
        rintro e w5 ⟨rfl, hw5⟩
        obtain rfl := hw5.symm
        rw [← Hgm.out]
        go_wp2_with fail
        refine (padd_is wd b L kd by_ hr2.1 hr2.2 hpd).mono ?_
        rintro e w5 ⟨rfl, hp5, hg5⟩
        have hcd1' := cell_grown hg5 hcd1 (by omega)
        have hcd2' := cell_grown hg5 hcd2 (by omega)
        have hb5 := hbd.grown hg5 hbd.size (fun k hk => by cases hk; exact hpb)
        go_wp2_with fail
        refine (praise_is w5 b _ kd by_ hr2.1 hr2.2 hp5).mono ?_
        rintro e w6 ⟨rfl, hp6, hg6⟩
        have hcd1'' := cell_grown hg6 hcd1' (by omega)
        have hb6 := hb5.grown hg6 hb5.size (fun k hk => by cases hk; exact hpb)
        go_wp2_with fail
        refine (ptake_is w6 b _ kd hp6).mono ?_
        rintro e w7 ⟨rfl, hp7, hg7⟩
        have hb7 := hb6.grown hg7 hb6.size (fun k hk => by cases hk; exact hpb)
        go_wp2_with fail
        refine (pcount_is w7 b _ kind hp7).mono ?_
        rintro e w8 ⟨rfl, hw8⟩
        obtain rfl := hw8.symm
        have Hend := Lib.hid (show mGet (mTake (mRaise (mAdd L kd by_) kd by_) kd) kind = wrap64 (sm - tk) by rw [Hall.out, Hgm.out]; exact Hm.out)
        rw [Hall.out]
        go_wp2
        go_roundw
        case rel => exact ⟨k + 1, _, _, _, by omega, by go_num, rfl, rfl, Hend, hp7, hb7⟩
        case measure => simp [intOf]; omega
    · obtain rfl : k = n := by omega
      have hsub : IntKind.i64.wrap (sm - tk) = mGet L kind := by rw [w64_i64]; exact Hm.out.symm
      go_wp2_with fail
      refine (pcount_is wr b L kind hp).mono ?_
      rintro e w5 ⟨rfl, hw5⟩
      obtain rfl := hw5.symm
      go_wp2
      go_ret
      exact ⟨rfl, hb1.trans (hb.mono hb1.size)⟩
end Go.Proofs.Ytifolkckehnimaa
