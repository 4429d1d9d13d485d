/- The law AreaPlan, walked. -/
import Derived.Test.YtflaikjciachaaaPPlan
namespace Go.Proofs.Ytflaikjciachaaa
set_option maxRecDepth 100000
open Go.RowKit Go.Deep
set_option linter.unusedSimpArgs false
set_option linter.unusedVariables false

set_option maxHeartbeats 3200000 in
theorem awake8p_any (w : World) : Calls Try.prog 4 #[] w fun e w' => e = .returned (.bool true) ∧ Below w.heap.size w w' := by
  go_enter Try.func4, Try.ntmps4
  go_wp2_with fail
  refine (pplan_is w 15 (by omega) (by omega) 2 (by decide)).mono ?_
  rintro e w1 ⟨rfl, hb1⟩
  go_wp2_with fail
  go_ret
  first | exact ⟨rfl, hb1.trans ((below_alloc _ _).mono hb1.size)⟩ | exact ⟨rfl, hb1⟩

set_option maxHeartbeats 3200000 in
theorem rlog_is (w : World) (n : Int) (hn : -9223372036854775808 ≤ n ∧ n ≤ 9223372036854775807) (q : Int) (hq : q = if 4096 < n ∨ n < 13 then 0 else min ((n - 11) / 2) 1024) :
    Calls Try.prog 6 #[.int .i64 n] w fun e w' => e = .returned (.int .i64 q) ∧ w' = w := by
  have Hq := Lib.hid hq
  clear hq
  by_cases h1 : 4096 < n
  · have hq0 : q = 0 := by rw [Hq.out, if_pos (Or.inl h1)]
    subst hq0
    go_enter Try.func6, Try.ntmps6
    go_wp2
    go_ret
    exact ⟨rfl, rfl⟩
  by_cases h2 : n < 13
  · have hq0 : q = 0 := by rw [Hq.out, if_pos (Or.inr h2)]
    subst hq0
    go_enter Try.func6, Try.ntmps6
    go_wp2
    go_ret
    exact ⟨rfl, rfl⟩
  have hqe : q = min ((n - 11) / 2) 1024 := by rw [Hq.out, if_neg (by omega)]
  have hw1 : IntKind.i64.wrap (n - 11) = n - 11 := by rw [IntKind.wrap_i64]; omega
  obtain ⟨z, hz⟩ : ∃ z, z = (n - 11) / 2 := ⟨_, rfl⟩
  have ht : Int.tdiv (n - 11) 2 = z := by rw [Int.tdiv_eq_ediv_of_nonneg (by omega), hz]
  have ht2 : (n - 11) / 2 = z := hz.symm
  have hw2 : IntKind.i64.wrap z = z := by rw [IntKind.wrap_i64]; omega
  rw [← hz] at hqe
  have Hqe := Lib.hid hqe
  clear hqe hz
  by_cases h3 : 1024 < z
  · have hq0 : q = 1024 := by rw [Hqe.out]; omega
    subst hq0
    go_enter Try.func6, Try.ntmps6
    go_wp2
    go_ret
    exact ⟨rfl, rfl⟩
  · have hq0 : q = z := by rw [Hqe.out]; omega
    subst hq0
    go_enter Try.func6, Try.ntmps6
    go_wp2
    go_ret
    exact ⟨rfl, rfl⟩

set_option maxHeartbeats 3200000 in
theorem parts_is (w : World) (q : Int) :
    Calls Try.prog 7 #[.agg #[.int .i64 0, .int .i64 1, .int .i64 1, .int .i64 5, .int .i64 6, .int .i64 5, .int .i64 11, .int .i64 q, .int .i64 (11 + q), .int .i64 q]] w fun e w' => ∃ pr, e = .returned (.slice (some ⟨pr, 0, none⟩) 5 5) ∧ Blk w' pr 24 (i64s [0, 1, 1, 5, 6, 5, 11, q, 11 + q, q]) ∧ Below w.heap.size w w' := by
  obtain ⟨w1, hw1⟩ : ∃ w1, w1 = w.alloc (.cells #[.int .i64 0, .int .i64 1, .int .i64 1, .int .i64 5, .int .i64 6, .int .i64 5, .int .i64 11, .int .i64 q, .int .i64 (11 + q), .int .i64 q] 26) := ⟨_, rfl⟩
  have hb1 : Below w.heap.size w w1 := by rw [hw1]; exact below_alloc _ _
  have hP : Blk w1 w.heap.size 26 (i64s [0, 1, 1, 5, 6, 5, 11, q, 11 + q, q]) := by rw [hw1]; exact Blk.new _ _ (i64s [0, 1, 1, 5, 6, 5, 11, q, 11 + q, q])
  have Hw1 := Lib.hid hw1
  have c0 := hP.cell (i := 0) rfl
  have c1 := hP.cell (i := 1) rfl
  have c2 := hP.cell (i := 2) rfl
  have c3 := hP.cell (i := 3) rfl
  have c4 := hP.cell (i := 4) rfl
  have c5 := hP.cell (i := 5) rfl
  have c6 := hP.cell (i := 6) rfl
  have c7 := hP.cell (i := 7) rfl
  have c8 := hP.cell (i := 8) rfl
  have c9 := hP.cell (i := 9) rfl
  clear hw1
  go_enter Try.func7, Try.ntmps7
  go_upto_region 1 with fail
  rw [← Hw1.out]
  go_wp2_with fail
  go_ret
  first | exact ⟨_, rfl, Blk.new w1 24 (i64s [0, 1, 1, 5, 6, 5, 11, q, 11 + q, q]), hb1.trans ((below_alloc _ _).mono hb1.size)⟩ | exact ⟨_, ⟨rfl, rfl⟩, Blk.new w1 24 (i64s [0, 1, 1, 5, 6, 5, 11, q, 11 + q, q]), hb1.trans ((below_alloc _ _).mono hb1.size)⟩

/-- Where each part begins, and how long it is. -/
def firstOf (q : Int) (k : Nat) : Int := [0, 1, 6, 11, 11 + q, 11 + q + q].getD k 0
def manyOf (q : Int) (k : Nat) : Int := [1, 5, 5, q, q].getD k 0
theorem plan_first (q : Int) {k : Nat} (hk : k < 5) : (i64s [0, 1, 1, 5, 6, 5, 11, q, 11 + q, q])[k * 2]? = some (.int .i64 (firstOf q k)) ∧ (i64s [0, 1, 1, 5, 6, 5, 11, q, 11 + q, q])[k * 2 + 1]? = some (.int .i64 (manyOf q k)) ∧ (i64s [1, 5, 5, q, q])[k]? = some (.int .i64 (manyOf q k)) ∧ firstOf q (k + 1) = firstOf q k + manyOf q k := by
  match k, hk with
  | 0, _ => exact ⟨rfl, rfl, rfl, by simp [firstOf, manyOf]⟩
  | 1, _ => exact ⟨rfl, rfl, rfl, by simp [firstOf, manyOf]⟩
  | 2, _ => exact ⟨rfl, rfl, rfl, by simp [firstOf, manyOf]⟩
  | 3, _ => exact ⟨rfl, rfl, rfl, by simp [firstOf, manyOf]⟩
  | 4, _ => exact ⟨rfl, rfl, rfl, by simp [firstOf, manyOf]⟩

set_option maxHeartbeats 6400000 in
theorem areaPlan_walk (w : World) (n : Int) (hn : -9223372036854775808 ≤ n ∧ n ≤ 9223372036854775807) :
    Calls Try.prog 3 #[.int .i64 n] w fun e w' => e = .returned (.bool true) ∧ Below w.heap.size w w' := by
  go_enter Try.func3, Try.ntmps3
  go_wp2_with fail
  refine (awake8p_any w).mono ?_
  rintro e w1 ⟨rfl, hb1⟩
  by_cases hbad : 4096 < n ∨ n < 13
  · have Hbad := Lib.hid hbad
    clear hbad
    go_wp2_with fail
    refine (pplan_bad w1 n hn Hbad.out).mono ?_
    rintro e w2 ⟨rfl, hb2⟩
    have hbt2 := hb1.trans (hb2.mono hb1.size)
    clear hb1 hb2
    obtain ⟨w3, hw3⟩ : ∃ w3, w3 = w2.alloc (.cells #[.int .i64 0, .int .i64 0, .int .i64 0, .int .i64 0, .int .i64 0, .int .i64 0, .int .i64 0, .int .i64 0, .int .i64 0, .int .i64 0] 26) := ⟨_, rfl⟩
    have hb3 : Below w2.heap.size w2 w3 := by rw [hw3]; exact below_alloc _ _
    have Hw3 := Lib.hid hw3
    have hbt3 := hbt2.trans (hb3.mono hbt2.size)
    have hP : Blk w3 w2.heap.size 26 (i64s [0, 0, 0, 0, 0, 0, 0, 0, 0, 0]) := by rw [hw3]; exact Blk.new _ _ (i64s [0, 0, 0, 0, 0, 0, 0, 0, 0, 0])
    have c0 := hP.cell (i := 0) rfl
    have c1 := hP.cell (i := 1) rfl
    have c2 := hP.cell (i := 2) rfl
    have c3 := hP.cell (i := 3) rfl
    have c4 := hP.cell (i := 4) rfl
    have c5 := hP.cell (i := 5) rfl
    have c6 := hP.cell (i := 6) rfl
    have c7 := hP.cell (i := 7) rfl
    have c8 := hP.cell (i := 8) rfl
    have c9 := hP.cell (i := 9) rfl
    clear hw3 hb3 hP
    go_upto_region 4 with fail
    rw [← Hw3.out]
    go_wp2_with fail
    refine (rlog_is w3 n hn 0 (by rw [if_pos Hbad.out])).mono ?_
    rintro e w4 ⟨rfl, hw4⟩
    obtain rfl := hw4.symm
    go_wp2_with fail
    go_ret
    exact ⟨rfl, hbt3⟩
  obtain ⟨q, hq⟩ : ∃ q, q = min ((n - 11) / 2) 1024 := ⟨_, rfl⟩
  have hq1 : 1 ≤ q ∧ q ≤ 1024 ∧ 11 + q + q ≤ n ∧ (n - (11 + q + q) < 2 ∨ q = 1024) := by omega
  have Hq := Lib.hid hq
  have hnb : 13 ≤ n ∧ n ≤ 4096 := by omega
  have Hlog := Lib.hid (show q = if 4096 < n ∨ n < 13 then 0 else min ((n - 11) / 2) 1024 by rw [if_neg hbad]; exact hq)
  clear hbad hq
  go_wp2_with fail
  refine (pplan_is w1 n hnb.1 hnb.2 q Hq.out).mono ?_
  rintro e w2 ⟨rfl, hb2⟩
  have hbt2 := hb1.trans (hb2.mono hb1.size)
  clear hb1 hb2
  obtain ⟨w3, hw3⟩ : ∃ w3, w3 = w2.alloc (.cells #[.int .i64 0, .int .i64 1, .int .i64 1, .int .i64 5, .int .i64 6, .int .i64 5, .int .i64 11, .int .i64 q, .int .i64 (11 + q), .int .i64 q] 26) := ⟨_, rfl⟩
  have hb3 : Below w2.heap.size w2 w3 := by rw [hw3]; exact below_alloc _ _
  have Hw3 := Lib.hid hw3
  have hbt3 := hbt2.trans (hb3.mono hbt2.size)
  have hP : Blk w3 w2.heap.size 26 (i64s [0, 1, 1, 5, 6, 5, 11, q, 11 + q, q]) := by rw [hw3]; exact Blk.new _ _ (i64s [0, 1, 1, 5, 6, 5, 11, q, 11 + q, q])
  have c0 := hP.cell (i := 0) rfl
  have c1 := hP.cell (i := 1) rfl
  have c2 := hP.cell (i := 2) rfl
  have c3 := hP.cell (i := 3) rfl
  have c4 := hP.cell (i := 4) rfl
  have c5 := hP.cell (i := 5) rfl
  have c6 := hP.cell (i := 6) rfl
  have c7 := hP.cell (i := 7) rfl
  have c8 := hP.cell (i := 8) rfl
  have c9 := hP.cell (i := 9) rfl
  clear hw3 hb3 hbt2
  have hqf : (q == 0) = false := by simp; omega
  go_upto_region 4 with fail
  rw [← Hw3.out]
  go_wp2_with fail
  refine (rlog_is w3 n hn q Hlog.out).mono ?_
  rintro e w4 ⟨rfl, hw4⟩
  obtain rfl := hw4.symm
  go_wp2_with fail
  refine (parts_is w3 q).mono ?_
  rintro e w5 ⟨pr, rfl, hR, hb5⟩
  have hbt5 := hbt3.trans (hb5.mono hbt3.size)
  clear c0 c1 c2 c3 c4 c5 c6 c7 c8 c9 hP hb5 hbt3 Hw3
  go_wp2_with fail
  go_loopw [31, 6] (fun i at_ wr => ∃ k : Nat, k ≤ 5 ∧ i = .int .i64 k ∧ at_ = .int .i64 (firstOf q k) ∧ Blk wr pr 24 (i64s [0, 1, 1, 5, 6, 5, 11, q, 11 + q, q]) ∧ Below w.heap.size w wr) (fun i _ _ => 5 - (intOf i).toNat)
  case atStart => exact ⟨0, by omega, rfl, rfl, hR, hbt5⟩
  case round =>
    clear hR hbt5
    obtain ⟨k, hk, rfl, rfl, hR, hb⟩ := hrel
    by_cases hlt : k < 5
    · obtain ⟨g1, g2, g3, g4⟩ := plan_first q hlt
      have e1 := hR.cell g1
      have e2 := hR.cell g2
      obtain ⟨fk, hfk⟩ : ∃ x, x = firstOf q k := ⟨_, rfl⟩
      obtain ⟨mk, hmk⟩ : ∃ x, x = manyOf q k := ⟨_, rfl⟩
      rw [← hfk] at e1 g4 ⊢
      rw [← hmk] at e2 g3 g4
      obtain ⟨wd, hwd⟩ : ∃ wd, wd = wr.alloc (.cells #[.int .i64 fk, .int .i64 mk] 24) := ⟨_, rfl⟩
      have hbd : Below wr.heap.size wr wd := by rw [hwd]; exact below_alloc _ _
      have hD : Blk wd wr.heap.size 24 [.int .i64 fk, .int .i64 mk] := by rw [hwd]; exact Blk.new _ _ _
      obtain ⟨wE, hwE⟩ : ∃ wE, wE = wd.alloc (.cells #[.int .i64 1, .int .i64 5, .int .i64 5, .int .i64 q, .int .i64 q] 3) := ⟨_, rfl⟩
      have hbE : Below wd.heap.size wd wE := by rw [hwE]; exact below_alloc _ _
      have hE : Blk wE wd.heap.size 3 (i64s [1, 5, 5, q, q]) := by rw [hwE]; exact Blk.new _ _ (i64s [1, 5, 5, q, q])
      have hDE := hD.kept (hbE.block _ hD.lt)
      have hbb := hb.trans ((hbd.trans (hbE.mono hbd.size)).mono hb.size)
      have hRE := (hR.kept (hbd.block _ hR.lt))
      have hRE := hRE.kept (hbE.block _ hRE.lt)
      have hkI : (k : Int) < 5 := by omega
      have hk0 : (0 : Int) ≤ (k : Int) := by omega
      have Hwd := Lib.hid hwd; have HwE := Lib.hid hwE
      obtain ⟨pd, hpd⟩ : ∃ p, p = wr.heap.size := ⟨_, rfl⟩
      obtain ⟨pe, hpe⟩ : ∃ p, p = wd.heap.size := ⟨_, rfl⟩
      rw [← hpd] at hDE
      rw [← hpe] at hE
      have Hpd := Lib.hid hpd; have Hpe := Lib.hid hpe
      have hS := (show wE.drew.cell? ⟨pd, 0, none⟩ = some (.int .i64 fk) ∧ wE.drew.cell? ⟨pd, 1, none⟩ = some (.int .i64 mk) ∧ wE.drew.cell? ⟨pe, k, none⟩ = some (.int .i64 mk) from ⟨hDE.cell (i := 0) rfl, hDE.cell (i := 1) rfl, hE.cell g3⟩)
      have Hg4 := Lib.hid g4
      have hsum : IntKind.i64.wrap (fk + mk) = fk + mk := by
        rw [IntKind.wrap_i64, hfk, hmk]
        match k, hlt with
        | 0, _ => simp [firstOf, manyOf]
        | 1, _ => simp [firstOf, manyOf]
        | 2, _ => simp [firstOf, manyOf]
        | 3, _ => simp only [firstOf, manyOf, List.getD_cons_succ, List.getD_cons_zero]; omega
        | 4, _ => simp only [firstOf, manyOf, List.getD_cons_succ, List.getD_cons_zero]; omega
      clear hwd hwE hbd hbE hD hR hb g1 g2 g3 g4 hfk hmk hpd hpe
      go_upto_region 11 with fail
      rw [← Hwd.out, ← Hpd.out]
      go_upto_region 12 with fail
      rw [← HwE.out, ← Hpe.out]
      clear e1 e2 Hwd HwE
      refine wp_region_held_drew (S := fun w0 => w0.cell? ⟨pd, 0, none⟩ = some (.int .i64 fk) ∧ w0.cell? ⟨pd, 1, none⟩ = some (.int .i64 mk) ∧ w0.cell? ⟨pe, k, none⟩ = some (.int .i64 mk)) (by kernel_rfl) hS (fun hHeld => ?_)
      refine wpAnyH_take (i := 0) (oi := ?oiz1) (v := ?vz1) ?hiz1 ?haz1 ?hbz1 ?hcz1 ?hqz1 ?hyz1 (by assumption) ?restz1
      case hiz1 => (simp only [List.getElem?_toArray, List.getElem?_cons_zero, List.getElem?_cons_succ]; rfl)
      case haz1 => kernel_rfl
      case hbz1 => kernel_rfl
      case hcz1 => kernel_rfl
      case hyz1 => exact Or.inl ⟨by rfl, by (intro w hSw; (try dsimp only at hSw); go_split_ands; go_simp; (try with_reducible rfl))⟩
      case hqz1 => exact fun _ _ _ h => h
      try simp only [Act.put, List.setIfInBounds_toArray, List.set_cons_zero, List.set_cons_succ]
      refine wpAnyH_take (i := 1) (oi := ?oiz2) (v := ?vz2) ?hiz2 ?haz2 ?hbz2 ?hcz2 ?hqz2 ?hyz2 (by assumption) ?restz2
      case hiz2 => (simp only [List.getElem?_toArray, List.getElem?_cons_zero, List.getElem?_cons_succ]; rfl)
      case haz2 => kernel_rfl
      case hbz2 => kernel_rfl
      case hcz2 => kernel_rfl
      case hyz2 => exact Or.inl ⟨by rfl, by (intro w hSw; (try dsimp only at hSw); go_split_ands; go_simp; (try with_reducible rfl))⟩
      case hqz2 => exact fun _ _ _ h => h
      try simp only [Act.put, List.setIfInBounds_toArray, List.set_cons_zero, List.set_cons_succ]
      refine wpAnyH_take (i := 2) (oi := ?oiz3) (v := ?vz3) ?hiz3 ?haz3 ?hbz3 ?hcz3 ?hqz3 ?hyz3 (by assumption) ?restz3
      case hiz3 => (simp only [List.getElem?_toArray, List.getElem?_cons_zero, List.getElem?_cons_succ]; rfl)
      case haz3 => kernel_rfl
      case hbz3 => kernel_rfl
      case hcz3 => kernel_rfl
      case hyz3 => exact Or.inl ⟨by rfl, by (intro w hSw; (try dsimp only at hSw); go_split_ands; go_simp; (try with_reducible rfl))⟩
      case hqz3 => exact fun _ _ _ h => h
      try simp only [Act.put, List.setIfInBounds_toArray, List.set_cons_zero, List.set_cons_succ]
      refine wpAnyH_take (i := 3) (oi := ?oiz4) (v := ?vz4) ?hiz4 ?haz4 ?hbz4 ?hcz4 ?hqz4 ?hyz4 (by assumption) ?restz4
      case hiz4 => (simp only [List.getElem?_toArray, List.getElem?_cons_zero, List.getElem?_cons_succ]; rfl)
      case haz4 => kernel_rfl
      case hbz4 => kernel_rfl
      case hcz4 => kernel_rfl
      case hyz4 => exact Or.inl ⟨by rfl, by (intro w hSw; (try dsimp only at hSw); go_split_ands; go_simp; (try with_reducible rfl))⟩
      case hqz4 => exact fun _ _ _ h => h
      try simp only [Act.put, List.setIfInBounds_toArray, List.set_cons_zero, List.set_cons_succ]
      refine wpAnyH_take (i := 4) (oi := ?oiz5) (v := ?vz5) ?hiz5 ?haz5 ?hbz5 ?hcz5 ?hqz5 ?hyz5 (by assumption) ?restz5
      case hiz5 => (simp only [List.getElem?_toArray, List.getElem?_cons_zero, List.getElem?_cons_succ]; rfl)
      case haz5 => kernel_rfl
      case hbz5 => kernel_rfl
      case hcz5 => kernel_rfl
      case hyz5 => exact Or.inl ⟨by rfl, by (intro w hSw; (try dsimp only at hSw); go_split_ands; go_simp; (try with_reducible rfl))⟩
      case hqz5 => exact fun _ _ _ h => h
      try simp only [Act.put, List.setIfInBounds_toArray, List.set_cons_zero, List.set_cons_succ]
      refine wpAnyH_take (i := 5) (oi := ?oiz6) (v := ?vz6) ?hiz6 ?haz6 ?hbz6 ?hcz6 ?hqz6 ?hyz6 (by assumption) ?restz6
      case hiz6 => (simp only [List.getElem?_toArray, List.getElem?_cons_zero, List.getElem?_cons_succ]; rfl)
      case haz6 => kernel_rfl
      case hbz6 => kernel_rfl
      case hcz6 => kernel_rfl
      case hyz6 => exact Or.inl ⟨by rfl, by (intro w hSw; (try dsimp only at hSw); go_split_ands; go_simp; (try with_reducible rfl))⟩
      case hqz6 => exact fun _ _ _ h => h
      try simp only [Act.put, List.setIfInBounds_toArray, List.set_cons_zero, List.set_cons_succ]
      refine wpAnyH_take (i := 6) (oi := ?oiz7) (v := ?vz7) ?hiz7 ?haz7 ?hbz7 ?hcz7 ?hqz7 ?hyz7 (by assumption) ?restz7
      case hiz7 => (simp only [List.getElem?_toArray, List.getElem?_cons_zero, List.getElem?_cons_succ]; rfl)
      case haz7 => kernel_rfl
      case hbz7 => kernel_rfl
      case hcz7 => kernel_rfl
      case hyz7 => exact Or.inl ⟨by rfl, by (intro w hSw; (try dsimp only at hSw); go_split_ands; go_simp; (try with_reducible rfl))⟩
      case hqz7 => exact fun _ _ _ h => h
      try simp only [Act.put, List.setIfInBounds_toArray, List.set_cons_zero, List.set_cons_succ]
      refine wpAnyH_take (i := 7) (oi := ?oiz8) (v := ?vz8) ?hiz8 ?haz8 ?hbz8 ?hcz8 ?hqz8 ?hyz8 (by assumption) ?restz8
      case hiz8 => (simp only [List.getElem?_toArray, List.getElem?_cons_zero, List.getElem?_cons_succ]; rfl)
      case haz8 => kernel_rfl
      case hbz8 => kernel_rfl
      case hcz8 => kernel_rfl
      case hyz8 => exact Or.inl ⟨by rfl, by (intro w hSw; (try dsimp only at hSw); go_split_ands; go_simp; (try with_reducible rfl))⟩
      case hqz8 => exact fun _ _ _ h => h
      try simp only [Act.put, List.setIfInBounds_toArray, List.set_cons_zero, List.set_cons_succ]
      refine wpAnyH_take (i := 8) (oi := ?oiz9) (v := ?vz9) ?hiz9 ?haz9 ?hbz9 ?hcz9 ?hqz9 ?hyz9 (by assumption) ?restz9
      case hiz9 => (simp only [List.getElem?_toArray, List.getElem?_cons_zero, List.getElem?_cons_succ]; rfl)
      case haz9 => kernel_rfl
      case hbz9 => kernel_rfl
      case hcz9 => kernel_rfl
      case hyz9 => exact Or.inl ⟨by rfl, by (intro w hSw; (try dsimp only at hSw); go_split_ands; go_simp; (try with_reducible rfl))⟩
      case hqz9 => exact fun _ _ _ h => h
      try simp only [Act.put, List.setIfInBounds_toArray, List.set_cons_zero, List.set_cons_succ]
      refine wpAnyH_take (i := 9) (oi := ?oiz10) (v := ?vz10) ?hiz10 ?haz10 ?hbz10 ?hcz10 ?hqz10 ?hyz10 (by assumption) ?restz10
      case hiz10 => (simp only [List.getElem?_toArray, List.getElem?_cons_zero, List.getElem?_cons_succ]; rfl)
      case haz10 => kernel_rfl
      case hbz10 => kernel_rfl
      case hcz10 => kernel_rfl
      case hyz10 => exact Or.inl ⟨by rfl, by (intro w hSw; (try dsimp only at hSw); go_split_ands; go_simp; (try with_reducible rfl))⟩
      case hqz10 => exact fun _ _ _ h => h
      try simp only [Act.put, List.setIfInBounds_toArray, List.set_cons_zero, List.set_cons_succ]
      refine wpAnyH_take (i := 10) (oi := ?oiz11) (v := ?vz11) ?hiz11 ?haz11 ?hbz11 ?hcz11 ?hqz11 ?hyz11 (by assumption) ?restz11
      case hiz11 => (simp only [List.getElem?_toArray, List.getElem?_cons_zero, List.getElem?_cons_succ]; rfl)
      case haz11 => kernel_rfl
      case hbz11 => kernel_rfl
      case hcz11 => kernel_rfl
      case hyz11 => exact Or.inl ⟨by rfl, by (intro w hSw; (try dsimp only at hSw); go_split_ands; go_simp; (try with_reducible rfl))⟩
      case hqz11 => exact fun _ _ _ h => h
      try simp only [Act.put, List.setIfInBounds_toArray, List.set_cons_zero, List.set_cons_succ]
      refine wpAnyH_take (i := 11) (oi := ?oiz12) (v := ?vz12) ?hiz12 ?haz12 ?hbz12 ?hcz12 ?hqz12 ?hyz12 (by assumption) ?restz12
      case hiz12 => (simp only [List.getElem?_toArray, List.getElem?_cons_zero, List.getElem?_cons_succ]; rfl)
      case haz12 => kernel_rfl
      case hbz12 => kernel_rfl
      case hcz12 => kernel_rfl
      case hyz12 => exact Or.inl ⟨by rfl, by (intro w hSw; (try dsimp only at hSw); go_split_ands; go_simp; (try with_reducible rfl))⟩
      case hqz12 => exact fun _ _ _ h => h
      try simp only [Act.put, List.setIfInBounds_toArray, List.set_cons_zero, List.set_cons_succ]
      refine wpAnyH_take (i := 12) (oi := ?oiz13) (v := ?vz13) ?hiz13 ?haz13 ?hbz13 ?hcz13 ?hqz13 ?hyz13 (by assumption) ?restz13
      case hiz13 => (simp only [List.getElem?_toArray, List.getElem?_cons_zero, List.getElem?_cons_succ]; rfl)
      case haz13 => kernel_rfl
      case hbz13 => kernel_rfl
      case hcz13 => kernel_rfl
      case hyz13 => exact Or.inl ⟨by rfl, by (intro w hSw; (try dsimp only at hSw); go_split_ands; go_simp; (try with_reducible rfl))⟩
      case hqz13 => exact fun _ _ _ h => h
      try simp only [Act.put, List.setIfInBounds_toArray, List.set_cons_zero, List.set_cons_succ]
      refine wpAnyH_done (by kernel_rfl) ?_ _
      clear hS hHeld
      have hc1 : wE.drew.cell? ⟨pd, 1, none⟩ = some (.int .i64 mk) := hDE.cell (i := 1) rfl
      go_wp2_with fail
      go_roundw
      case rel => exact ⟨k + 1, by omega, by go_num, by rw [Hg4.out], hRE.drew, hbb.drew⟩
      case measure => simp [intOf]; omega
    · obtain rfl : 5 = k := by omega
      have hat : firstOf q 5 = 11 + q + q := rfl
      rw [hat]
      have d1 : decide (11 + q + q ≤ n) = true := decide_eq_true hq1.2.2.1
      have hws : IntKind.i64.wrap (n - (11 + q + q)) = n - (11 + q + q) := by rw [IntKind.wrap_i64]; omega
      by_cases h2 : n - (11 + q + q) < 2
      · have d2 : decide (n - (11 + q + q) < 2) = true := decide_eq_true h2
        go_wp2_with fail
        go_ret
        exact ⟨rfl, hb⟩
      · have d2 : decide (n - (11 + q + q) < 2) = false := decide_eq_false h2
        obtain rfl : q = 1024 := by omega
        go_wp2_with fail
        go_ret
        exact ⟨rfl, hb⟩
end Go.Proofs.Ytflaikjciachaaa
