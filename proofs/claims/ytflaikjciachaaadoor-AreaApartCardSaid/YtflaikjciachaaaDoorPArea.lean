/- The program's areas, by contract. -/
import Derived.Test.YtflaikjciachaaaDoorM5
import Derived.Test.YtflaikjciachaaaDoorM2
namespace Go.Proofs.YtflaikjciachaaaDoor
set_option maxRecDepth 100000
open Go.RowKit Go.Deep
set_option linter.unusedSimpArgs false
set_option linter.unusedVariables false
attribute [local irreducible] Tryd.zeroCells52

/-- The program's area at a: of the disk at d, m sectors from f on. -/
def PArea (w : World) (a d : Nat) (f m : Int) : Prop := Blk w a 62 [.pointer (some ⟨d, 0, none⟩), .int .i64 f, .int .i64 m]
theorem PArea.lt {w : World} {a d : Nat} {f m : Int} (h : PArea w a d f m) : a < w.heap.size := Blk.lt h
theorem PArea.kept {w w' : World} {a d : Nat} {f m : Int} (h : PArea w a d f m) (e : w'.heap[a]? = w.heap[a]?) : PArea w' a d f m := Blk.kept h e
theorem pd_wide {F : Nat → Prop} {w w1 w2 : World} {c : Nat} {S : DS} (h : PD (More F w1 w2) w2 c S) (hb : w.heap.size ≤ w1.heap.size) : PD (More F w w2) w2 c S :=
  h.mono' (fun k hg => by rcases hg with hg | hg; exact Or.inl hg; exact Or.inr ⟨Nat.le_trans hb hg.1, hg.2⟩) (fun k hk => by rcases hk with hk | hk; exact h.fin (Or.inl hk); exact hk.2)
theorem more_pd {F : Nat → Prop} {w w' : World} {c : Nat} {S : DS} (h : PD F w' c S) : PD (More F w w') w' c S :=
  h.mono' (fun _ h => Or.inl h) (fun k hk => by rcases hk with hk | hk; exact h.fin hk; exact hk.2)

theorem parea_new_nil (w : World) (f m : Int) : Calls Tryd.prog 6 #[.pointer none, .agg #[.int .i64 f, .int .i64 m]] w fun e w' => e = .returned (.tuple #[.pointer none, .int .i64 1]) ∧ Below w.heap.size w w' := by
  obtain ⟨w1, hw1⟩ : ∃ w1, w1 = w.alloc (.cells #[.int .i64 f, .int .i64 m] 23) := ⟨_, rfl⟩
  have hb1 : Below w.heap.size w w1 := by rw [hw1]; exact below_alloc _ _
  have Hw1 := Lib.hid hw1
  clear hw1
  go_enter Tryd.func6, Tryd.ntmps6
  go_upto_region 1 with fail
  rw [← Hw1.out]
  go_wp2_with fail
  refine (nsize_is w1 none (Or.inl rfl)).mono ?_
  rintro e w2 ⟨rfl, hO⟩
  go_wp2
  go_ret2
  exact ⟨rfl, hb1.trans (hO.below hb1.size (fun _ h => h.elim))⟩
section
variable (F : Nat → Prop) (w : World) (d : Nat) (S : DS) (h : PD F w d S)
include h
theorem parea_new_any (f m : Int) : ∃ w1, w1 = w.alloc (.cells #[.int .i64 f, .int .i64 m] 23) ∧ Below w.heap.size w w1 ∧ PD F w1 d S ∧ Blk w1 w.heap.size 23 [.int .i64 f, .int .i64 m] := by
  have hb1 : Below w.heap.size w (w.alloc (.cells #[.int .i64 f, .int .i64 m] 23)) := below_alloc _ _
  exact ⟨_, rfl, hb1, h.only (Only.of_below (F := Nothing) hb1) (fun _ _ hk => hk), Blk.new _ _ _⟩
set_option maxHeartbeats 1600000 in
theorem parea_new_bad (f m : Int) (hf : -9223372036854775808 ≤ f ∧ f ≤ 9223372036854775807) (hm : -9223372036854775808 ≤ m ∧ m ≤ 9223372036854775807) (hbad : f < 0 ∨ (S.kept.length : Int) ≤ f ∨ m < 1 ∨ (S.kept.length : Int) - f < m) :
    Calls Tryd.prog 6 #[.pointer (some ⟨d, 0, none⟩), .agg #[.int .i64 f, .int .i64 m]] w fun e w' => e = .returned (.tuple #[.pointer none, .int .i64 2]) ∧ Below w.heap.size w w' := by
  have hn := h.wf.n1
  have hn2 := h.wf.n2
  obtain ⟨n, hnn⟩ : ∃ n, n = S.kept.length := ⟨_, rfl⟩
  rw [← hnn] at hn hn2 hbad
  obtain ⟨w1, hw1, hb1, h1, hP⟩ := parea_new_any F w d S h f m
  have Hs := Lib.hid (dsize_is F w1 d S h1)
  rw [← hnn] at Hs
  have hc0 : ∀ w2, Only Nothing w1 w2 → w2.cell? ⟨w.heap.size, 0, none⟩ = some (.int .i64 f) := fun w2 hO => (hO.blk hP (fun h => h)).cell (i := 0) rfl
  have hc1 : ∀ w2, Only Nothing w1 w2 → w2.cell? ⟨w.heap.size, 1, none⟩ = some (.int .i64 m) := fun w2 hO => (hO.blk hP (fun h => h)).cell (i := 1) rfl
  have Hc0 := Lib.hid hc0; have Hc1 := Lib.hid hc1
  have Hw1 := Lib.hid hw1
  have hz : ((n : Int) == 0) = false := by simp; omega
  clear hw1 hc0 hc1 hnn h h1 hP
  go_enter Tryd.func6, Tryd.ntmps6
  go_upto_region 1 with fail
  rw [← Hw1.out]
  go_wp2_with fail
  refine Hs.out.mono ?_
  rintro e w2 ⟨rfl, hO⟩
  have hb2 : Below w.heap.size w w2 := hb1.trans (hO.below hb1.size (fun _ h => h.elim))
  have hc0 := Hc0.out w2 hO
  have hc1 := Hc1.out w2 hO
  by_cases q1 : f < 0
  · have q1' : decide (f < 0) = true := decide_eq_true q1
    clear hbad
    go_wp2
    go_ret2
    exact ⟨rfl, hb2⟩
  have q1' : decide (f < 0) = false := decide_eq_false q1
  by_cases q2 : m < 1
  · have q2' : decide (m < 1) = true := decide_eq_true q2
    clear hbad
    go_wp2
    go_ret2
    exact ⟨rfl, hb2⟩
  have q2' : decide (m < 1) = false := decide_eq_false q2
  have hwr : IntKind.i64.wrap ((n : Int) - f) = (n : Int) - f := by rw [IntKind.wrap_i64]; omega
  have q3' : decide ((n : Int) - f < m) = true := decide_eq_true (by omega)
  clear hbad
  go_wp2
  go_ret2
  exact ⟨rfl, hb2⟩
set_option maxHeartbeats 1600000 in
theorem parea_new_is (f m : Int) (hok : 0 ≤ f ∧ f < (S.kept.length : Int) ∧ 1 ≤ m ∧ m ≤ (S.kept.length : Int) - f) :
    Calls Tryd.prog 6 #[.pointer (some ⟨d, 0, none⟩), .agg #[.int .i64 f, .int .i64 m]] w fun e w' => ∃ a, e = .returned (.tuple #[.pointer (some ⟨a, 0, none⟩), .int .i64 0]) ∧ PArea w' a d f m ∧ w.heap.size ≤ a ∧ Below w.heap.size w w' := by
  have hn := h.wf.n1
  have hn2 := h.wf.n2
  obtain ⟨n, hnn⟩ : ∃ n, n = S.kept.length := ⟨_, rfl⟩
  rw [← hnn] at hn hn2 hok
  obtain ⟨w1, hw1, hb1, h1, hP⟩ := parea_new_any F w d S h f m
  have Hs := Lib.hid (dsize_is F w1 d S h1)
  rw [← hnn] at Hs
  have hc0 : ∀ w2, Only Nothing w1 w2 → Blk w2 w.heap.size 23 [.int .i64 f, .int .i64 m] := fun w2 hO => hO.blk hP (fun h => h)
  have Hc0 := Lib.hid hc0
  have Hw1 := Lib.hid hw1
  have hz : ((n : Int) == 0) = false := by simp; omega
  have q1' : decide (f < 0) = false := decide_eq_false (by omega)
  have q2' : decide (m < 1) = false := decide_eq_false (by omega)
  have hwr : IntKind.i64.wrap ((n : Int) - f) = (n : Int) - f := by rw [IntKind.wrap_i64]; omega
  have q3' : decide ((n : Int) - f < m) = false := decide_eq_false (by omega)
  clear hw1 hc0 hnn h h1 hP hok
  go_enter Tryd.func6, Tryd.ntmps6
  go_upto_region 1 with fail
  rw [← Hw1.out]
  go_wp2_with fail
  refine Hs.out.mono ?_
  rintro e w2 ⟨rfl, hO⟩
  have hb2 : Below w.heap.size w w2 := hb1.trans (hO.below hb1.size (fun _ h => h.elim))
  have hP2 := Hc0.out w2 hO
  have hc0 := hP2.cell (i := 0) rfl
  have hc1 := hP2.cell (i := 1) rfl
  have hs2 := hb2.size
  go_wp2
  go_ret2
  exact ⟨_, rfl, Blk.new _ _ _, hs2, hb2.trans ((below_alloc _ _).mono hs2)⟩
end

theorem anone_nil (w : World) : Calls Tryd.prog 28 #[.pointer none] w fun e w' => e = .returned (.bool true) ∧ w' = w := by
  go_enter Tryd.func28, Tryd.ntmps28
  go_wp2
  go_ret
  exact ⟨rfl, rfl⟩
theorem areach_none (w : World) (n : Int) (v : Value) : Calls Tryd.prog 46 #[.pointer none, .int .i64 n, v] w fun e w' => e = .returned (.int .i64 1) ∧ w' = w := by
  go_enter Tryd.func46, Tryd.ntmps46
  go_wp2_with fail
  refine (anone_nil w).mono ?_
  rintro e w' ⟨rfl, hw⟩
  obtain rfl := hw.symm
  go_wp2
  go_ret
  exact ⟨rfl, rfl⟩
section
variable (w : World) (a d : Nat) (f m : Int) (ha : PArea w a d f m)
include ha
theorem anone_is : Calls Tryd.prog 28 #[.pointer (some ⟨a, 0, none⟩)] w fun e w' => e = .returned (.bool false) ∧ w' = w := by
  have hc0 := Blk.cell (i := 0) ha rfl
  go_enter Tryd.func28, Tryd.ntmps28
  go_wp2
  go_ret
  exact ⟨rfl, rfl⟩
theorem areach_out (n : Int) (v : Value) (hn : n < 0 ∨ m ≤ n) : Calls Tryd.prog 46 #[.pointer (some ⟨a, 0, none⟩), .int .i64 n, v] w fun e w' => e = .returned (.int .i64 51) ∧ w' = w := by
  have hc2 := Blk.cell (i := 2) ha rfl
  have H := Lib.hid (anone_is w a d f m ha)
  clear ha
  by_cases h0 : n < 0
  · have q : decide (n < 0) = true := decide_eq_true h0
    clear hn
    go_enter Tryd.func46, Tryd.ntmps46
    go_wp2_with fail
    refine H.out.mono ?_
    rintro e w' ⟨rfl, hw⟩
    obtain rfl := hw.symm
    go_wp2
    go_ret
    exact ⟨rfl, rfl⟩
  · have q : decide (n < 0) = false := decide_eq_false h0
    have q2 : decide (m ≤ n) = true := decide_eq_true (by omega)
    clear hn
    go_enter Tryd.func46, Tryd.ntmps46
    go_wp2_with fail
    refine H.out.mono ?_
    rintro e w' ⟨rfl, hw⟩
    obtain rfl := hw.symm
    go_wp2
    go_ret
    exact ⟨rfl, rfl⟩
theorem areach_in (n : Int) (hn : 0 ≤ n ∧ n < m) (hf : IntKind.i64.wrap (f + n) = f + n) (g : Nat) (cap : Array Value) (hent : ∀ (args : Array Value) (w : World), (callFunc g args).run Tryd.prog w = .ok (.enter g args) w) (R : Int → World → Prop)
    (hstep : Calls Tryd.prog g (#[.int .i64 (f + n)] ++ cap) w fun e w' => ∃ er, e = .returned (.int .i64 er) ∧ R er w') :
    Calls Tryd.prog 46 #[.pointer (some ⟨a, 0, none⟩), .int .i64 n, .func (.func g) #[] cap] w fun e w' => ∃ er, e = .returned (.int .i64 er) ∧ R er w' := by
  have hc1 := Blk.cell (i := 1) ha rfl
  have hc2 := Blk.cell (i := 2) ha rfl
  have H := Lib.hid (anone_is w a d f m ha)
  have Hs := Lib.hid hstep
  have q : decide (n < 0) = false := decide_eq_false (by omega)
  have q2 : decide (m ≤ n) = false := decide_eq_false (by omega)
  clear ha hstep hn
  go_enter Tryd.func46, Tryd.ntmps46
  go_wp2_with fail
  refine H.out.mono ?_
  rintro e w' ⟨rfl, hw⟩
  obtain rfl := hw.symm
  go_wp2_with fail
  refine Hs.out.mono ?_
  rintro e w2 ⟨er, rfl, hR⟩
  have HR := Lib.hid hR
  clear hR
  go_wp2_with fail
  go_ret
  exact ⟨er, rfl, HR.out⟩
end

/-! An area that is none. -/
theorem narea_many (w : World) : Calls Tryd.prog 8 #[.pointer none] w fun e w' => e = .returned (.int .i64 0) ∧ Below w.heap.size w w' := by
  go_enter Tryd.func8, Tryd.ntmps8
  go_wp2
  go_ret
  exact ⟨rfl, Below.refl _ _⟩
theorem narea_flush (w : World) : Calls Tryd.prog 11 #[.pointer none] w fun e w' => e = .returned (.int .i64 1) ∧ Below w.heap.size w w' := by
  go_enter Tryd.func11, Tryd.ntmps11
  go_wp2_with fail
  refine (anone_nil w).mono ?_
  rintro e w' ⟨rfl, hw⟩
  obtain rfl := hw.symm
  go_wp2
  go_ret
  exact ⟨rfl, Below.refl _ _⟩
theorem narea_put (w : World) (ht : Tabs w) : Calls Tryd.prog 9 #[.pointer none, .int .i64 0, .int .i64 1, .int .i64 1, .slice none 0 0] w fun e w' => e = .returned (.int .i64 1) ∧ Below w.heap.size w w' := by
  go_enter Tryd.func9, Tryd.ntmps9
  go_wp2_with fail
  refine (anone_nil w).mono ?_
  rintro e w' ⟨rfl, hw⟩
  obtain rfl := hw.symm
  go_wp2
  go_ret
  exact ⟨rfl, Below.refl _ _⟩
theorem narea_write (w : World) (n : Int) (bs : List Int) : Calls Tryd.prog 22 #[.pointer none, .int .i64 n, .agg (u8s bs).toArray] w fun e w' => e = .returned (.int .i64 1) ∧ Below w.heap.size w w' := by
  obtain ⟨w1, hw1⟩ : ∃ w1, w1 = (w.alloc (.cells #[.pointer none] 26)).alloc (.cells (u8s bs).toArray 52) := ⟨_, rfl⟩
  have hb1 : Below w.heap.size w w1 := by rw [hw1]; exact (below_alloc _ _).trans ((below_alloc _ _).mono (by rw [nblk_alloc]; omega))
  have hP : Blk w1 w.heap.size 26 [.pointer none] := by rw [hw1]; exact (Blk.new _ _ _).alloc _
  have hc := hP.cell (i := 0) rfl
  have Hw1 := Lib.hid hw1
  clear hw1
  go_enter Tryd.func22, Tryd.ntmps22
  go_upto_region 1 with fail
  rw [← Hw1.out]
  go_wp2_with fail
  refine (areach_none w1 n _).mono ?_
  rintro e w' ⟨rfl, hw⟩
  obtain rfl := hw.symm
  go_wp2
  go_ret
  exact ⟨rfl, hb1⟩
theorem narea_wipe (w : World) (n : Int) : Calls Tryd.prog 10 #[.pointer none, .int .i64 n] w fun e w' => e = .returned (.int .i64 1) ∧ Below w.heap.size w w' := by
  have H := Lib.hid (narea_write w n zeros128)
  have Hz := Lib.hid zero_arr
  go_enter Tryd.func10, Tryd.ntmps10
  go_wp2_with fail
  try rw [Hz.out]
  refine H.out.mono ?_
  rintro e w' ⟨rfl, hb⟩
  go_wp2
  go_ret
  exact ⟨rfl, hb⟩

set_option maxHeartbeats 3200000 in
theorem awrite1_is (F : Nat → Prop) (w : World) (a d pa pb : Nat) (S : DS) (f m : Int) (h : PD F w d S) (ha : PArea w a d f m) (hne : ¬ F a) (hA : Blk w pa 26 [.pointer (some ⟨a, 0, none⟩)]) (bs : List Int) (hB : Blk w pb 52 (u8s bs)) (hpa : ¬ F pa) (hpb : ¬ F pb) (hb : Byte128 bs) (hmany : S.waits.length ≤ 1000000) (k : Int) (r : Int × DS) (hr : r = S.writeOf k bs) :
    Calls Tryd.prog 47 #[.int .i64 k, .pointer (some ⟨pa, 0, none⟩), .pointer (some ⟨pb, 0, none⟩)] w fun e w' => ∃ er, e = .returned (.int .i64 er) ∧ er = r.1 ∧ PD (More F w w') w' d r.2 ∧ Only F w w' := by
  have hsL : (Tryd.prog.info? 52).map (·.size) = some (u8s bs).length := by rw [size_arr, List.length_map, hb.1]
  have Hd := Lib.hid (dwrite_any F w.drew d S h.drew k bs hb hmany r hr)
  have hA := hA.drew
  have hB := hB.drew
  have ha : Blk w.drew a 62 [.pointer (some ⟨d, 0, none⟩), .int .i64 f, .int .i64 m] := Blk.drew ha
  clear hr hb
  go_enter Tryd.func47, Tryd.ntmps47
  go_upto_region 1 with fail
  refine wp_region_held_drew (S := fun w0 => w0.cell? ⟨pa, 0, none⟩ = some (.pointer (some ⟨a, 0, none⟩)) ∧ w0.rangeAt pb 0 (u8s bs) ∧ w0.cell? ⟨a, 0, none⟩ = some (.pointer (some ⟨d, 0, none⟩))) (by kernel_rfl) ⟨hA.cell (i := 0) rfl, hB.range, ha.cell (i := 0) rfl⟩ (fun hHeld => ?_)
  refine wpAnyH_take (i := 0) (oi := ?oiz1) (v := ?vz1) ?hiz1 ?haz1 ?hbz1 ?hcz1 ?hqz1 ?hyz1 (by assumption) ?restz1
  case hiz1 => (simp only [List.getElem?_toArray, List.getElem?_cons_zero, List.getElem?_cons_succ]; rfl)
  case haz1 => kernel_rfl
  case hbz1 => kernel_rfl
  case hcz1 => kernel_rfl
  case hyz1 => exact Or.inl ⟨by rfl, by (intro w hSw; (try dsimp only at hSw); go_split_ands; go_simp; (try with_reducible rfl))⟩
  case hqz1 => exact fun _ _ _ h => h
  try simp only [Act.put, List.setIfInBounds_toArray, List.set_cons_zero, List.set_cons_succ]
  refine wpAnyH_take (i := 1) (oi := ?oiz2) (v := ?vz2) ?hiz2 ?haz2 ?hbz2 ?hcz2 ?hqz2 ?hyz2 (by assumption) ?restz2
  case hiz2 => (simp only [List.getElem?_toArray, List.getElem?_cons_zero, List.getElem?_cons_succ]; rfl)
  case haz2 => kernel_rfl
  case hbz2 => kernel_rfl
  case hcz2 => kernel_rfl
  case hyz2 => exact Or.inl ⟨by rfl, by (intro w hSw; (try dsimp only at hSw); go_split_ands; go_simp; (try with_reducible rfl))⟩
  case hqz2 => exact fun _ _ _ h => h
  try simp only [Act.put, List.setIfInBounds_toArray, List.set_cons_zero, List.set_cons_succ]
  refine wpAnyH_take (i := 2) (oi := ?oiz3) (v := ?vz3) ?hiz3 ?haz3 ?hbz3 ?hcz3 ?hqz3 ?hyz3 (by assumption) ?restz3
  case hiz3 => (simp only [List.getElem?_toArray, List.getElem?_cons_zero, List.getElem?_cons_succ]; rfl)
  case haz3 => kernel_rfl
  case hbz3 => kernel_rfl
  case hcz3 => kernel_rfl
  case hyz3 => exact Or.inl ⟨by rfl, by (intro w hSw; (try dsimp only at hSw); go_split_ands; go_simp; (try with_reducible rfl))⟩
  case hqz3 => exact fun _ _ _ h => h
  try simp only [Act.put, List.setIfInBounds_toArray, List.set_cons_zero, List.set_cons_succ]
  refine wpAnyH_take (i := 3) (oi := ?oiz4) (v := ?vz4) ?hiz4 ?haz4 ?hbz4 ?hcz4 ?hqz4 ?hyz4 (by assumption) ?restz4
  case hiz4 => (simp only [List.getElem?_toArray, List.getElem?_cons_zero, List.getElem?_cons_succ]; rfl)
  case haz4 => kernel_rfl
  case hbz4 => kernel_rfl
  case hcz4 => kernel_rfl
  case hyz4 => exact Or.inl ⟨by rfl, by (intro w hSw; (try dsimp only at hSw); go_split_ands; go_simp; (try with_reducible rfl))⟩
  case hqz4 => exact fun _ _ _ h => h
  try simp only [Act.put, List.setIfInBounds_toArray, List.set_cons_zero, List.set_cons_succ]
  refine wpAnyH_take (i := 4) (oi := ?oiz5) (v := ?vz5) ?hiz5 ?haz5 ?hbz5 ?hcz5 ?hqz5 ?hyz5 (by assumption) ?restz5
  case hiz5 => (simp only [List.getElem?_toArray, List.getElem?_cons_zero, List.getElem?_cons_succ]; rfl)
  case haz5 => kernel_rfl
  case hbz5 => kernel_rfl
  case hcz5 => kernel_rfl
  case hyz5 => exact Or.inl ⟨by rfl, by (intro w hSw; (try dsimp only at hSw); go_split_ands; go_simp; (try with_reducible rfl))⟩
  case hqz5 => exact fun _ _ _ h => h
  try simp only [Act.put, List.setIfInBounds_toArray, List.set_cons_zero, List.set_cons_succ]
  refine wpAnyH_take (i := 5) (oi := ?oiz6) (v := .agg (u8s bs).toArray) ?hiz6 ?haz6 ?hbz6 ?hcz6 ?hqz6 ?hyz6 (by assumption) ?restz6
  case hiz6 => (simp only [List.getElem?_toArray, List.getElem?_cons_zero, List.getElem?_cons_succ]; rfl)
  case haz6 => kernel_rfl
  case hbz6 => kernel_rfl
  case hcz6 => kernel_rfl
  case hyz6 => exact Or.inl ⟨by rfl, fun w' hSw => run_load_op 52 (.tmp 2) rfl pb 0 rfl (u8s bs) _ hSw.2.1 Tryd.underlying52 rfl hsL⟩
  case hqz6 => exact fun _ _ _ h => h
  try simp only [Act.put, List.setIfInBounds_toArray, List.set_cons_zero, List.set_cons_succ]
  refine wpAnyH_ready (rs := [6]) (by kernel_rfl) (by simp) ?_
  refine AllReadyH.cons (o := ?oiz7) ?hiz7 (fun K hK => ?stepz7) AllReadyH.nil
  case hiz7 => (simp only [List.getElem?_toArray, List.getElem?_cons_zero, List.getElem?_cons_succ]; rfl)
  go_simp
  refine Hd.out.mono ?_
  rintro e w2 ⟨rfl, hd2, hO2⟩
  refine hK.out _ _ ⟨(hO2.blk hA hpa).cell (i := 0) rfl, (hO2.blk hB hpb).range, (hO2.blk ha hne).cell (i := 0) rfl⟩ (fun hHeld => ?_)
  clear hK K
  try simp only [Act.put, List.setIfInBounds_toArray, List.set_cons_zero, List.set_cons_succ]
  refine wpAnyH_take (i := 7) (oi := ?oiz8) (v := ?vz8) ?hiz8 ?haz8 ?hbz8 ?hcz8 ?hqz8 ?hyz8 (by assumption) ?restz8
  case hiz8 => (simp only [List.getElem?_toArray, List.getElem?_cons_zero, List.getElem?_cons_succ]; rfl)
  case haz8 => kernel_rfl
  case hbz8 => kernel_rfl
  case hcz8 => kernel_rfl
  case hyz8 => exact Or.inl ⟨by rfl, by (intro w hSw; (try dsimp only at hSw); go_split_ands; go_simp; (try with_reducible rfl))⟩
  case hqz8 => exact fun _ _ _ h => h
  try simp only [Act.put, List.setIfInBounds_toArray, List.set_cons_zero, List.set_cons_succ]
  refine wpAnyH_done (by kernel_rfl) ?_ _
  clear hHeld
  go_wp2_with fail
  go_ret
  exact ⟨_, rfl, rfl, pd_wide hd2 (Nat.le_refl _), hO2.undrew⟩

section
variable (F : Nat → Prop) (w : World) (a d : Nat) (S : DS) (f m : Int) (h : PD F w d S) (ha : PArea w a d f m) (hne : ¬ F a) (hs : Spot f m) (hm1 : 1 ≤ m)
include h ha hne hs hm1
theorem parea_many : Calls Tryd.prog 8 #[.pointer (some ⟨a, 0, none⟩)] w fun e w' => e = .returned (.int .i64 m) ∧ Only Nothing w w' := by
  have hc := Blk.cell (i := 2) ha rfl
  have hu := And.intro h (And.intro hne (And.intro hs hm1))
  clear hu h hs hm1
  go_enter Tryd.func8, Tryd.ntmps8
  go_wp2
  go_ret
  exact ⟨rfl, Only.refl _ _⟩
theorem parea_flush (r : Int × DS) (hr : r = S.flushOf) :
    Calls Tryd.prog 11 #[.pointer (some ⟨a, 0, none⟩)] w fun e w' => e = .returned (.int .i64 r.1) ∧ PD (More F w w') w' d r.2 ∧ Only F w w' := by
  have hc := Blk.cell (i := 0) ha rfl
  have H := Lib.hid (anone_is w a d f m ha)
  have Hd := Lib.hid (dflush_any F w d S h r hr)
  have hu := And.intro hne (And.intro hs hm1)
  clear hu h hs hm1 ha hr
  go_enter Tryd.func11, Tryd.ntmps11
  go_wp2_with fail
  refine H.out.mono ?_
  rintro e w' ⟨rfl, hw⟩
  obtain rfl := hw.symm
  go_wp2_with fail
  refine Hd.out.mono ?_
  rintro e w2 ⟨rfl, hd, hO⟩
  go_wp2_with fail
  go_ret
  exact ⟨rfl, hd, hO⟩
theorem parea_write (n : Int) (hn : -9223372036854775808 ≤ n ∧ n ≤ 9223372036854775807) (bs : List Int) (hb : Byte128 bs) (hmany : S.waits.length ≤ 1000000) (r : Int × DS) (hr : r = S.arWrite f m n bs) :
    Calls Tryd.prog 22 #[.pointer (some ⟨a, 0, none⟩), .int .i64 n, .agg (u8s bs).toArray] w fun e w' => e = .returned (.int .i64 r.1) ∧ PD (More F w w') w' d r.2 ∧ Only F w w' := by
  obtain ⟨w1, hw1⟩ : ∃ w1, w1 = (w.alloc (.cells #[.pointer (some ⟨a, 0, none⟩)] 26)).alloc (.cells (u8s bs).toArray 52) := ⟨_, rfl⟩
  have hb1 : Below w.heap.size w w1 := by rw [hw1]; exact (below_alloc _ _).trans ((below_alloc _ _).mono (by rw [nblk_alloc]; omega))
  have hA : Blk w1 w.heap.size 26 [.pointer (some ⟨a, 0, none⟩)] := by rw [hw1]; exact (Blk.new _ _ _).alloc _
  obtain ⟨pb, hpb⟩ : ∃ pb, pb = w.heap.size + 1 := ⟨_, rfl⟩
  have hB : Blk w1 pb 52 (u8s bs) := by
    have := Blk.new (w.alloc (.cells #[.pointer (some ⟨a, 0, none⟩)] 26)) 52 (u8s bs)
    rw [nblk_alloc, ← hpb] at this
    rw [hw1]; exact this
  have h1 := h.only (Only.of_below (F := Nothing) hb1) (fun _ _ hk => hk)
  have ha1 := ha.kept (hb1.block _ ha.lt)
  have hpaF : ¬ F w.heap.size := fun hk => by have := h.fin hk; omega
  have hpbF : ¬ F pb := fun hk => by have := h.fin hk; omega
  have hc := hA.cell (i := 0) rfl
  unfold Spot at hs
  have Hw1 := Lib.hid hw1
  have Hpb := Lib.hid hpb
  by_cases hin : 0 ≤ n ∧ n < m
  · have hwr : IntKind.i64.wrap (f + n) = f + n := by rw [IntKind.wrap_i64]; omega
    have hr2 : r = S.writeOf (f + n) bs := by rw [hr]; unfold DS.arWrite; rw [if_neg (by omega)]
    have Hre := Lib.hid (areach_in w1 a d f m ha1 n hin hwr 47 #[.pointer (some ⟨w.heap.size, 0, none⟩), .pointer (some ⟨pb, 0, none⟩)] (ent_of Tryd.func47 (by kernel_rfl) rfl) (fun er w' => er = r.1 ∧ PD (More F w1 w') w' d r.2 ∧ Only F w1 w')
      (awrite1_is F w1 a d w.heap.size pb S f m h1 ha1 hne hA bs hB hpaF hpbF hb hmany (f + n) r hr2))
    clear hw1 hpb h ha hr hr2 hwr hb hA hB h1 ha1
    go_enter Tryd.func22, Tryd.ntmps22
    go_upto_region 1 with fail
    rw [← Hw1.out, ← Hpb.out]
    go_wp2_with fail
    refine Hre.out.mono ?_
    rintro e w2 ⟨er, rfl, hp⟩
    have Hp := Lib.hid hp
    clear hp
    go_wp2_with fail
    go_ret
    exact ⟨ret_int Hp.out.1, pd_wide Hp.out.2.1 hb1.size, (Only.of_below hb1).trans Hp.out.2.2 (fun _ _ h => h)⟩
  · have hr2 : r = (51, S) := by rw [hr]; unfold DS.arWrite; rw [if_pos (by omega)]
    subst hr2
    have Hre := fun v => Lib.hid (areach_out w1 a d f m ha1 n v (by omega))
    clear hw1 hpb h ha hr hb hA hB ha1
    go_enter Tryd.func22, Tryd.ntmps22
    go_upto_region 1 with fail
    rw [← Hw1.out, ← Hpb.out]
    go_wp2_with fail
    refine (Hre _).out.mono ?_
    rintro e w2 ⟨rfl, hw⟩
    obtain rfl := hw.symm
    go_wp2_with fail
    go_ret
    exact ⟨rfl, more_pd h1, Only.of_below hb1⟩
theorem parea_wipe (n : Int) (hn : -9223372036854775808 ≤ n ∧ n ≤ 9223372036854775807) (hmany : S.waits.length ≤ 1000000) (r : Int × DS) (hr : r = S.arWrite f m n zeros128) :
    Calls Tryd.prog 10 #[.pointer (some ⟨a, 0, none⟩), .int .i64 n] w fun e w' => e = .returned (.int .i64 r.1) ∧ PD (More F w w') w' d r.2 ∧ Only F w w' := by
  have H := Lib.hid (parea_write F w a d S f m h ha hne hs hm1 n hn zeros128 zeros_byte hmany r hr)
  have Hz := Lib.hid zero_arr
  clear h ha hr
  go_enter Tryd.func10, Tryd.ntmps10
  go_wp2_with fail
  try rw [Hz.out]
  refine H.out.mono ?_
  rintro e w' ⟨rfl, hd, hO⟩
  go_wp2_with fail
  go_ret
  exact ⟨rfl, hd, hO⟩
set_option maxHeartbeats 1600000 in
theorem parea_put (n kind num : Int) (hn : -9223372036854775808 ≤ n ∧ n ≤ 9223372036854775807) (hk : -9223372036854775808 ≤ kind ∧ kind ≤ 9223372036854775807) (hnum : -9223372036854775808 ≤ num ∧ num ≤ 9223372036854775807) (ht : Tabs w) (A : Option Addr) (q cc : Nat) (load : List Int) (hx : Sl w A q (u8s load)) (hb : Bytes load) (hq : q ≤ 9223372036854775807) (hmany : S.waits.length ≤ 1000000) (r : Int × DS) (hr : r = S.arPut f m n kind num load) :
    Calls Tryd.prog 9 #[.pointer (some ⟨a, 0, none⟩), .int .i64 n, .int .i64 kind, .int .i64 num, .slice A q cc] w fun e w' => e = .returned (.int .i64 r.1) ∧ PD (More F w w') w' d r.2 ∧ Only F w w' := by
  have hlen : load.length = q := by simpa using hx.1
  obtain ⟨er, her⟩ : ∃ er, er = makeErr kind num q := ⟨_, rfl⟩
  obtain ⟨bs, hbs⟩ : ∃ bs, bs = makeOf kind num load := ⟨_, rfl⟩
  have hl : Byte128 bs := by rw [hbs]; exact ⟨makeOf_len _ _ _, makeOf_bytes hb⟩
  have H := Lib.hid (anone_is w a d f m ha)
  have Hm := Lib.hid (pmake_is kind num hk hnum A q cc load w ht hx hb hq bs er hbs her)
  have Hr := Lib.hid hr
  have Hbs := Lib.hid hbs; have Her := Lib.hid her; have Hl := Lib.hid hl; have Hlen := Lib.hid hlen
  clear hr hb hbs her hl hlen hx
  go_enter Tryd.func9, Tryd.ntmps9
  go_wp2_with fail
  refine H.out.mono ?_
  rintro e w' ⟨rfl, hw⟩
  obtain rfl := hw.symm
  go_wp2_with fail
  refine Hm.out.mono ?_
  rintro e w2 ⟨rfl, hb2⟩
  obtain ⟨w3, hw3, hb3, hR3, hth, hsA, hsL⟩ := arr_new w2 bs Hl.out.1
  have hb13 : Below w.heap.size w w3 := (hb2.trans (hb3.mono hb2.size))
  have h3 := h.only (Only.of_below (F := Nothing) hb13) (fun _ _ hk => hk)
  have ha3 := ha.kept (hb13.block _ ha.lt)
  have Hw3 := Lib.hid hw3; have Hth := Lib.hid hth
  have hone := one_u8s bs
  clear hw3 hth hb3 hb2 h ha Hm
  by_cases he : er = 0
  · have e := Hr.out
    unfold DS.arPut at e; rw [if_pos (by rw [Hlen.out, ← Her.out, he])] at e
    have ebs : bs = sealed kind num load := by rw [Hbs.out, makeOf, if_pos (by rw [Hlen.out, ← Her.out, he])]
    rw [← ebs] at e
    have Hwr := Lib.hid (parea_write F w3 a d S f m h3 ha3 hne hs hm1 n hn bs Hl.out hmany r e)
    have HR := Lib.hid hR3.range
    subst he
    clear e ebs hR3
    go_wp2_with (first
      | (refine wpList_store_mid rfl 52 (.tmp 11) (.tmp 20) rfl w2.heap.size 0 (u8s bs).toArray rfl rfl Hth.out hsA (all_oneCell_toArray hone) ?_; rw [show (u8s bs).toArray.toList = u8s bs from rfl, ← Hw3.out])
      | (refine wpList_load_mid rfl 52 (.tmp 11) rfl w2.heap.size 0 rfl (u8s bs) _ HR.out Tryd.underlying52 rfl hsL ?_))
    refine Hwr.out.mono ?_
    rintro e w4 ⟨rfl, hd, hO⟩
    go_wp2_with fail
    go_ret
    exact ⟨rfl, pd_wide hd hb13.size, (Only.of_below hb13).trans hO (fun _ _ hk => hk)⟩
  · have e := Hr.out
    unfold DS.arPut at e; rw [if_neg (by rw [Hlen.out, ← Her.out]; exact he), Hlen.out, ← Her.out] at e
    have He := Lib.hid e
    have hne : (er != 0) = true := by simpa using he
    clear e he hR3
    go_wp2_with (refine wpList_store_mid rfl 52 (.tmp 11) (.tmp 20) rfl w2.heap.size 0 (u8s bs).toArray rfl rfl Hth.out hsA (all_oneCell_toArray hone) ?_; rw [show (u8s bs).toArray.toList = u8s bs from rfl, ← Hw3.out])
    go_ret
    rw [He.out]
    exact ⟨rfl, more_pd h3, Only.of_below hb13⟩
end

set_option maxHeartbeats 3200000 in
theorem aread1_is (F : Nat → Prop) (w : World) (a d pa pb : Nat) (S : DS) (f m : Int) (h : PD F w d S) (ha : PArea w a d f m) (hne : ¬ F a) (hA : Blk w pa 26 [.pointer (some ⟨a, 0, none⟩)]) (hB : Blk w pb 52 (u8s zeros128)) (hpa : ¬ F pa) (hpb : ¬ F pb) (k : Int) (r : List Int × Int × DS) (hr : r = S.readOf k) :
    Calls Tryd.prog 48 #[.int .i64 k, .pointer (some ⟨pa, 0, none⟩), .pointer (some ⟨pb, 0, none⟩)] w fun e w' => ∃ er, e = .returned (.int .i64 er) ∧ er = r.2.1 ∧ Blk w' pb 52 (u8s r.1) ∧ PD (More F w w') w' d r.2.2 ∧ Only (fun j => F j ∨ j = pb) w w' := by
  have hrb : Byte128 r.1 := by rw [hr]; exact readOf_byte h.wf k
  have Hd := Lib.hid (dread_any F w d S h k r hr)
  have hc0 := hA.cell (i := 0) rfl
  have hc1 := Blk.cell (i := 0) ha rfl
  obtain ⟨rb, re, rS⟩ := r
  have hrl : rb.length = 128 := hrb.1
  have hsA : (Tryd.prog.info? 52).map (·.size) = some (u8s rb).toArray.size := by rw [size_arr, List.size_toArray, List.length_map, hrl]
  have Hrl := Lib.hid hrl
  clear hr hrb h hrl
  go_enter Tryd.func48, Tryd.ntmps48
  go_wp2_with fail
  refine Hd.out.mono ?_
  rintro e w2 ⟨rfl, hd2, hO2⟩
  have hB2 := hO2.blk hB hpb
  have Hth := Lib.hid (hB2.there (n := (u8s rb).toArray.size) (by rw [List.size_toArray, List.length_map, List.length_map, Hrl.out, zeros_len]; omega))
  have hone := one_u8s rb
  have hO3 : Only (fun j => j = pb) w2 (w2.setCells pb 0 (u8s rb)) := setCells_only (F := fun j => j = pb) w2 (rb := pb) rfl _ _
  have Hd3 := Lib.hid (show PD (More F w (w2.setCells pb 0 (u8s rb))) (w2.setCells pb 0 (u8s rb)) d rS by
    have hpbl := hB.lt
    have h2 := hd2.only hO3 (fun j hj e => by subst e; rcases hj with hj | hj; exact hpb hj; omega)
    exact h2.mono' (fun j hj => by rcases hj with hj | hj; exact Or.inl hj; exact Or.inr ⟨hj.1, Nat.lt_of_lt_of_le hj.2 hO3.size⟩) (fun j hj => by rcases hj with hj | hj; exact h2.fin (Or.inl hj); exact hj.2))
  have HO := Lib.hid (show Only (fun j => F j ∨ j = pb) w (w2.setCells pb 0 (u8s rb)) from (hO2.mono (fun _ _ h => Or.inl h)).trans hO3 (fun _ _ h => Or.inr h))
  have HB3 := Lib.hid (show Blk (w2.setCells pb 0 (u8s rb)) pb 52 (u8s rb) from setCells_whole hB2 (by rw [List.length_map, List.length_map, Hrl.out, zeros_len]))
  obtain ⟨w3, hw3⟩ : ∃ w3, w3 = w2.setCells pb 0 (u8s rb) := ⟨_, rfl⟩
  rw [← hw3] at Hd3 HO HB3
  have Hw3 := Lib.hid hw3
  clear hw3 hO3 hd2 hO2 hB2 hB
  go_wp2_with (refine wpList_store_mid rfl 52 (.tmp 2) (.tmp 12) rfl pb 0 (u8s rb).toArray rfl rfl Hth.out hsA (all_oneCell_toArray hone) ?_; rw [show (u8s rb).toArray.toList = u8s rb from rfl, ← Hw3.out])
  go_ret
  exact ⟨_, rfl, rfl, HB3.out, Hd3.out, HO.out⟩
theorem aread_new (w : World) (p : Value) : ∃ w1, w1 = (w.alloc (.cells #[p] 26)).alloc (.cells Tryd.zeroCells52 52) ∧ Below w.heap.size w w1 ∧ Blk w1 w.heap.size 26 [p] ∧ Blk w1 (w.heap.size + 1) 52 (u8s zeros128) := by
  refine ⟨_, rfl, (below_alloc _ _).trans ((below_alloc _ _).mono (by rw [nblk_alloc]; omega)), (Blk.new _ _ _).alloc _, ?_⟩
  have := zero_new (w.alloc (.cells #[p] 26))
  rw [nblk_alloc] at this
  exact this
theorem setCells_same {F : Nat → Prop} {w w2 : World} {b d : Nat} {t : TypeId} {cs : List Value} {S : DS} (h : Blk w2 b t cs) (hd : PD (More F w w2) w2 d S) (hO : Only F w w2) : PD (More F w (w2.setCells b 0 cs)) (w2.setCells b 0 cs) d S ∧ Only F w (w2.setCells b 0 cs) := by
  have hk : ∀ k, (w2.setCells b 0 cs).heap[k]? = w2.heap[k]? := fun k => by
    by_cases e : k = b
    · subst e
      exact (setCells_whole h rfl).trans h.symm
    · exact setCells_other b cs 0 w2 k e
  have hz := setCells_size b cs 0 w2
  obtain ⟨h1, h2, h3⟩ := setCells_misc b cs 0 w2
  have hm : More F w (w2.setCells b 0 cs) = More F w w2 := by unfold More; rw [hz]
  rw [hm]
  exact ⟨hd.keep (by rw [hz]; exact Nat.le_refl _) (fun k _ => hk k), ⟨h1.trans hO.os, h2.trans hO.tape, h3.trans hO.output, by rw [hz]; exact hO.size, fun k hk1 hn => (hk k).trans (hO.block k hk1 hn)⟩⟩
set_option maxHeartbeats 1600000 in
theorem aread_end (w w1 : World) (ap : Value) (n : Int) (pb : Nat) (rb : List Int) (re : Int) (hrl : rb.length = 128) (hpb : pb = w.heap.size + 1) (R : World → Prop) (hw1 : w1 = (w.alloc (.cells #[ap] 26)).alloc (.cells Tryd.zeroCells52 52)) (hA : Blk w1 w.heap.size 26 [ap]) (hap : ap = .pointer none ∨ ∃ a, ap = .pointer (some ⟨a, 0, none⟩))
    (hre : Calls Tryd.prog 46 #[ap, .int .i64 n, .func (.func 48) #[] #[.pointer (some ⟨w.heap.size, 0, none⟩), .pointer (some ⟨pb, 0, none⟩)]] w1 fun e w' => e = .returned (.int .i64 re) ∧ Blk w' pb 52 (u8s rb) ∧ R (w'.setCells pb 0 (u8s rb))) :
    Calls Tryd.prog 26 #[ap, .int .i64 n] w fun e w' => e = .returned (.tuple #[.agg (u8s rb).toArray, .int .i64 re]) ∧ R w' := by
  have hc0 := hA.cell (i := 0) rfl
  have Hw1 := Lib.hid hw1; have Hpb := Lib.hid hpb; have Hre := Lib.hid hre
  have hsA : (Tryd.prog.info? 52).map (·.size) = some (u8s rb).toArray.size := by rw [size_arr, List.size_toArray, List.length_map, hrl]
  have hsL : (Tryd.prog.info? 52).map (·.size) = some (u8s rb).length := by rw [size_arr, List.length_map, hrl]
  have Hrl := Lib.hid hrl
  have hone := one_u8s rb
  clear hw1 hpb hre hA hrl
  rcases hap with rfl | ⟨a, rfl⟩
  all_goals
    go_enter Tryd.func26, Tryd.ntmps26
    go_upto_region 1 with fail
    rw [← Hw1.out, ← Hpb.out]
    go_wp2_with fail
    refine Hre.out.mono ?_
    rintro e w2 ⟨rfl, hB2, hR⟩
    have HR := Lib.hid hR
    have Hrg := Lib.hid hB2.range
    have Hth := Lib.hid (hB2.there (n := (u8s rb).toArray.size) (by rw [List.size_toArray]; exact Nat.le_refl _))
    have HB3 := Lib.hid (show Blk (w2.setCells pb 0 (u8s rb)) pb 52 (u8s rb) from setCells_whole hB2 rfl)
    clear hR hB2
    go_wp2_with (first
      | (refine wpList_load_mid rfl 52 (.tmp 4) rfl pb 0 rfl (u8s rb) _ Hrg.out Tryd.underlying52 rfl hsL ?_)
      | (refine wpList_store_mid rfl 52 (.tmp 4) (.tmp 10) rfl pb 0 (u8s rb).toArray rfl rfl Hth.out hsA (all_oneCell_toArray hone) ?_))
    refine bodyPost_ret (v := .tuple #[.agg (u8s rb).toArray, .int .i64 re]) ?_ rfl ⟨rfl, HR.out⟩
    exact results_arr_int rfl _ _ pb 52 _ (0, 0) _ rfl HB3.out Tryd.underlying52 rfl hsA _ rfl
set_option maxHeartbeats 1600000 in
theorem parea_read (F : Nat → Prop) (w : World) (a d : Nat) (S : DS) (f m : Int) (h : PD F w d S) (ha : PArea w a d f m) (hne : ¬ F a) (hs : Spot f m) (hm1 : 1 ≤ m) (n : Int) (hn : -9223372036854775808 ≤ n ∧ n ≤ 9223372036854775807) (r : List Int × Int × DS) (hr : r = S.arRead f m n) :
    Calls Tryd.prog 26 #[.pointer (some ⟨a, 0, none⟩), .int .i64 n] w fun e w' => e = .returned (.tuple #[.agg (u8s r.1).toArray, .int .i64 r.2.1]) ∧ PD (More F w w') w' d r.2.2 ∧ Only F w w' := by
  obtain ⟨w1, hw1, hb1, hA, hB⟩ := aread_new w (.pointer (some ⟨a, 0, none⟩))
  have h1 := h.only (Only.of_below (F := Nothing) hb1) (fun _ _ hk => hk)
  have ha1 := ha.kept (hb1.block _ ha.lt)
  have hpaF : ¬ F w.heap.size := fun hk => by have := h.fin hk; omega
  have hpbF : ¬ F (w.heap.size + 1) := fun hk => by have := h.fin hk; omega
  have hrb : Byte128 r.1 := by rw [hr]; exact arRead_byte h.wf f m n
  unfold Spot at hs
  refine aread_end w w1 _ n _ r.1 r.2.1 hrb.1 rfl (fun w' => PD (More F w w') w' d r.2.2 ∧ Only F w w') hw1 hA (Or.inr ⟨a, rfl⟩) ?_
  by_cases hin : 0 ≤ n ∧ n < m
  · have hwr : IntKind.i64.wrap (f + n) = f + n := by rw [IntKind.wrap_i64]; omega
    have hr2 : r = S.readOf (f + n) := by rw [hr]; unfold DS.arRead; rw [if_neg (by omega)]
    refine (areach_in w1 a d f m ha1 n hin hwr 48 #[.pointer (some ⟨w.heap.size, 0, none⟩), .pointer (some ⟨w.heap.size + 1, 0, none⟩)] (ent_of Tryd.func48 (by kernel_rfl) rfl) (fun er w' => er = r.2.1 ∧ Blk w' (w.heap.size + 1) 52 (u8s r.1) ∧ PD (More F w1 w') w' d r.2.2 ∧ Only (fun j => F j ∨ j = w.heap.size + 1) w1 w')
      (aread1_is F w1 a d w.heap.size (w.heap.size + 1) S f m h1 ha1 hne hA hB hpaF hpbF (f + n) r hr2)).mono ?_
    rintro e w2 ⟨er, rfl, rfl, hB2, hd, hO⟩
    refine ⟨rfl, hB2, ?_⟩
    exact setCells_same hB2 (pd_wide hd hb1.size) ((Only.of_below hb1).trans (hO.mono (G := fun j => F j ∨ w.heap.size ≤ j) (fun j _ hj => by rcases hj with hj | hj; exact Or.inl hj; exact Or.inr (by omega))) (fun j hj hg => by rcases hg with hg | hg; exact hg; omega))
  · have hr2 : r = (zeros128, 51, S) := by rw [hr]; unfold DS.arRead; rw [if_pos (by omega)]
    subst hr2
    refine (areach_out w1 a d f m ha1 n _ (by omega)).mono ?_
    rintro e w2 ⟨rfl, hw⟩
    obtain rfl := hw.symm
    exact ⟨rfl, hB, setCells_same hB (more_pd h1) (Only.of_below hb1)⟩

set_option maxHeartbeats 1600000 in
theorem parea_take (F : Nat → Prop) (w : World) (a d : Nat) (S : DS) (f m : Int) (h : PD F w d S) (ha : PArea w a d f m) (hne : ¬ F a) (hs : Spot f m) (hm1 : 1 ≤ m) (n kind : Int) (hn : -9223372036854775808 ≤ n ∧ n ≤ 9223372036854775807) (hk : -9223372036854775808 ≤ kind ∧ kind ≤ 9223372036854775807) (ht : Tabs w) (hTF : NoTabs F) (r : Int × List Int × Int × DS) (hr : r = S.arTake f m n kind) :
    Calls Tryd.prog 7 #[.pointer (some ⟨a, 0, none⟩), .int .i64 n, .int .i64 kind] w fun e w' => (∃ B cc, e = .returned (.tuple #[.int .i64 r.1, .slice B r.2.1.length cc, .int .i64 r.2.2.1]) ∧ Sl w' B r.2.1.length (u8s r.2.1) ∧ (∀ ad, B = some ad → w.heap.size ≤ ad.block)) ∧ PD (More F w w') w' d r.2.2.2 ∧ Only F w w' := by
  obtain ⟨q, hq⟩ : ∃ q, q = S.arRead f m n := ⟨_, rfl⟩
  have hqb : Byte128 q.1 := by rw [hq]; exact arRead_byte h.wf f m n
  have Hrd := Lib.hid (parea_read F w a d S f m h ha hne hs hm1 n hn q hq)
  have Hq := Lib.hid hq
  have Hqb := Lib.hid hqb
  have Hr := Lib.hid hr
  have Ht := Lib.hid ht
  clear hr hq hqb h ha ht hs hm1 hn
  go_enter Tryd.func7, Tryd.ntmps7
  go_wp2_with fail
  refine Hrd.out.mono ?_
  rintro e w2 ⟨rfl, hd2, hO2⟩
  obtain ⟨w3, hw3, hb3, hR3, hth, hsA, hsL⟩ := arr_new w2 q.1 Hqb.out.1
  obtain ⟨qb, qe, qS⟩ := q
  have hO3 : Only F w w3 := hO2.trans (Only.of_below (F := F) hb3) (fun _ _ hk => hk)
  have hd3 : PD (More F w w3) w3 d qS := by
    have := hd2.only (Only.of_below (F := Nothing) hb3) (fun _ _ hk => hk)
    exact this.mono' (fun j hj => by rcases hj with hj | hj; exact Or.inl hj; exact Or.inr ⟨hj.1, Nat.lt_of_lt_of_le hj.2 hb3.size⟩) (fun j hj => by rcases hj with hj | hj; exact this.fin (Or.inl hj); exact hj.2)
  have Ht3 := Lib.hid (show Tabs w3 from Ht.out.only hO3 hTF)
  have Hw3 := Lib.hid hw3; have Hth := Lib.hid hth; have HR := Lib.hid hR3.range
  have hone := one_u8s qb
  have hsz2 := hO2.size
  have hsz3 := hO3.size
  clear hw3 hth hb3 hR3 hd2 hO2 Hrd
  simp only [] at hsA hsL hone Hw3 Hth HR Hqb ⊢
  by_cases he : qe = 0
  · subst he
    obtain ⟨o, ho⟩ : ∃ o, o = openOf qb kind := ⟨_, rfl⟩
    have e := Hr.out
    unfold DS.arTake at e; rw [← Hq.out, if_pos rfl, ← ho] at e
    have He := Lib.hid e
    have Hop := Lib.hid (popen_of qb Hqb.out.1 Hqb.out.2 w3 Ht3.out kind hk o ho)
    clear e ho
    go_wp2_with (first
      | (refine wpList_store_mid rfl 52 (.tmp 9) (.tmp 14) rfl w2.heap.size 0 (u8s qb).toArray rfl rfl Hth.out hsA (all_oneCell_toArray hone) ?_; rw [show (u8s qb).toArray.toList = u8s qb from rfl, ← Hw3.out])
      | (refine wpList_load_mid rfl 52 (.tmp 9) rfl w2.heap.size 0 rfl (u8s qb) _ HR.out Tryd.underlying52 rfl hsL ?_))
    refine Hop.out.mono ?_
    rintro e w4 ⟨B, cc, rfl, hsl, hfr, hb4⟩
    go_wp2_with fail
    go_ret3
    rw [He.out]
    have hd4 := hd3.only (Only.of_below (F := Nothing) hb4) (fun _ _ hk => hk)
    exact ⟨⟨B, cc, rfl, hsl, fun ad e => Nat.le_trans hsz3 (hfr ad e)⟩, hd4.mono' (fun j hj => by rcases hj with hj | hj; exact Or.inl hj; exact Or.inr ⟨hj.1, Nat.lt_of_lt_of_le hj.2 hb4.size⟩) (fun j hj => by rcases hj with hj | hj; exact hd4.fin (Or.inl hj); exact hj.2), hO3.trans (Only.of_below (F := F) hb4) (fun _ _ hk => hk)⟩
  · have e := Hr.out
    unfold DS.arTake at e; rw [← Hq.out, if_neg he] at e
    have He := Lib.hid e
    have hne : (qe != 0) = true := by simpa using he
    clear e he
    go_wp2_with (refine wpList_store_mid rfl 52 (.tmp 9) (.tmp 14) rfl w2.heap.size 0 (u8s qb).toArray rfl rfl Hth.out hsA (all_oneCell_toArray hone) ?_; rw [show (u8s qb).toArray.toList = u8s qb from rfl, ← Hw3.out])
    go_ret3
    rw [He.out]
    first | exact ⟨⟨none, 0, rfl, Sl.nil_ _ _, fun _ e => by cases e⟩, hd3, hO3⟩ | exact ⟨⟨none, ⟨0, rfl⟩, Sl.nil_ _ _, fun _ e => by cases e⟩, hd3, hO3⟩
theorem narea_take (w : World) (n k : Int) : Calls Tryd.prog 7 #[.pointer none, .int .i64 n, .int .i64 k] w fun e w' => e = .returned (.tuple #[.int .i64 0, .slice none 0 0, .int .i64 1]) ∧ Below w.heap.size w w' := by
  obtain ⟨w1, hw1, hb1, hA, hB⟩ := aread_new w (.pointer none)
  have Hrd := Lib.hid (aread_end w w1 (.pointer none) n _ zeros128 1 zeros_len rfl (fun w' => Below w.heap.size w w') hw1 hA (Or.inl rfl) ((areach_none w1 n _).mono (by
    rintro e w2 ⟨rfl, hw⟩
    obtain rfl := hw.symm
    exact ⟨rfl, hB, below_setCells hb1 (by omega) _ _⟩)))
  clear hw1 hb1 hA hB
  go_enter Tryd.func7, Tryd.ntmps7
  go_wp2_with fail
  refine Hrd.out.mono ?_
  rintro e w2 ⟨rfl, hb2⟩
  obtain ⟨w3, hw3, hb3, hR3, hth, hsA, hsL⟩ := arr_new w2 zeros128 zeros_len
  have Hw3 := Lib.hid hw3; have Hth := Lib.hid hth
  have hone := one_u8s zeros128
  have hb23 := hb2.trans (hb3.mono hb2.size)
  clear hw3 hth hb3 hb2 hR3
  go_wp2_with (refine wpList_store_mid rfl 52 (.tmp 9) (.tmp 14) rfl w2.heap.size 0 (u8s zeros128).toArray rfl rfl Hth.out hsA (all_oneCell_toArray hone) ?_; rw [show (u8s zeros128).toArray.toList = u8s zeros128 from rfl, ← Hw3.out])
  go_ret3
  exact ⟨rfl, hb23⟩
end Go.Proofs.YtflaikjciachaaaDoor
