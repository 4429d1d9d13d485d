/- Merged texts: PBlank PArea DBeside RDiskU Jour0 RAreaU RJour1 RJour2 PTake PJour0 PJour1 PJour2 PJour. -/
import Derived.Test.YteliebinhdphlaaDoorM2
import Derived.Test.YteliebinhdphlaaDoorM5
import Derived.Deep.CutBlock
import Derived.Laws.MakeOwn
import Derived.WalkMore
/- The program's seal: Blank. -/
namespace Go.Proofs.YteliebinhdphlaaDoor
set_option maxRecDepth 100000
open Go.RowKit Go.Deep
set_option linter.unusedSimpArgs false
set_option linter.unusedVariables false

set_option maxRecDepth 100000 in
set_option maxHeartbeats 3200000 in
theorem pblank_is (bs : List Int) (hl : bs.length = 128) (hb : Bytes bs) (w : World) (q : Bool) (hq : q = decide (bs = zeros128)) :
    Calls Tryd.prog 61 #[.agg (u8s bs).toArray] w fun e w' => e = .returned (.bool q) ∧ Below w.heap.size w w' := by
  obtain ⟨w1, hw1, hB, hb1, hsz⟩ := box_new7 w bs hl
  have heq : (Op.equalIn 10000 72 (.agg (u8s bs).toArray) (.agg (u8s zeros128).toArray)).run Tryd.prog w1 = .ok q w1 := by
    rw [hq]; exact arr128_eq bs zeros128 hl zeros_len w1
  rw [← zero_arr] at heq
  have Hw1 := Lib.hid hw1; have Hr := Lib.hid hB.range
  clear hw1 hB hq hb hl
  go_enter Tryd.func61, Tryd.ntmps61
  go_wp2_with (rw [← Hw1.out]; refine wpList_load_mid rfl 72 (.tmp 1) rfl w.heap.size 0 rfl (u8s bs) _ Hr.out Tryd.underlying72 rfl hsz ?_)
  go_ret
  exact ⟨rfl, hb1⟩
end Go.Proofs.YteliebinhdphlaaDoor

/- The program's areas, by contract. -/
namespace Go.Proofs.YteliebinhdphlaaDoor
set_option maxRecDepth 100000
open Go.RowKit Go.Deep
set_option linter.unusedSimpArgs false
set_option linter.unusedVariables false
attribute [local irreducible] Tryd.zeroCells72

/-- The program's area at a: of the disk at d, m sectors from f on. -/
def PArea (w : World) (a d : Nat) (f m : Int) : Prop := Blk w a 118 [.pointer (some ⟨d, 0, none⟩), .int .i64 f, .int .i64 m]
theorem PArea.lt {w : World} {a d : Nat} {f m : Int} (h : PArea w a d f m) : a < w.heap.size := Blk.lt h
theorem PArea.kept {w w' : World} {a d : Nat} {f m : Int} (h : PArea w a d f m) (e : w'.heap[a]? = w.heap[a]?) : PArea w' a d f m := Blk.kept h e
theorem pd_wide {F : Nat → Prop} {w w1 w2 : World} {c : Nat} {S : DS} (h : PD (More F w1 w2) w2 c S) (hb : w.heap.size ≤ w1.heap.size) : PD (More F w w2) w2 c S :=
  h.mono' (fun k hg => by rcases hg with hg | hg; exact Or.inl hg; exact Or.inr ⟨Nat.le_trans hb hg.1, hg.2⟩) (fun k hk => by rcases hk with hk | hk; exact h.fin (Or.inl hk); exact hk.2)
theorem more_pd {F : Nat → Prop} {w w' : World} {c : Nat} {S : DS} (h : PD F w' c S) : PD (More F w w') w' c S :=
  h.mono' (fun _ h => Or.inl h) (fun k hk => by rcases hk with hk | hk; exact h.fin hk; exact hk.2)

theorem parea_new_nil (w : World) (f m : Int) : Calls Tryd.prog 39 #[.pointer none, .agg #[.int .i64 f, .int .i64 m]] w fun e w' => e = .returned (.tuple #[.pointer none, .int .i64 1]) ∧ Below w.heap.size w w' := by
  obtain ⟨w1, hw1⟩ : ∃ w1, w1 = w.alloc (.cells #[.int .i64 f, .int .i64 m] 91) := ⟨_, rfl⟩
  have hb1 : Below w.heap.size w w1 := by rw [hw1]; exact below_alloc _ _
  have Hw1 := Lib.hid hw1
  clear hw1
  go_enter Tryd.func39, Tryd.ntmps39
  go_upto_region 1 with fail
  rw [← Hw1.out]
  go_wp2_with fail
  refine (nsize_is w1 none (Or.inl rfl)).mono ?_
  rintro e w2 ⟨rfl, hO⟩
  go_wp2
  go_ret2
  exact ⟨rfl, hb1.trans (hO.below hb1.size (fun _ h => h.elim))⟩
section
variable (F : Nat → Prop) (w : World) (d : Nat) (S : DS) (h : PD F w d S)
include h
theorem parea_new_any (f m : Int) : ∃ w1, w1 = w.alloc (.cells #[.int .i64 f, .int .i64 m] 91) ∧ Below w.heap.size w w1 ∧ PD F w1 d S ∧ Blk w1 w.heap.size 91 [.int .i64 f, .int .i64 m] := by
  have hb1 : Below w.heap.size w (w.alloc (.cells #[.int .i64 f, .int .i64 m] 91)) := below_alloc _ _
  exact ⟨_, rfl, hb1, h.only (Only.of_below (F := Nothing) hb1) (fun _ _ hk => hk), Blk.new _ _ _⟩
set_option maxHeartbeats 1600000 in
theorem parea_new_bad (f m : Int) (hf : -9223372036854775808 ≤ f ∧ f ≤ 9223372036854775807) (hm : -9223372036854775808 ≤ m ∧ m ≤ 9223372036854775807) (hbad : f < 0 ∨ (S.kept.length : Int) ≤ f ∨ m < 1 ∨ (S.kept.length : Int) - f < m) :
    Calls Tryd.prog 39 #[.pointer (some ⟨d, 0, none⟩), .agg #[.int .i64 f, .int .i64 m]] w fun e w' => e = .returned (.tuple #[.pointer none, .int .i64 2]) ∧ Below w.heap.size w w' := by
  have hn := h.wf.n1
  have hn2 := h.wf.n2
  obtain ⟨n, hnn⟩ : ∃ n, n = S.kept.length := ⟨_, rfl⟩
  rw [← hnn] at hn hn2 hbad
  obtain ⟨w1, hw1, hb1, h1, hP⟩ := parea_new_any F w d S h f m
  have Hs := Lib.hid (dsize_is F w1 d S h1)
  rw [← hnn] at Hs
  have hc0 : ∀ w2, Only Nothing w1 w2 → w2.cell? ⟨w.heap.size, 0, none⟩ = some (.int .i64 f) := fun w2 hO => (hO.blk hP (fun h => h)).cell (i := 0) rfl
  have hc1 : ∀ w2, Only Nothing w1 w2 → w2.cell? ⟨w.heap.size, 1, none⟩ = some (.int .i64 m) := fun w2 hO => (hO.blk hP (fun h => h)).cell (i := 1) rfl
  have Hc0 := Lib.hid hc0; have Hc1 := Lib.hid hc1
  have Hw1 := Lib.hid hw1
  have hz : ((n : Int) == 0) = false := by simp; omega
  clear hw1 hc0 hc1 hnn h h1 hP
  go_enter Tryd.func39, Tryd.ntmps39
  go_upto_region 1 with fail
  rw [← Hw1.out]
  go_wp2_with fail
  refine Hs.out.mono ?_
  rintro e w2 ⟨rfl, hO⟩
  have hb2 : Below w.heap.size w w2 := hb1.trans (hO.below hb1.size (fun _ h => h.elim))
  have hc0 := Hc0.out w2 hO
  have hc1 := Hc1.out w2 hO
  by_cases q1 : f < 0
  · have q1' : decide (f < 0) = true := decide_eq_true q1
    clear hbad
    go_wp2
    go_ret2
    exact ⟨rfl, hb2⟩
  have q1' : decide (f < 0) = false := decide_eq_false q1
  by_cases q2 : m < 1
  · have q2' : decide (m < 1) = true := decide_eq_true q2
    clear hbad
    go_wp2
    go_ret2
    exact ⟨rfl, hb2⟩
  have q2' : decide (m < 1) = false := decide_eq_false q2
  have hwr : IntKind.i64.wrap ((n : Int) - f) = (n : Int) - f := by rw [IntKind.wrap_i64]; omega
  have q3' : decide ((n : Int) - f < m) = true := decide_eq_true (by omega)
  clear hbad
  go_wp2
  go_ret2
  exact ⟨rfl, hb2⟩
set_option maxHeartbeats 1600000 in
theorem parea_new_is (f m : Int) (hok : 0 ≤ f ∧ f < (S.kept.length : Int) ∧ 1 ≤ m ∧ m ≤ (S.kept.length : Int) - f) :
    Calls Tryd.prog 39 #[.pointer (some ⟨d, 0, none⟩), .agg #[.int .i64 f, .int .i64 m]] w fun e w' => ∃ a, e = .returned (.tuple #[.pointer (some ⟨a, 0, none⟩), .int .i64 0]) ∧ PArea w' a d f m ∧ w.heap.size ≤ a ∧ Below w.heap.size w w' := by
  have hn := h.wf.n1
  have hn2 := h.wf.n2
  obtain ⟨n, hnn⟩ : ∃ n, n = S.kept.length := ⟨_, rfl⟩
  rw [← hnn] at hn hn2 hok
  obtain ⟨w1, hw1, hb1, h1, hP⟩ := parea_new_any F w d S h f m
  have Hs := Lib.hid (dsize_is F w1 d S h1)
  rw [← hnn] at Hs
  have hc0 : ∀ w2, Only Nothing w1 w2 → Blk w2 w.heap.size 91 [.int .i64 f, .int .i64 m] := fun w2 hO => hO.blk hP (fun h => h)
  have Hc0 := Lib.hid hc0
  have Hw1 := Lib.hid hw1
  have hz : ((n : Int) == 0) = false := by simp; omega
  have q1' : decide (f < 0) = false := decide_eq_false (by omega)
  have q2' : decide (m < 1) = false := decide_eq_false (by omega)
  have hwr : IntKind.i64.wrap ((n : Int) - f) = (n : Int) - f := by rw [IntKind.wrap_i64]; omega
  have q3' : decide ((n : Int) - f < m) = false := decide_eq_false (by omega)
  clear hw1 hc0 hnn h h1 hP hok
  go_enter Tryd.func39, Tryd.ntmps39
  go_upto_region 1 with fail
  rw [← Hw1.out]
  go_wp2_with fail
  refine Hs.out.mono ?_
  rintro e w2 ⟨rfl, hO⟩
  have hb2 : Below w.heap.size w w2 := hb1.trans (hO.below hb1.size (fun _ h => h.elim))
  have hP2 := Hc0.out w2 hO
  have hc0 := hP2.cell (i := 0) rfl
  have hc1 := hP2.cell (i := 1) rfl
  have hs2 := hb2.size
  go_wp2
  go_ret2
  exact ⟨_, rfl, Blk.new _ _ _, hs2, hb2.trans ((below_alloc _ _).mono hs2)⟩
end

theorem anone_nil (w : World) : Calls Tryd.prog 53 #[.pointer none] w fun e w' => e = .returned (.bool true) ∧ w' = w := by
  go_enter Tryd.func53, Tryd.ntmps53
  go_wp2
  go_ret
  exact ⟨rfl, rfl⟩
theorem areach_none (w : World) (n : Int) (v : Value) : Calls Tryd.prog 73 #[.pointer none, .int .i64 n, v] w fun e w' => e = .returned (.int .i64 1) ∧ w' = w := by
  go_enter Tryd.func73, Tryd.ntmps73
  go_wp2_with fail
  refine (anone_nil w).mono ?_
  rintro e w' ⟨rfl, hw⟩
  obtain rfl := hw.symm
  go_wp2
  go_ret
  exact ⟨rfl, rfl⟩
section
variable (w : World) (a d : Nat) (f m : Int) (ha : PArea w a d f m)
include ha
theorem anone_is : Calls Tryd.prog 53 #[.pointer (some ⟨a, 0, none⟩)] w fun e w' => e = .returned (.bool false) ∧ w' = w := by
  have hc0 := Blk.cell (i := 0) ha rfl
  go_enter Tryd.func53, Tryd.ntmps53
  go_wp2
  go_ret
  exact ⟨rfl, rfl⟩
theorem areach_out (n : Int) (v : Value) (hn : n < 0 ∨ m ≤ n) : Calls Tryd.prog 73 #[.pointer (some ⟨a, 0, none⟩), .int .i64 n, v] w fun e w' => e = .returned (.int .i64 51) ∧ w' = w := by
  have hc2 := Blk.cell (i := 2) ha rfl
  have H := Lib.hid (anone_is w a d f m ha)
  clear ha
  by_cases h0 : n < 0
  · have q : decide (n < 0) = true := decide_eq_true h0
    clear hn
    go_enter Tryd.func73, Tryd.ntmps73
    go_wp2_with fail
    refine H.out.mono ?_
    rintro e w' ⟨rfl, hw⟩
    obtain rfl := hw.symm
    go_wp2
    go_ret
    exact ⟨rfl, rfl⟩
  · have q : decide (n < 0) = false := decide_eq_false h0
    have q2 : decide (m ≤ n) = true := decide_eq_true (by omega)
    clear hn
    go_enter Tryd.func73, Tryd.ntmps73
    go_wp2_with fail
    refine H.out.mono ?_
    rintro e w' ⟨rfl, hw⟩
    obtain rfl := hw.symm
    go_wp2
    go_ret
    exact ⟨rfl, rfl⟩
theorem areach_in (n : Int) (hn : 0 ≤ n ∧ n < m) (hf : IntKind.i64.wrap (f + n) = f + n) (g : Nat) (cap : Array Value) (hent : ∀ (args : Array Value) (w : World), (callFunc g args).run Tryd.prog w = .ok (.enter g args) w) (R : Int → World → Prop)
    (hstep : Calls Tryd.prog g (#[.int .i64 (f + n)] ++ cap) w fun e w' => ∃ er, e = .returned (.int .i64 er) ∧ R er w') :
    Calls Tryd.prog 73 #[.pointer (some ⟨a, 0, none⟩), .int .i64 n, .func (.func g) #[] cap] w fun e w' => ∃ er, e = .returned (.int .i64 er) ∧ R er w' := by
  have hc1 := Blk.cell (i := 1) ha rfl
  have hc2 := Blk.cell (i := 2) ha rfl
  have H := Lib.hid (anone_is w a d f m ha)
  have Hs := Lib.hid hstep
  have q : decide (n < 0) = false := decide_eq_false (by omega)
  have q2 : decide (m ≤ n) = false := decide_eq_false (by omega)
  clear ha hstep hn
  go_enter Tryd.func73, Tryd.ntmps73
  go_wp2_with fail
  refine H.out.mono ?_
  rintro e w' ⟨rfl, hw⟩
  obtain rfl := hw.symm
  go_wp2_with fail
  refine Hs.out.mono ?_
  rintro e w2 ⟨er, rfl, hR⟩
  have HR := Lib.hid hR
  clear hR
  go_wp2_with fail
  go_ret
  exact ⟨er, rfl, HR.out⟩
end

/-! An area that is none. -/
theorem narea_many (w : World) : Calls Tryd.prog 31 #[.pointer none] w fun e w' => e = .returned (.int .i64 0) ∧ Below w.heap.size w w' := by
  go_enter Tryd.func31, Tryd.ntmps31
  go_wp2
  go_ret
  exact ⟨rfl, Below.refl _ _⟩
theorem narea_flush (w : World) : Calls Tryd.prog 32 #[.pointer none] w fun e w' => e = .returned (.int .i64 1) ∧ Below w.heap.size w w' := by
  go_enter Tryd.func32, Tryd.ntmps32
  go_wp2_with fail
  refine (anone_nil w).mono ?_
  rintro e w' ⟨rfl, hw⟩
  obtain rfl := hw.symm
  go_wp2
  go_ret
  exact ⟨rfl, Below.refl _ _⟩
theorem narea_put (w : World) (ht : Tabs w) : Calls Tryd.prog 30 #[.pointer none, .int .i64 0, .int .i64 1, .int .i64 1, .slice none 0 0] w fun e w' => e = .returned (.int .i64 1) ∧ Below w.heap.size w w' := by
  go_enter Tryd.func30, Tryd.ntmps30
  go_wp2_with fail
  refine (anone_nil w).mono ?_
  rintro e w' ⟨rfl, hw⟩
  obtain rfl := hw.symm
  go_wp2
  go_ret
  exact ⟨rfl, Below.refl _ _⟩
theorem narea_write (w : World) (n : Int) (bs : List Int) : Calls Tryd.prog 54 #[.pointer none, .int .i64 n, .agg (u8s bs).toArray] w fun e w' => e = .returned (.int .i64 1) ∧ Below w.heap.size w w' := by
  obtain ⟨w1, hw1⟩ : ∃ w1, w1 = (w.alloc (.cells #[.pointer none] 38)).alloc (.cells (u8s bs).toArray 72) := ⟨_, rfl⟩
  have hb1 : Below w.heap.size w w1 := by rw [hw1]; exact (below_alloc _ _).trans ((below_alloc _ _).mono (by rw [nblk_alloc]; omega))
  have hP : Blk w1 w.heap.size 38 [.pointer none] := by rw [hw1]; exact (Blk.new _ _ _).alloc _
  have hc := hP.cell (i := 0) rfl
  have Hw1 := Lib.hid hw1
  clear hw1
  go_enter Tryd.func54, Tryd.ntmps54
  go_upto_region 1 with fail
  rw [← Hw1.out]
  go_wp2_with fail
  refine (areach_none w1 n _).mono ?_
  rintro e w' ⟨rfl, hw⟩
  obtain rfl := hw.symm
  go_wp2
  go_ret
  exact ⟨rfl, hb1⟩
theorem narea_wipe (w : World) (n : Int) : Calls Tryd.prog 62 #[.pointer none, .int .i64 n] w fun e w' => e = .returned (.int .i64 1) ∧ Below w.heap.size w w' := by
  have H := Lib.hid (narea_write w n zeros128)
  have Hz := Lib.hid zero_arr
  go_enter Tryd.func62, Tryd.ntmps62
  go_wp2_with fail
  try rw [Hz.out]
  refine H.out.mono ?_
  rintro e w' ⟨rfl, hb⟩
  go_wp2
  go_ret
  exact ⟨rfl, hb⟩

set_option maxHeartbeats 3200000 in
theorem awrite1_is (F : Nat → Prop) (w : World) (a d pa pb : Nat) (S : DS) (f m : Int) (h : PD F w d S) (ha : PArea w a d f m) (hne : ¬ F a) (hA : Blk w pa 38 [.pointer (some ⟨a, 0, none⟩)]) (bs : List Int) (hB : Blk w pb 72 (u8s bs)) (hpa : ¬ F pa) (hpb : ¬ F pb) (hb : Byte128 bs) (hmany : S.waits.length ≤ 1000000) (k : Int) (r : Int × DS) (hr : r = S.writeOf k bs) :
    Calls Tryd.prog 74 #[.int .i64 k, .pointer (some ⟨pa, 0, none⟩), .pointer (some ⟨pb, 0, none⟩)] w fun e w' => ∃ er, e = .returned (.int .i64 er) ∧ er = r.1 ∧ PD (More F w w') w' d r.2 ∧ Only F w w' := by
  have hsL : (Tryd.prog.info? 72).map (·.size) = some (u8s bs).length := by rw [size_arr, List.length_map, hb.1]
  have Hd := Lib.hid (dwrite_any F w.drew d S h.drew k bs hb hmany r hr)
  have hA := hA.drew
  have hB := hB.drew
  have ha : Blk w.drew a 118 [.pointer (some ⟨d, 0, none⟩), .int .i64 f, .int .i64 m] := Blk.drew ha
  clear hr hb
  go_enter Tryd.func74, Tryd.ntmps74
  go_upto_region 1 with fail
  refine wp_region_held_drew (S := fun w0 => w0.cell? ⟨pa, 0, none⟩ = some (.pointer (some ⟨a, 0, none⟩)) ∧ w0.rangeAt pb 0 (u8s bs) ∧ w0.cell? ⟨a, 0, none⟩ = some (.pointer (some ⟨d, 0, none⟩))) (by kernel_rfl) ⟨hA.cell (i := 0) rfl, hB.range, ha.cell (i := 0) rfl⟩ (fun hHeld => ?_)
  refine wpAnyH_take (i := 0) (oi := ?oiz1) (v := ?vz1) ?hiz1 ?haz1 ?hbz1 ?hcz1 ?hqz1 ?hyz1 (by assumption) ?restz1
  case hiz1 => (simp only [List.getElem?_toArray, List.getElem?_cons_zero, List.getElem?_cons_succ]; rfl)
  case haz1 => kernel_rfl
  case hbz1 => kernel_rfl
  case hcz1 => kernel_rfl
  case hyz1 => exact Or.inl ⟨by rfl, by (intro w hSw; (try dsimp only at hSw); go_split_ands; go_simp; (try with_reducible rfl))⟩
  case hqz1 => exact fun _ _ _ h => h
  try simp only [Act.put, List.setIfInBounds_toArray, List.set_cons_zero, List.set_cons_succ]
  refine wpAnyH_take (i := 1) (oi := ?oiz2) (v := ?vz2) ?hiz2 ?haz2 ?hbz2 ?hcz2 ?hqz2 ?hyz2 (by assumption) ?restz2
  case hiz2 => (simp only [List.getElem?_toArray, List.getElem?_cons_zero, List.getElem?_cons_succ]; rfl)
  case haz2 => kernel_rfl
  case hbz2 => kernel_rfl
  case hcz2 => kernel_rfl
  case hyz2 => exact Or.inl ⟨by rfl, by (intro w hSw; (try dsimp only at hSw); go_split_ands; go_simp; (try with_reducible rfl))⟩
  case hqz2 => exact fun _ _ _ h => h
  try simp only [Act.put, List.setIfInBounds_toArray, List.set_cons_zero, List.set_cons_succ]
  refine wpAnyH_take (i := 2) (oi := ?oiz3) (v := ?vz3) ?hiz3 ?haz3 ?hbz3 ?hcz3 ?hqz3 ?hyz3 (by assumption) ?restz3
  case hiz3 => (simp only [List.getElem?_toArray, List.getElem?_cons_zero, List.getElem?_cons_succ]; rfl)
  case haz3 => kernel_rfl
  case hbz3 => kernel_rfl
  case hcz3 => kernel_rfl
  case hyz3 => exact Or.inl ⟨by rfl, by (intro w hSw; (try dsimp only at hSw); go_split_ands; go_simp; (try with_reducible rfl))⟩
  case hqz3 => exact fun _ _ _ h => h
  try simp only [Act.put, List.setIfInBounds_toArray, List.set_cons_zero, List.set_cons_succ]
  refine wpAnyH_take (i := 3) (oi := ?oiz4) (v := ?vz4) ?hiz4 ?haz4 ?hbz4 ?hcz4 ?hqz4 ?hyz4 (by assumption) ?restz4
  case hiz4 => (simp only [List.getElem?_toArray, List.getElem?_cons_zero, List.getElem?_cons_succ]; rfl)
  case haz4 => kernel_rfl
  case hbz4 => kernel_rfl
  case hcz4 => kernel_rfl
  case hyz4 => exact Or.inl ⟨by rfl, by (intro w hSw; (try dsimp only at hSw); go_split_ands; go_simp; (try with_reducible rfl))⟩
  case hqz4 => exact fun _ _ _ h => h
  try simp only [Act.put, List.setIfInBounds_toArray, List.set_cons_zero, List.set_cons_succ]
  refine wpAnyH_take (i := 4) (oi := ?oiz5) (v := ?vz5) ?hiz5 ?haz5 ?hbz5 ?hcz5 ?hqz5 ?hyz5 (by assumption) ?restz5
  case hiz5 => (simp only [List.getElem?_toArray, List.getElem?_cons_zero, List.getElem?_cons_succ]; rfl)
  case haz5 => kernel_rfl
  case hbz5 => kernel_rfl
  case hcz5 => kernel_rfl
  case hyz5 => exact Or.inl ⟨by rfl, by (intro w hSw; (try dsimp only at hSw); go_split_ands; go_simp; (try with_reducible rfl))⟩
  case hqz5 => exact fun _ _ _ h => h
  try simp only [Act.put, List.setIfInBounds_toArray, List.set_cons_zero, List.set_cons_succ]
  refine wpAnyH_take (i := 5) (oi := ?oiz6) (v := .agg (u8s bs).toArray) ?hiz6 ?haz6 ?hbz6 ?hcz6 ?hqz6 ?hyz6 (by assumption) ?restz6
  case hiz6 => (simp only [List.getElem?_toArray, List.getElem?_cons_zero, List.getElem?_cons_succ]; rfl)
  case haz6 => kernel_rfl
  case hbz6 => kernel_rfl
  case hcz6 => kernel_rfl
  case hyz6 => exact Or.inl ⟨by rfl, fun w' hSw => run_load_op 72 (.tmp 2) rfl pb 0 rfl (u8s bs) _ hSw.2.1 Tryd.underlying72 rfl hsL⟩
  case hqz6 => exact fun _ _ _ h => h
  try simp only [Act.put, List.setIfInBounds_toArray, List.set_cons_zero, List.set_cons_succ]
  refine wpAnyH_ready (rs := [6]) (by kernel_rfl) (by simp) ?_
  refine AllReadyH.cons (o := ?oiz7) ?hiz7 (fun K hK => ?stepz7) AllReadyH.nil
  case hiz7 => (simp only [List.getElem?_toArray, List.getElem?_cons_zero, List.getElem?_cons_succ]; rfl)
  go_simp
  refine Hd.out.mono ?_
  rintro e w2 ⟨rfl, hd2, hO2⟩
  refine hK.out _ _ ⟨(hO2.blk hA hpa).cell (i := 0) rfl, (hO2.blk hB hpb).range, (hO2.blk ha hne).cell (i := 0) rfl⟩ (fun hHeld => ?_)
  clear hK K
  try simp only [Act.put, List.setIfInBounds_toArray, List.set_cons_zero, List.set_cons_succ]
  refine wpAnyH_take (i := 7) (oi := ?oiz8) (v := ?vz8) ?hiz8 ?haz8 ?hbz8 ?hcz8 ?hqz8 ?hyz8 (by assumption) ?restz8
  case hiz8 => (simp only [List.getElem?_toArray, List.getElem?_cons_zero, List.getElem?_cons_succ]; rfl)
  case haz8 => kernel_rfl
  case hbz8 => kernel_rfl
  case hcz8 => kernel_rfl
  case hyz8 => exact Or.inl ⟨by rfl, by (intro w hSw; (try dsimp only at hSw); go_split_ands; go_simp; (try with_reducible rfl))⟩
  case hqz8 => exact fun _ _ _ h => h
  try simp only [Act.put, List.setIfInBounds_toArray, List.set_cons_zero, List.set_cons_succ]
  refine wpAnyH_done (by kernel_rfl) ?_ _
  clear hHeld
  go_wp2_with fail
  go_ret
  exact ⟨_, rfl, rfl, pd_wide hd2 (Nat.le_refl _), hO2.undrew⟩

section
variable (F : Nat → Prop) (w : World) (a d : Nat) (S : DS) (f m : Int) (h : PD F w d S) (ha : PArea w a d f m) (hne : ¬ F a) (hs : Spot f m) (hm1 : 1 ≤ m)
include h ha hne hs hm1
theorem parea_many : Calls Tryd.prog 31 #[.pointer (some ⟨a, 0, none⟩)] w fun e w' => e = .returned (.int .i64 m) ∧ Only Nothing w w' := by
  have hc := Blk.cell (i := 2) ha rfl
  have hu := And.intro h (And.intro hne (And.intro hs hm1))
  clear hu h hs hm1
  go_enter Tryd.func31, Tryd.ntmps31
  go_wp2
  go_ret
  exact ⟨rfl, Only.refl _ _⟩
theorem parea_flush (r : Int × DS) (hr : r = S.flushOf) :
    Calls Tryd.prog 32 #[.pointer (some ⟨a, 0, none⟩)] w fun e w' => e = .returned (.int .i64 r.1) ∧ PD (More F w w') w' d r.2 ∧ Only F w w' := by
  have hc := Blk.cell (i := 0) ha rfl
  have H := Lib.hid (anone_is w a d f m ha)
  have Hd := Lib.hid (dflush_any F w d S h r hr)
  have hu := And.intro hne (And.intro hs hm1)
  clear hu h hs hm1 ha hr
  go_enter Tryd.func32, Tryd.ntmps32
  go_wp2_with fail
  refine H.out.mono ?_
  rintro e w' ⟨rfl, hw⟩
  obtain rfl := hw.symm
  go_wp2_with fail
  refine Hd.out.mono ?_
  rintro e w2 ⟨rfl, hd, hO⟩
  go_wp2_with fail
  go_ret
  exact ⟨rfl, hd, hO⟩
theorem parea_write (n : Int) (hn : -9223372036854775808 ≤ n ∧ n ≤ 9223372036854775807) (bs : List Int) (hb : Byte128 bs) (hmany : S.waits.length ≤ 1000000) (r : Int × DS) (hr : r = S.arWrite f m n bs) :
    Calls Tryd.prog 54 #[.pointer (some ⟨a, 0, none⟩), .int .i64 n, .agg (u8s bs).toArray] w fun e w' => e = .returned (.int .i64 r.1) ∧ PD (More F w w') w' d r.2 ∧ Only F w w' := by
  obtain ⟨w1, hw1⟩ : ∃ w1, w1 = (w.alloc (.cells #[.pointer (some ⟨a, 0, none⟩)] 38)).alloc (.cells (u8s bs).toArray 72) := ⟨_, rfl⟩
  have hb1 : Below w.heap.size w w1 := by rw [hw1]; exact (below_alloc _ _).trans ((below_alloc _ _).mono (by rw [nblk_alloc]; omega))
  have hA : Blk w1 w.heap.size 38 [.pointer (some ⟨a, 0, none⟩)] := by rw [hw1]; exact (Blk.new _ _ _).alloc _
  obtain ⟨pb, hpb⟩ : ∃ pb, pb = w.heap.size + 1 := ⟨_, rfl⟩
  have hB : Blk w1 pb 72 (u8s bs) := by
    have := Blk.new (w.alloc (.cells #[.pointer (some ⟨a, 0, none⟩)] 38)) 72 (u8s bs)
    rw [nblk_alloc, ← hpb] at this
    rw [hw1]; exact this
  have h1 := h.only (Only.of_below (F := Nothing) hb1) (fun _ _ hk => hk)
  have ha1 := ha.kept (hb1.block _ ha.lt)
  have hpaF : ¬ F w.heap.size := fun hk => by have := h.fin hk; omega
  have hpbF : ¬ F pb := fun hk => by have := h.fin hk; omega
  have hc := hA.cell (i := 0) rfl
  unfold Spot at hs
  have Hw1 := Lib.hid hw1
  have Hpb := Lib.hid hpb
  by_cases hin : 0 ≤ n ∧ n < m
  · have hwr : IntKind.i64.wrap (f + n) = f + n := by rw [IntKind.wrap_i64]; omega
    have hr2 : r = S.writeOf (f + n) bs := by rw [hr]; unfold DS.arWrite; rw [if_neg (by omega)]
    have Hre := Lib.hid (areach_in w1 a d f m ha1 n hin hwr 74 #[.pointer (some ⟨w.heap.size, 0, none⟩), .pointer (some ⟨pb, 0, none⟩)] (ent_of Tryd.func74 (by kernel_rfl) rfl) (fun er w' => er = r.1 ∧ PD (More F w1 w') w' d r.2 ∧ Only F w1 w')
      (awrite1_is F w1 a d w.heap.size pb S f m h1 ha1 hne hA bs hB hpaF hpbF hb hmany (f + n) r hr2))
    clear hw1 hpb h ha hr hr2 hwr hb hA hB h1 ha1
    go_enter Tryd.func54, Tryd.ntmps54
    go_upto_region 1 with fail
    rw [← Hw1.out, ← Hpb.out]
    go_wp2_with fail
    refine Hre.out.mono ?_
    rintro e w2 ⟨er, rfl, hp⟩
    have Hp := Lib.hid hp
    clear hp
    go_wp2_with fail
    go_ret
    exact ⟨ret_int Hp.out.1, pd_wide Hp.out.2.1 hb1.size, (Only.of_below hb1).trans Hp.out.2.2 (fun _ _ h => h)⟩
  · have hr2 : r = (51, S) := by rw [hr]; unfold DS.arWrite; rw [if_pos (by omega)]
    subst hr2
    have Hre := fun v => Lib.hid (areach_out w1 a d f m ha1 n v (by omega))
    clear hw1 hpb h ha hr hb hA hB ha1
    go_enter Tryd.func54, Tryd.ntmps54
    go_upto_region 1 with fail
    rw [← Hw1.out, ← Hpb.out]
    go_wp2_with fail
    refine (Hre _).out.mono ?_
    rintro e w2 ⟨rfl, hw⟩
    obtain rfl := hw.symm
    go_wp2_with fail
    go_ret
    exact ⟨rfl, more_pd h1, Only.of_below hb1⟩
theorem parea_wipe (n : Int) (hn : -9223372036854775808 ≤ n ∧ n ≤ 9223372036854775807) (hmany : S.waits.length ≤ 1000000) (r : Int × DS) (hr : r = S.arWrite f m n zeros128) :
    Calls Tryd.prog 62 #[.pointer (some ⟨a, 0, none⟩), .int .i64 n] w fun e w' => e = .returned (.int .i64 r.1) ∧ PD (More F w w') w' d r.2 ∧ Only F w w' := by
  have H := Lib.hid (parea_write F w a d S f m h ha hne hs hm1 n hn zeros128 zeros_byte hmany r hr)
  have Hz := Lib.hid zero_arr
  clear h ha hr
  go_enter Tryd.func62, Tryd.ntmps62
  go_wp2_with fail
  try rw [Hz.out]
  refine H.out.mono ?_
  rintro e w' ⟨rfl, hd, hO⟩
  go_wp2_with fail
  go_ret
  exact ⟨rfl, hd, hO⟩
set_option maxHeartbeats 1600000 in
theorem parea_put (n kind num : Int) (hn : -9223372036854775808 ≤ n ∧ n ≤ 9223372036854775807) (hk : -9223372036854775808 ≤ kind ∧ kind ≤ 9223372036854775807) (hnum : -9223372036854775808 ≤ num ∧ num ≤ 9223372036854775807) (ht : Tabs w) (A : Option Addr) (q cc : Nat) (load : List Int) (hx : Sl w A q (u8s load)) (hb : Bytes load) (hq : q ≤ 9223372036854775807) (hmany : S.waits.length ≤ 1000000) (r : Int × DS) (hr : r = S.arPut f m n kind num load) :
    Calls Tryd.prog 30 #[.pointer (some ⟨a, 0, none⟩), .int .i64 n, .int .i64 kind, .int .i64 num, .slice A q cc] w fun e w' => e = .returned (.int .i64 r.1) ∧ PD (More F w w') w' d r.2 ∧ Only F w w' := by
  have hlen : load.length = q := by simpa using hx.1
  obtain ⟨er, her⟩ : ∃ er, er = makeErr kind num q := ⟨_, rfl⟩
  obtain ⟨bs, hbs⟩ : ∃ bs, bs = makeOf kind num load := ⟨_, rfl⟩
  have hl : Byte128 bs := by rw [hbs]; exact ⟨makeOf_len _ _ _, makeOf_bytes hb⟩
  have H := Lib.hid (anone_is w a d f m ha)
  have Hm := Lib.hid (pmake_is kind num hk hnum A q cc load w ht hx hb hq bs er hbs her)
  have Hr := Lib.hid hr
  have Hbs := Lib.hid hbs; have Her := Lib.hid her; have Hl := Lib.hid hl; have Hlen := Lib.hid hlen
  clear hr hb hbs her hl hlen hx
  go_enter Tryd.func30, Tryd.ntmps30
  go_wp2_with fail
  refine H.out.mono ?_
  rintro e w' ⟨rfl, hw⟩
  obtain rfl := hw.symm
  go_wp2_with fail
  refine Hm.out.mono ?_
  rintro e w2 ⟨rfl, hb2⟩
  obtain ⟨w3, hw3, hb3, hR3, hth, hsA, hsL⟩ := arr_new w2 bs Hl.out.1
  have hb13 : Below w.heap.size w w3 := (hb2.trans (hb3.mono hb2.size))
  have h3 := h.only (Only.of_below (F := Nothing) hb13) (fun _ _ hk => hk)
  have ha3 := ha.kept (hb13.block _ ha.lt)
  have Hw3 := Lib.hid hw3; have Hth := Lib.hid hth
  have hone := one_u8s bs
  clear hw3 hth hb3 hb2 h ha Hm
  by_cases he : er = 0
  · have e := Hr.out
    unfold DS.arPut at e; rw [if_pos (by rw [Hlen.out, ← Her.out, he])] at e
    have ebs : bs = sealed kind num load := by rw [Hbs.out, makeOf, if_pos (by rw [Hlen.out, ← Her.out, he])]
    rw [← ebs] at e
    have Hwr := Lib.hid (parea_write F w3 a d S f m h3 ha3 hne hs hm1 n hn bs Hl.out hmany r e)
    have HR := Lib.hid hR3.range
    subst he
    clear e ebs hR3
    go_wp2_with (first
      | (refine wpList_store_mid rfl 72 (.tmp 11) (.tmp 20) rfl w2.heap.size 0 (u8s bs).toArray rfl rfl Hth.out hsA (all_oneCell_toArray hone) ?_; rw [show (u8s bs).toArray.toList = u8s bs from rfl, ← Hw3.out])
      | (refine wpList_load_mid rfl 72 (.tmp 11) rfl w2.heap.size 0 rfl (u8s bs) _ HR.out Tryd.underlying72 rfl hsL ?_))
    refine Hwr.out.mono ?_
    rintro e w4 ⟨rfl, hd, hO⟩
    go_wp2_with fail
    go_ret
    exact ⟨rfl, pd_wide hd hb13.size, (Only.of_below hb13).trans hO (fun _ _ hk => hk)⟩
  · have e := Hr.out
    unfold DS.arPut at e; rw [if_neg (by rw [Hlen.out, ← Her.out]; exact he), Hlen.out, ← Her.out] at e
    have He := Lib.hid e
    have hne : (er != 0) = true := by simpa using he
    clear e he hR3
    go_wp2_with (refine wpList_store_mid rfl 72 (.tmp 11) (.tmp 20) rfl w2.heap.size 0 (u8s bs).toArray rfl rfl Hth.out hsA (all_oneCell_toArray hone) ?_; rw [show (u8s bs).toArray.toList = u8s bs from rfl, ← Hw3.out])
    go_ret
    rw [He.out]
    exact ⟨rfl, more_pd h3, Only.of_below hb13⟩
end

set_option maxHeartbeats 3200000 in
theorem aread1_is (F : Nat → Prop) (w : World) (a d pa pb : Nat) (S : DS) (f m : Int) (h : PD F w d S) (ha : PArea w a d f m) (hne : ¬ F a) (hA : Blk w pa 38 [.pointer (some ⟨a, 0, none⟩)]) (hB : Blk w pb 72 (u8s zeros128)) (hpa : ¬ F pa) (hpb : ¬ F pb) (k : Int) (r : List Int × Int × DS) (hr : r = S.readOf k) :
    Calls Tryd.prog 80 #[.int .i64 k, .pointer (some ⟨pa, 0, none⟩), .pointer (some ⟨pb, 0, none⟩)] w fun e w' => ∃ er, e = .returned (.int .i64 er) ∧ er = r.2.1 ∧ Blk w' pb 72 (u8s r.1) ∧ PD (More F w w') w' d r.2.2 ∧ Only (fun j => F j ∨ j = pb) w w' := by
  have hrb : Byte128 r.1 := by rw [hr]; exact readOf_byte h.wf k
  have Hd := Lib.hid (dread_any F w d S h k r hr)
  have hc0 := hA.cell (i := 0) rfl
  have hc1 := Blk.cell (i := 0) ha rfl
  obtain ⟨rb, re, rS⟩ := r
  have hrl : rb.length = 128 := hrb.1
  have hsA : (Tryd.prog.info? 72).map (·.size) = some (u8s rb).toArray.size := by rw [size_arr, List.size_toArray, List.length_map, hrl]
  have Hrl := Lib.hid hrl
  clear hr hrb h hrl
  go_enter Tryd.func80, Tryd.ntmps80
  go_wp2_with fail
  refine Hd.out.mono ?_
  rintro e w2 ⟨rfl, hd2, hO2⟩
  have hB2 := hO2.blk hB hpb
  have Hth := Lib.hid (hB2.there (n := (u8s rb).toArray.size) (by rw [List.size_toArray, List.length_map, List.length_map, Hrl.out, zeros_len]; omega))
  have hone := one_u8s rb
  have hO3 : Only (fun j => j = pb) w2 (w2.setCells pb 0 (u8s rb)) := setCells_only (F := fun j => j = pb) w2 (rb := pb) rfl _ _
  have Hd3 := Lib.hid (show PD (More F w (w2.setCells pb 0 (u8s rb))) (w2.setCells pb 0 (u8s rb)) d rS by
    have hpbl := hB.lt
    have h2 := hd2.only hO3 (fun j hj e => by subst e; rcases hj with hj | hj; exact hpb hj; omega)
    exact h2.mono' (fun j hj => by rcases hj with hj | hj; exact Or.inl hj; exact Or.inr ⟨hj.1, Nat.lt_of_lt_of_le hj.2 hO3.size⟩) (fun j hj => by rcases hj with hj | hj; exact h2.fin (Or.inl hj); exact hj.2))
  have HO := Lib.hid (show Only (fun j => F j ∨ j = pb) w (w2.setCells pb 0 (u8s rb)) from (hO2.mono (fun _ _ h => Or.inl h)).trans hO3 (fun _ _ h => Or.inr h))
  have HB3 := Lib.hid (show Blk (w2.setCells pb 0 (u8s rb)) pb 72 (u8s rb) from setCells_whole hB2 (by rw [List.length_map, List.length_map, Hrl.out, zeros_len]))
  obtain ⟨w3, hw3⟩ : ∃ w3, w3 = w2.setCells pb 0 (u8s rb) := ⟨_, rfl⟩
  rw [← hw3] at Hd3 HO HB3
  have Hw3 := Lib.hid hw3
  clear hw3 hO3 hd2 hO2 hB2 hB
  go_wp2_with (refine wpList_store_mid rfl 72 (.tmp 2) (.tmp 12) rfl pb 0 (u8s rb).toArray rfl rfl Hth.out hsA (all_oneCell_toArray hone) ?_; rw [show (u8s rb).toArray.toList = u8s rb from rfl, ← Hw3.out])
  go_ret
  exact ⟨_, rfl, rfl, HB3.out, Hd3.out, HO.out⟩
theorem aread_new (w : World) (p : Value) : ∃ w1, w1 = (w.alloc (.cells #[p] 38)).alloc (.cells Tryd.zeroCells72 72) ∧ Below w.heap.size w w1 ∧ Blk w1 w.heap.size 38 [p] ∧ Blk w1 (w.heap.size + 1) 72 (u8s zeros128) := by
  refine ⟨_, rfl, (below_alloc _ _).trans ((below_alloc _ _).mono (by rw [nblk_alloc]; omega)), (Blk.new _ _ _).alloc _, ?_⟩
  have := zero_new (w.alloc (.cells #[p] 38))
  rw [nblk_alloc] at this
  exact this
theorem setCells_same {F : Nat → Prop} {w w2 : World} {b d : Nat} {t : TypeId} {cs : List Value} {S : DS} (h : Blk w2 b t cs) (hd : PD (More F w w2) w2 d S) (hO : Only F w w2) : PD (More F w (w2.setCells b 0 cs)) (w2.setCells b 0 cs) d S ∧ Only F w (w2.setCells b 0 cs) := by
  have hk : ∀ k, (w2.setCells b 0 cs).heap[k]? = w2.heap[k]? := fun k => by
    by_cases e : k = b
    · subst e
      exact (setCells_whole h rfl).trans h.symm
    · exact setCells_other b cs 0 w2 k e
  have hz := setCells_size b cs 0 w2
  obtain ⟨h1, h2, h3⟩ := setCells_misc b cs 0 w2
  have hm : More F w (w2.setCells b 0 cs) = More F w w2 := by unfold More; rw [hz]
  rw [hm]
  exact ⟨hd.keep (by rw [hz]; exact Nat.le_refl _) (fun k _ => hk k), ⟨h1.trans hO.os, h2.trans hO.tape, h3.trans hO.output, by rw [hz]; exact hO.size, fun k hk1 hn => (hk k).trans (hO.block k hk1 hn)⟩⟩
set_option maxHeartbeats 1600000 in
theorem aread_end (w w1 : World) (ap : Value) (n : Int) (pb : Nat) (rb : List Int) (re : Int) (hrl : rb.length = 128) (hpb : pb = w.heap.size + 1) (R : World → Prop) (hw1 : w1 = (w.alloc (.cells #[ap] 38)).alloc (.cells Tryd.zeroCells72 72)) (hA : Blk w1 w.heap.size 38 [ap]) (hap : ap = .pointer none ∨ ∃ a, ap = .pointer (some ⟨a, 0, none⟩))
    (hre : Calls Tryd.prog 73 #[ap, .int .i64 n, .func (.func 80) #[] #[.pointer (some ⟨w.heap.size, 0, none⟩), .pointer (some ⟨pb, 0, none⟩)]] w1 fun e w' => e = .returned (.int .i64 re) ∧ Blk w' pb 72 (u8s rb) ∧ R (w'.setCells pb 0 (u8s rb))) :
    Calls Tryd.prog 59 #[ap, .int .i64 n] w fun e w' => e = .returned (.tuple #[.agg (u8s rb).toArray, .int .i64 re]) ∧ R w' := by
  have hc0 := hA.cell (i := 0) rfl
  have Hw1 := Lib.hid hw1; have Hpb := Lib.hid hpb; have Hre := Lib.hid hre
  have hsA : (Tryd.prog.info? 72).map (·.size) = some (u8s rb).toArray.size := by rw [size_arr, List.size_toArray, List.length_map, hrl]
  have hsL : (Tryd.prog.info? 72).map (·.size) = some (u8s rb).length := by rw [size_arr, List.length_map, hrl]
  have Hrl := Lib.hid hrl
  have hone := one_u8s rb
  clear hw1 hpb hre hA hrl
  rcases hap with rfl | ⟨a, rfl⟩
  all_goals
    go_enter Tryd.func59, Tryd.ntmps59
    go_upto_region 1 with fail
    rw [← Hw1.out, ← Hpb.out]
    go_wp2_with fail
    refine Hre.out.mono ?_
    rintro e w2 ⟨rfl, hB2, hR⟩
    have HR := Lib.hid hR
    have Hrg := Lib.hid hB2.range
    have Hth := Lib.hid (hB2.there (n := (u8s rb).toArray.size) (by rw [List.size_toArray]; exact Nat.le_refl _))
    have HB3 := Lib.hid (show Blk (w2.setCells pb 0 (u8s rb)) pb 72 (u8s rb) from setCells_whole hB2 rfl)
    clear hR hB2
    go_wp2_with (first
      | (refine wpList_load_mid rfl 72 (.tmp 4) rfl pb 0 rfl (u8s rb) _ Hrg.out Tryd.underlying72 rfl hsL ?_)
      | (refine wpList_store_mid rfl 72 (.tmp 4) (.tmp 10) rfl pb 0 (u8s rb).toArray rfl rfl Hth.out hsA (all_oneCell_toArray hone) ?_))
    refine bodyPost_ret (v := .tuple #[.agg (u8s rb).toArray, .int .i64 re]) ?_ rfl ⟨rfl, HR.out⟩
    exact results_arr_int rfl _ _ pb 72 _ (0, 0) _ rfl HB3.out Tryd.underlying72 rfl hsA _ rfl
set_option maxHeartbeats 1600000 in
theorem parea_read (F : Nat → Prop) (w : World) (a d : Nat) (S : DS) (f m : Int) (h : PD F w d S) (ha : PArea w a d f m) (hne : ¬ F a) (hs : Spot f m) (hm1 : 1 ≤ m) (n : Int) (hn : -9223372036854775808 ≤ n ∧ n ≤ 9223372036854775807) (r : List Int × Int × DS) (hr : r = S.arRead f m n) :
    Calls Tryd.prog 59 #[.pointer (some ⟨a, 0, none⟩), .int .i64 n] w fun e w' => e = .returned (.tuple #[.agg (u8s r.1).toArray, .int .i64 r.2.1]) ∧ PD (More F w w') w' d r.2.2 ∧ Only F w w' := by
  obtain ⟨w1, hw1, hb1, hA, hB⟩ := aread_new w (.pointer (some ⟨a, 0, none⟩))
  have h1 := h.only (Only.of_below (F := Nothing) hb1) (fun _ _ hk => hk)
  have ha1 := ha.kept (hb1.block _ ha.lt)
  have hpaF : ¬ F w.heap.size := fun hk => by have := h.fin hk; omega
  have hpbF : ¬ F (w.heap.size + 1) := fun hk => by have := h.fin hk; omega
  have hrb : Byte128 r.1 := by rw [hr]; exact arRead_byte h.wf f m n
  unfold Spot at hs
  refine aread_end w w1 _ n _ r.1 r.2.1 hrb.1 rfl (fun w' => PD (More F w w') w' d r.2.2 ∧ Only F w w') hw1 hA (Or.inr ⟨a, rfl⟩) ?_
  by_cases hin : 0 ≤ n ∧ n < m
  · have hwr : IntKind.i64.wrap (f + n) = f + n := by rw [IntKind.wrap_i64]; omega
    have hr2 : r = S.readOf (f + n) := by rw [hr]; unfold DS.arRead; rw [if_neg (by omega)]
    refine (areach_in w1 a d f m ha1 n hin hwr 80 #[.pointer (some ⟨w.heap.size, 0, none⟩), .pointer (some ⟨w.heap.size + 1, 0, none⟩)] (ent_of Tryd.func80 (by kernel_rfl) rfl) (fun er w' => er = r.2.1 ∧ Blk w' (w.heap.size + 1) 72 (u8s r.1) ∧ PD (More F w1 w') w' d r.2.2 ∧ Only (fun j => F j ∨ j = w.heap.size + 1) w1 w')
      (aread1_is F w1 a d w.heap.size (w.heap.size + 1) S f m h1 ha1 hne hA hB hpaF hpbF (f + n) r hr2)).mono ?_
    rintro e w2 ⟨er, rfl, rfl, hB2, hd, hO⟩
    refine ⟨rfl, hB2, ?_⟩
    exact setCells_same hB2 (pd_wide hd hb1.size) ((Only.of_below hb1).trans (hO.mono (G := fun j => F j ∨ w.heap.size ≤ j) (fun j _ hj => by rcases hj with hj | hj; exact Or.inl hj; exact Or.inr (by omega))) (fun j hj hg => by rcases hg with hg | hg; exact hg; omega))
  · have hr2 : r = (zeros128, 51, S) := by rw [hr]; unfold DS.arRead; rw [if_pos (by omega)]
    subst hr2
    refine (areach_out w1 a d f m ha1 n _ (by omega)).mono ?_
    rintro e w2 ⟨rfl, hw⟩
    obtain rfl := hw.symm
    exact ⟨rfl, hB, setCells_same hB (more_pd h1) (Only.of_below hb1)⟩

set_option maxHeartbeats 1600000 in
theorem parea_take (F : Nat → Prop) (w : World) (a d : Nat) (S : DS) (f m : Int) (h : PD F w d S) (ha : PArea w a d f m) (hne : ¬ F a) (hs : Spot f m) (hm1 : 1 ≤ m) (n kind : Int) (hn : -9223372036854775808 ≤ n ∧ n ≤ 9223372036854775807) (hk : -9223372036854775808 ≤ kind ∧ kind ≤ 9223372036854775807) (ht : Tabs w) (hTF : NoTabs F) (r : Int × List Int × Int × DS) (hr : r = S.arTake f m n kind) :
    Calls Tryd.prog 52 #[.pointer (some ⟨a, 0, none⟩), .int .i64 n, .int .i64 kind] w fun e w' => (∃ B cc, e = .returned (.tuple #[.int .i64 r.1, .slice B r.2.1.length cc, .int .i64 r.2.2.1]) ∧ Sl w' B r.2.1.length (u8s r.2.1) ∧ (∀ ad, B = some ad → w.heap.size ≤ ad.block)) ∧ PD (More F w w') w' d r.2.2.2 ∧ Only F w w' := by
  obtain ⟨q, hq⟩ : ∃ q, q = S.arRead f m n := ⟨_, rfl⟩
  have hqb : Byte128 q.1 := by rw [hq]; exact arRead_byte h.wf f m n
  have Hrd := Lib.hid (parea_read F w a d S f m h ha hne hs hm1 n hn q hq)
  have Hq := Lib.hid hq
  have Hqb := Lib.hid hqb
  have Hr := Lib.hid hr
  have Ht := Lib.hid ht
  clear hr hq hqb h ha ht hs hm1 hn
  go_enter Tryd.func52, Tryd.ntmps52
  go_wp2_with fail
  refine Hrd.out.mono ?_
  rintro e w2 ⟨rfl, hd2, hO2⟩
  obtain ⟨w3, hw3, hb3, hR3, hth, hsA, hsL⟩ := arr_new w2 q.1 Hqb.out.1
  obtain ⟨qb, qe, qS⟩ := q
  have hO3 : Only F w w3 := hO2.trans (Only.of_below (F := F) hb3) (fun _ _ hk => hk)
  have hd3 : PD (More F w w3) w3 d qS := by
    have := hd2.only (Only.of_below (F := Nothing) hb3) (fun _ _ hk => hk)
    exact this.mono' (fun j hj => by rcases hj with hj | hj; exact Or.inl hj; exact Or.inr ⟨hj.1, Nat.lt_of_lt_of_le hj.2 hb3.size⟩) (fun j hj => by rcases hj with hj | hj; exact this.fin (Or.inl hj); exact hj.2)
  have Ht3 := Lib.hid (show Tabs w3 from Ht.out.only hO3 hTF)
  have Hw3 := Lib.hid hw3; have Hth := Lib.hid hth; have HR := Lib.hid hR3.range
  have hone := one_u8s qb
  have hsz2 := hO2.size
  have hsz3 := hO3.size
  clear hw3 hth hb3 hR3 hd2 hO2 Hrd
  simp only [] at hsA hsL hone Hw3 Hth HR Hqb ⊢
  by_cases he : qe = 0
  · subst he
    obtain ⟨o, ho⟩ : ∃ o, o = openOf qb kind := ⟨_, rfl⟩
    have e := Hr.out
    unfold DS.arTake at e; rw [← Hq.out, if_pos rfl, ← ho] at e
    have He := Lib.hid e
    have Hop := Lib.hid (popen_of qb Hqb.out.1 Hqb.out.2 w3 Ht3.out kind hk o ho)
    clear e ho
    go_wp2_with (first
      | (refine wpList_store_mid rfl 72 (.tmp 9) (.tmp 14) rfl w2.heap.size 0 (u8s qb).toArray rfl rfl Hth.out hsA (all_oneCell_toArray hone) ?_; rw [show (u8s qb).toArray.toList = u8s qb from rfl, ← Hw3.out])
      | (refine wpList_load_mid rfl 72 (.tmp 9) rfl w2.heap.size 0 rfl (u8s qb) _ HR.out Tryd.underlying72 rfl hsL ?_))
    refine Hop.out.mono ?_
    rintro e w4 ⟨B, cc, rfl, hsl, hfr, hb4⟩
    go_wp2_with fail
    go_ret3
    rw [He.out]
    have hd4 := hd3.only (Only.of_below (F := Nothing) hb4) (fun _ _ hk => hk)
    exact ⟨⟨B, cc, rfl, hsl, fun ad e => Nat.le_trans hsz3 (hfr ad e)⟩, hd4.mono' (fun j hj => by rcases hj with hj | hj; exact Or.inl hj; exact Or.inr ⟨hj.1, Nat.lt_of_lt_of_le hj.2 hb4.size⟩) (fun j hj => by rcases hj with hj | hj; exact hd4.fin (Or.inl hj); exact hj.2), hO3.trans (Only.of_below (F := F) hb4) (fun _ _ hk => hk)⟩
  · have e := Hr.out
    unfold DS.arTake at e; rw [← Hq.out, if_neg he] at e
    have He := Lib.hid e
    have hne : (qe != 0) = true := by simpa using he
    clear e he
    go_wp2_with (refine wpList_store_mid rfl 72 (.tmp 9) (.tmp 14) rfl w2.heap.size 0 (u8s qb).toArray rfl rfl Hth.out hsA (all_oneCell_toArray hone) ?_; rw [show (u8s qb).toArray.toList = u8s qb from rfl, ← Hw3.out])
    go_ret3
    rw [He.out]
    first | exact ⟨⟨none, 0, rfl, Sl.nil_ _ _, fun _ e => by cases e⟩, hd3, hO3⟩ | exact ⟨⟨none, ⟨0, rfl⟩, Sl.nil_ _ _, fun _ e => by cases e⟩, hd3, hO3⟩
theorem narea_take (w : World) (n k : Int) : Calls Tryd.prog 52 #[.pointer none, .int .i64 n, .int .i64 k] w fun e w' => e = .returned (.tuple #[.int .i64 0, .slice none 0 0, .int .i64 1]) ∧ Below w.heap.size w w' := by
  obtain ⟨w1, hw1, hb1, hA, hB⟩ := aread_new w (.pointer none)
  have Hrd := Lib.hid (aread_end w w1 (.pointer none) n _ zeros128 1 zeros_len rfl (fun w' => Below w.heap.size w w') hw1 hA (Or.inl rfl) ((areach_none w1 n _).mono (by
    rintro e w2 ⟨rfl, hw⟩
    obtain rfl := hw.symm
    exact ⟨rfl, hB, below_setCells hb1 (by omega) _ _⟩)))
  clear hw1 hb1 hA hB
  go_enter Tryd.func52, Tryd.ntmps52
  go_wp2_with fail
  refine Hrd.out.mono ?_
  rintro e w2 ⟨rfl, hb2⟩
  obtain ⟨w3, hw3, hb3, hR3, hth, hsA, hsL⟩ := arr_new w2 zeros128 zeros_len
  have Hw3 := Lib.hid hw3; have Hth := Lib.hid hth
  have hone := one_u8s zeros128
  have hb23 := hb2.trans (hb3.mono hb2.size)
  clear hw3 hth hb3 hb2 hR3
  go_wp2_with (refine wpList_store_mid rfl 72 (.tmp 9) (.tmp 14) rfl w2.heap.size 0 (u8s zeros128).toArray rfl rfl Hth.out hsA (all_oneCell_toArray hone) ?_; rw [show (u8s zeros128).toArray.toList = u8s zeros128 from rfl, ← Hw3.out])
  go_ret3
  exact ⟨rfl, hb23⟩
end Go.Proofs.YteliebinhdphlaaDoor

/- What stands beside what is written stays; plainly. -/
namespace Go.Proofs.YteliebinhdphlaaDoor
set_option maxRecDepth 100000
open Go.RowKit Go.Deep
set_option linter.unusedSimpArgs false
set_option linter.unusedVariables false

theorem at_same {S T : DS} (hw : S.waits = T.waits) (hk : S.kept = T.kept) (q : Nat) : S.at_ q = T.at_ q := by
  unfold DS.at_; rw [hw, hk]
theorem at_put (S : DS) (n : Nat) (bs : List Int) (q : Nat) : (S.put n bs).at_ q = if q = n then bs else S.at_ q := by
  unfold DS.at_ DS.put
  simp only [List.reverse_append, List.reverse_cons, List.reverse_nil, List.nil_append, List.cons_append, List.find?_cons]
  by_cases h : q = n
  · subst h
    simp
  · have : ((n : Int) == (q : Int)) = false := by simp; omega
    simp [this, h]
theorem foldl_at (q : Nat) : ∀ (ws : List (Int × List Int)) (K : List (List Int)), q < K.length → (∀ p ∈ ws, 0 ≤ p.1) →
    (ws.foldl (fun l p => l.set p.1.toNat p.2) K).getD q [] = match ws.reverse.find? (fun p => p.1 == (q : Int)) with | some p => p.2 | none => K.getD q []
  | [], K, _, _ => rfl
  | p :: ws, K, hq, hp => by
    rw [List.foldl_cons, foldl_at q ws (K.set p.1.toNat p.2) (by rw [List.length_set]; exact hq) (fun x hx => hp x (List.mem_cons_of_mem _ hx)), List.reverse_cons, List.find?_append]
    cases hf : ws.reverse.find? (fun p => p.1 == (q : Int)) with
    | some x => simp
    | none =>
      have h0 := hp p List.mem_cons_self
      by_cases h : p.1 = (q : Int)
      · have e : p.1.toNat = q := by omega
        simp [h, List.getD, hq]
      · have e : ¬ p.1.toNat = q := by omega
        have : (p.1 == (q : Int)) = false := by simpa using h
        simp [this, List.getD, List.getElem?_set_ne e]
theorem at_flushed {S : DS} (h : ∀ p ∈ S.waits, 0 ≤ p.1) {q : Nat} (hq : q < S.kept.length) : S.flushed.at_ q = S.at_ q := by
  have e1 : S.flushed.waits = [] := rfl
  have e2 : S.flushed.kept = S.waits.foldl (fun l p => l.set p.1.toNat p.2) S.kept := by
    show (S.waits.take S.waits.length).foldl _ S.kept = _
    rw [List.take_length]
  unfold DS.at_
  rw [e1, e2, foldl_at q S.waits S.kept hq h]
  rfl
theorem goes_at (S : DS) (k q : Nat) : (S.goes k).1.at_ q = S.at_ q := at_same (goes_len S k).2.2.1 (goes_len S k).1 q
theorem goes_on8 {S : DS} (hc : S.cut = -1) (k : Nat) : S.goes k = (S.count k, false) := by
  unfold DS.goes; rw [hc, if_pos (by omega)]
/-- A disk of which no sector can be missing: as many may come in use as there are. -/
theorem used_lt {S : DS} {n : Nat} (hn : n < S.kept.length) (hu : S.isUse (n : Int) = false) : S.used < S.kept.length := by
  unfold DS.used usedTo
  have h1 := List.countP_le_length (p := fun (i : Nat) => S.isUse (i : Int)) (l := List.range S.kept.length)
  rw [List.length_range] at h1
  rcases Nat.lt_or_ge ((List.range S.kept.length).countP fun (i : Nat) => S.isUse (i : Int)) S.kept.length with h | h
  · exact h
  · have h2 : (List.range S.kept.length).countP (fun (i : Nat) => S.isUse (i : Int)) = (List.range S.kept.length).length := by rw [List.length_range]; omega
    have := List.countP_eq_length.1 h2 n (List.mem_range.2 hn)
    rw [hu] at this
    exact absurd this (by decide)

/-- The power stays. -/
def Steady (S : DS) : Prop := S.off = false ∧ S.cut = -1
theorem Steady.write {S : DS} (h : Steady S) (n : Int) (bs : List Int) : Steady (S.writeOf n bs).2 := by
  unfold DS.writeOf
  rw [if_neg (by rw [h.1]; decide)]
  split
  · exact h
  · split
    · exact h
    · rw [goes_on8 (show (S.put n.toNat bs).cut = -1 from h.2)]
      exact ⟨h.1, h.2⟩
theorem Steady.flush {S : DS} (h : Steady S) : Steady S.flushOf.2 := by
  unfold DS.flushOf
  rw [if_neg (by rw [h.1]; decide), goes_on8 h.2]
  rw [if_neg (show ¬ (false = true) by decide)]
  exact ⟨h.1, h.2⟩
theorem write_at {S : DS} (n : Int) (bs : List Int) (q : Nat) (hq : (q : Int) ≠ n) : (S.writeOf n bs).2.at_ q = S.at_ q := by
  unfold DS.writeOf
  split
  · rfl
  · split
    · rfl
    · split
      · rfl
      · next h1 h2 h3 =>
        show ((S.put n.toNat bs).goes 1).1.at_ q = _
        rw [goes_at, at_put, if_neg (by omega)]
theorem write_in {S : DS} (h : Steady S) {n : Nat} (bs : List Int) (hn : n < S.kept.length) (hroom : (S.kept.length : Int) ≤ S.room) : (S.writeOf (n : Int) bs).1 = 0 ∧ (S.writeOf (n : Int) bs).2.at_ n = bs ∧ (S.writeOf (n : Int) bs).2.room = S.room := by
  have hnf : ¬ (S.isUse (n : Int) = false ∧ S.room ≤ (S.used : Int)) := fun hh => by have := used_lt hn hh.1; omega
  unfold DS.writeOf
  rw [if_neg (by rw [h.1]; decide), if_neg (by omega), if_neg hnf, goes_on8 (show (S.put (n : Int).toNat bs).cut = -1 from h.2)]
  refine ⟨rfl, ?_, rfl⟩
  show ((S.put (n : Int).toNat bs).count 1).at_ n = bs
  rw [at_same (S := (S.put (n : Int).toNat bs).count 1) (T := S.put (n : Int).toNat bs) rfl rfl n, at_put, if_pos (by omega)]
theorem write_room (S : DS) (n : Int) (bs : List Int) : (S.writeOf n bs).2.room = S.room := by
  unfold DS.writeOf
  split
  · rfl
  · split
    · rfl
    · split
      · rfl
      · show ((S.put n.toNat bs).goes 1).1.room = _
        rw [(goes_len (S.put n.toNat bs) 1).2.2.2]; rfl
theorem flush_zero {S : DS} (h : Steady S) : S.flushOf.1 = 0 := by
  unfold DS.flushOf
  rw [if_neg (by rw [h.1]; decide), goes_on8 h.2, if_neg (show ¬ (false = true) by decide)]
theorem flush_at {S : DS} (hw : DWf S) {q : Nat} (hq : q < S.kept.length) : S.flushOf.2.at_ q = S.at_ q := by
  unfold DS.flushOf
  split
  · rfl
  · split
    · exact goes_at S 2 q
    · show (S.goes 2).1.flushed.at_ q = _
      rw [at_flushed (by rw [(goes_len S 2).2.2.1]; exact fun p hp => (hw.wts p hp).1) (by rw [(goes_len S 2).1]; exact hq)]
      exact goes_at S 2 q
theorem Steady.arWrite {S : DS} (h : Steady S) (f m n : Int) (bs : List Int) : Steady (S.arWrite f m n bs).2 := by
  unfold DS.arWrite
  split
  · exact h
  · exact h.write _ _
theorem arWrite_at {S : DS} (f m n : Int) (bs : List Int) (q : Nat) (hq : ¬ (f ≤ (q : Int) ∧ (q : Int) - f < m)) : (S.arWrite f m n bs).2.at_ q = S.at_ q := by
  unfold DS.arWrite
  split
  · rfl
  · exact write_at _ _ _ (fun e => hq (by omega))
theorem Steady.arPut {S : DS} (h : Steady S) (f m n kind num : Int) (load : List Int) : Steady (S.arPut f m n kind num load).2 := by
  unfold DS.arPut
  split
  · exact h.arWrite f m n _
  · exact h
theorem arPut_at {S : DS} (f m n kind num : Int) (load : List Int) (q : Nat) (hq : ¬ (f ≤ (q : Int) ∧ (q : Int) - f < m)) : (S.arPut f m n kind num load).2.at_ q = S.at_ q := by
  unfold DS.arPut
  split
  · exact arWrite_at f m n _ q hq
  · rfl
theorem read_in {S : DS} (h : Steady S) {n : Nat} (hn : n < S.kept.length) : S.readOf (n : Int) = (S.at_ n, 0, S.count 0) := by
  unfold DS.readOf
  rw [if_neg (by rw [h.1]; decide), if_neg (by omega)]
  rfl
end Go.Proofs.YteliebinhdphlaaDoor

/- The document's disk, read and written: no row of bytes that there was has changed. Written by genu8.py. -/
namespace Go.Proofs.YteliebinhdphlaaDoor
set_option maxRecDepth 100000
open Go.RowKit Go.Deep
set_option linter.unusedSimpArgs false
set_option linter.unusedVariables false

/-- No row of bytes that there was has changed. -/
def U8 (w w' : World) : Prop := ∀ g vs, Blk w g 5 vs → w'.heap[g]? = w.heap[g]?
theorem Blk.not8 {w : World} {b : Nat} {t : TypeId} {xs : List Value} (h : Blk w b t xs) (ht : t ≠ 5) (vs : List Value) : ¬ Blk w b 5 vs := by
  intro h2
  unfold Blk at h h2
  rw [h] at h2
  injection h2 with h3
  injection h3 with _ h4
  exact ht h4
theorem BRow.stay {F : Nat → Prop} {w w' : World} {v : Value} {xs : List Int} (h : BRow F w v xs) (e : U8 w w') : BRow F w' v xs := h.kept (fun g _ hb => by obtain ⟨vs, hb⟩ := hb; exact e g vs hb)
def OnlyU (F : Nat → Prop) (w w' : World) : Prop := Only F w w' ∧ U8 w w'
namespace OnlyU
variable {F G : Nat → Prop} {w w' w'' : World}
theorem refl (F : Nat → Prop) (w : World) : OnlyU F w w := ⟨Only.refl F w, fun _ _ _ => rfl⟩
theorem size (h : OnlyU F w w') : w.heap.size ≤ w'.heap.size := h.1.size
theorem trans (h : OnlyU F w w') (k : OnlyU G w' w'') (hs : ∀ b, b < w.heap.size → G b → F b) : OnlyU F w w'' :=
  ⟨h.1.trans k.1 hs, fun g vs hb => (k.2 g vs (hb.kept (h.2 g vs hb))).trans (h.2 g vs hb)⟩
theorem of_below (h : Below w.heap.size w w') : OnlyU F w w' := ⟨Only.of_below h, fun g vs hb => h.block g hb.lt⟩
theorem drew (h : OnlyU F w w') : OnlyU F w w'.drew := ⟨h.1.drew, h.2⟩
theorem drewN (h : OnlyU F w w') (n : Nat) : OnlyU F w (w'.drewN n) := ⟨h.1.drewN n, h.2⟩
theorem set (h : OnlyU F w w') {a : Addr} (ha : w.heap.size ≤ a.block ∨ F a.block) (hn : ∀ vs, ¬ Blk w a.block 5 vs) (v : Value) : OnlyU F w (w'.setCell a v) :=
  ⟨h.1.set ha v, fun g vs hb => (blk_setCell_other _ _ _ _ (by rintro rfl; exact hn vs hb)).trans (h.2 g vs hb)⟩
end OnlyU

set_option maxHeartbeats 1600000 in
theorem rgoes_u (F : Nat → Prop) (w : World) (b : Nat) (S : DS) (k : Nat) (h : RD F w b S) (hk : k < 3) :
    Calls Tryd.prog 69 #[.pointer (some ⟨b, 0, none⟩), .int .i64 (k : Int)] w fun e w' => e = .returned (.bool (S.goes k).2) ∧ RD F w' b (S.goes k).1 ∧ OnlyU F w w' := by
  obtain ⟨hwf, kb, ib, ob, ck, ci, spk, spi, vw, kv, ps, h⟩ := h
  have hc6 := h.head.cell (i := 6) rfl
  obtain ⟨u, hu⟩ : ∃ u, S.ops[k]? = some u := ⟨_, List.getElem?_eq_getElem (by rw [hwf.ops3]; exact hk)⟩
  have hcu : w.cell? ⟨ob, k, none⟩ = some (.int .i64 u) := h.ops.cell (by rw [List.getElem?_map, hu]; rfl)
  have hfu := h.ops.frozen k
  have hkI : (k : Int) < 3 := by omega
  obtain ⟨z, hz⟩ : ∃ z, z = wrap64 (u + 1) := ⟨_, rfl⟩
  have hzw : IntKind.i64.wrap (u + 1) = z := by rw [hz, wrap_i64']
  have h1 := h.upOps k z
  have hcount : { S with ops := S.ops.set k z } = S.count k := by unfold DS.count; rw [hz]; simp [List.getD, hu]
  rw [hcount] at h1
  have h0 := h1.head.cell (i := 4) rfl
  have hf4 := h1.head.frozen 4
  have hf5 := h1.head.frozen 5
  obtain ⟨w1, hw1⟩ : ∃ w1, w1 = w.setCell ⟨ob, k, none⟩ (.int .i64 z) := ⟨_, rfl⟩
  have hO1 : OnlyU F w w1 := by rw [hw1]; exact (OnlyU.refl F w).set (Or.inr h.fo) (h.ops.not8 (by decide)) _
  rw [← hw1] at h1 h0 hf4 hf5
  have H1 := Lib.hid h1
  have Hw1 := Lib.hid hw1
  obtain ⟨ct, hct⟩ : ∃ c, c = S.cut := ⟨_, rfl⟩
  have hct0 : -1 ≤ ct ∧ ct ≤ 9223372036854775807 := by rw [hct]; exact ⟨hwf.cut0, hwf.cut1⟩
  have h0' : w1.cell? ⟨b, 4, none⟩ = some (.int .i64 ct) := by rw [hct]; exact h0
  have Hct := Lib.hid hct
  have Hwf := Lib.hid hwf
  clear hu hz hcount hw1 h0 hct hwf h1
  go_enter Tryd.func69, Tryd.ntmps69
  go_wp2
  go_region
  all_goals
    rw [← Hw1.out]
    have h1 := H1.out.keep (w' := w1.drew) (Nat.le_refl _) (fun _ _ => rfl)
    have hO := hO1.drew
    have hc : w1.drew.cell? ⟨b, 4, none⟩ = some (.int .i64 ct) := h0'
    have hf4' : w1.drew.frozen? ⟨b, 4, none⟩ = false := hf4
    have hf5' : w1.drew.frozen? ⟨b, 5, none⟩ = false := hf5
    have hc5 : w1.drew.cell? ⟨b, 5, none⟩ = some (.bool S.off) := h1.head.cell (i := 5) rfl
    generalize w1.drew = w2 at *
    by_cases hneg : ct < 0
    · have hres := Lib.hid (show S.goes k = (S.count k, false) by unfold DS.goes; rw [if_pos (by rw [← Hct.out]; exact hneg)])
      go_wp2
      go_ret
      exact ⟨ret_bool (by rw [hres.out]), by rw [hres.out]; exact ⟨Hwf.out.count k, _, _, _, _, _, _, _, _, _, _, h1⟩, hO⟩
    · have h2 := h1.upHead 4 (.int .i64 (ct - 1)) (ct - 1) (S.count k).off rfl
      have hO2 := hO.set (a := ⟨b, 4, none⟩) (Or.inr h.fb) (h.head.not8 (by decide)) (.int .i64 (ct - 1))
      obtain ⟨d, hd⟩ : ∃ d, d = decide (ct - 1 < 0) := ⟨_, rfl⟩
      have h3 := h2.upHead 5 (.bool d) (ct - 1) d rfl
      have hO3 := hO2.set (a := ⟨b, 5, none⟩) (Or.inr h.fb) (h.head.not8 (by decide)) (.bool d)
      have hres := Lib.hid (show S.goes k = ({ S.count k with cut := ct - 1, off := d }, d) by unfold DS.goes; rw [if_neg (by rw [← Hct.out]; exact hneg), ← Hct.out, hd])
      have hfin := Lib.hid (show RD F ((w2.setCell ⟨b, 4, none⟩ (.int .i64 (ct - 1))).setCell ⟨b, 5, none⟩ (.bool d)) b (S.goes k).1 by
        rw [hres.out]; exact ⟨(Hwf.out.count k).cutOff _ _ (by omega) (by omega), _, _, _, _, _, _, _, _, _, _, h3⟩)
      have hO3' := Lib.hid hO3
      have hcw : IntKind.i64.wrap (ct - 1) = ct - 1 := by rw [wrap_i64']; unfold wrap64; omega
      have hdd := hd.symm
      clear hd h2 h3 hO2 hO3 h1 hO
      go_wp2
      go_ret
      exact ⟨ret_bool (by rw [hres.out]), hfin.out, hO3'.out⟩

set_option maxHeartbeats 1600000 in
theorem rread_u (F : Nat → Prop) (w : World) (b : Nat) (S : DS) (n : Nat) (h : RD F w b S) (ho : S.off = false) (hn : n < S.kept.length) :
    Calls Tryd.prog 84 #[.pointer (some ⟨b, 0, none⟩), .int .i64 (n : Int)] w fun e w' => ∃ v, e = .returned (.tuple #[v, .int .i64 0]) ∧ BRow F w' v (S.at_ n) ∧ RD F w' b (S.count 0) ∧ OnlyU F w w' := by
  obtain ⟨hwf, kb, ib, ob, ck, ci, spk, spi, vw, kv, ps, h⟩ := h
  have hc5 := h.head.cell (i := 5) rfl
  have hc0 := h.head.cell (i := 0) rfl
  have hc6 := h.head.cell (i := 6) rfl
  rw [ho] at hc5
  have hn2 := hwf.n2
  obtain ⟨u, hu⟩ : ∃ u, S.ops[0]? = some u := ⟨_, List.getElem?_eq_getElem (by rw [hwf.ops3]; omega)⟩
  have hcu : w.cell? ⟨ob, 0, none⟩ = some (.int .i64 u) := h.ops.cell (by rw [List.getElem?_map, hu]; rfl)
  have hfu := h.ops.frozen 0
  obtain ⟨z, hz⟩ : ∃ z, z = wrap64 (u + 1) := ⟨_, rfl⟩
  have hzw : IntKind.i64.wrap (u + 1) = z := by rw [hz, wrap_i64']
  have h1 := h.upOps 0 z
  have hcount : { S with ops := S.ops.set 0 z } = S.count 0 := by unfold DS.count; rw [hz]; simp [List.getD, hu]
  rw [hcount] at h1
  have hO1 : OnlyU F w (w.setCell ⟨ob, 0, none⟩ (.int .i64 z)) := (OnlyU.refl F w).set (Or.inr h.fo) (h.ops.not8 (by decide)) _
  have hrd : RD F (w.setCell ⟨ob, 0, none⟩ (.int .i64 z)) b (S.count 0) := ⟨hwf.count 0, _, _, _, _, _, _, _, _, _, _, h1⟩
  obtain ⟨w1, hw1⟩ : ∃ w1, w1 = w.setCell ⟨ob, 0, none⟩ (.int .i64 z) := ⟨_, rfl⟩
  rw [← hw1] at hO1 hrd
  have Hw1 := Lib.hid hw1
  have HO := Lib.hid hO1
  have Hrd := Lib.hid hrd
  have hat : (S.count 0).at_ n = S.at_ n := rfl
  have hnk : n < (S.count 0).kept.length := hn
  obtain ⟨K, hK⟩ : ∃ K, K = S.kept.length := ⟨_, rfl⟩
  have hnI : (n : Int) < (K : Int) := by omega
  have hd : decide ((n : Int) < 0) = false := decide_eq_false (by omega)
  have hd2 : decide ((K : Int) ≤ (n : Int)) = false := decide_eq_false (by omega)
  rw [← hK] at hc0 hn2
  clear hK ho hz hcount h1 hu hw1 hO1 hrd
  go_enter Tryd.func84, Tryd.ntmps84
  go_wp2
  go_region
  all_goals
    rw [← Hw1.out]
    have hrd2 := Hrd.out.keep (w' := w1.drew) (Nat.le_refl _) (fun _ _ => rfl)
    have hO2 := Lib.hid (HO.out.drew)
    clear Hw1 Hrd
    generalize w1.drew = w2 at *
    go_wp2_with fail
    refine (rat_is F w2 b (S.count 0) n hrd2 hnk).mono ?_
    rintro e w3 ⟨v, rfl, hv, hw3⟩
    obtain rfl := hw3.symm
    go_wp2
    go_ret2
    exact ⟨v, rfl, hv, hrd2, hO2.out⟩

theorem put_u8 {F : Nat → Prop} {w0 w1 w3 : World} {o : Obj} {b : Nat} {S : DS} {kb ib ob ck ci : Nat} {spk spi : List Value} {vw : Value} {kv : List Value} {ps : List (Int × Value)} (h : RDAt F w0 b S kb ib ob ck ci spk spi vw kv ps)
    (hb : Below w0.heap.size w0 w1) (hg : (w1.alloc o).grownBy w3 vw.ownBlock) : U8 w0 w3 := by
  intro g vs hbk
  have hk := hbk.lt
  have hk1 : g < w1.heap.size := Nat.lt_of_lt_of_le hk hb.size
  have hne : some g ≠ vw.ownBlock := by
    rcases h.wait with ⟨e, _⟩ | ⟨g', _, _, e, _, _, _, hbk', _⟩
    · rw [e]; intro e2; cases e2
    · rw [e]; intro e2
      have e3 : g = g' := Option.some.inj e2
      subst e3
      exact hbk'.not8 (by decide) vs hbk
  rw [hg.block g (by rw [nblk_alloc]; omega) hne, blk_alloc_lt _ _ _ hk1]
  exact hb.block g hk

set_option maxRecDepth 100000 in
set_option maxHeartbeats 6400000 in
theorem rwrite_u (F : Nat → Prop) (w : World) (b : Nat) (S : DS) (n : Nat) (A : Option Addr) (c : Nat) (bs : List Int) (h : RD F w b S) (ho : S.off = false) (hn : n < S.kept.length) (hu : S.isUse n = true ∨ (S.used : Int) < S.room)
    (hmany : S.waits.length ≤ 1000000) (hx : Sl w A 128 (u8s bs)) (hbs : Byte128 bs) :
    Calls Tryd.prog 87 #[.pointer (some ⟨b, 0, none⟩), .int .i64 (n : Int), .slice A 128 c] w fun e w' => e = .returned (.int .i64 (goneErr ((S.put n bs).goes 1).2)) ∧ RD (More F w w') w' b ((S.put n bs).goes 1).1 ∧ OnlyU F w w' := by
  have hrd := h
  obtain ⟨hwf, kb, ib, ob, ck, ci, spk, spi, vw, kv, ps, h⟩ := h
  have hc5 := h.head.cell (i := 5) rfl
  have hc0 := h.head.cell (i := 0) rfl
  have hc2 := h.head.cell (i := 2) rfl
  have hc3 := h.head.cell (i := 3) rfl
  have hf2 := h.head.frozen 2
  have hblt := h.head.lt
  rw [ho] at hc5
  have hn2 := hwf.n2
  obtain ⟨K, hK⟩ : ∃ K, K = S.kept.length := ⟨_, rfl⟩
  rw [← hK] at hc0 hn2
  have hnI : (n : Int) < (K : Int) := by omega
  have hd : decide ((n : Int) < 0) = false := decide_eq_false (by omega)
  have hd2 : decide ((K : Int) ≤ (n : Int)) = false := decide_eq_false (by omega)
  obtain ⟨us, hus⟩ : ∃ u : Nat, u = S.used := ⟨_, rfl⟩
  obtain ⟨rm, hrm⟩ : ∃ r, r = S.room := ⟨_, rfl⟩
  rw [← hrm] at hc3
  rw [← hus, ← hrm] at hu
  have Hus := Lib.hid (fun k => show Calls Tryd.prog 97 #[.pointer (some ⟨b, 0, none⟩)] (w.drewN k) fun e w' => e = .returned (.int .i64 (us : Int)) ∧ w' = w.drewN k by
    have := rused_is F (w.drewN k) b S (hrd.keep (Nat.le_refl _) (fun _ _ => rfl))
    rw [← hus] at this; exact this)
  obtain ⟨ad, hA⟩ : ∃ ad, A = some ad := by
    obtain ⟨ad, _, e, _⟩ := hx.num (k := 0) (by omega)
    exact ⟨ad, e⟩
  subst hA
  have Hnews := Lib.hid (fun j u (hj : (u8s bs)[j]? = some u) => show w.cell? (ad.add j) = some u by
    obtain ⟨ad', e, hc⟩ := hx.2 j u hj
    cases e; exact hc)
  have Hone := Lib.hid (show ∀ u ∈ u8s bs, u.oneCell' = true by
    intro u hu
    obtain ⟨x, _, rfl⟩ := List.mem_map.1 hu
    rfl)
  have Hlen := Lib.hid (show (u8s bs).length = 128 * 1 by simp [hbs.1])
  obtain ⟨i8, hi8, hz8, hs8, hb8⟩ := info_parts' info_u8
  obtain ⟨ip, hip, hzp, hsp, hbp⟩ := info_parts' info_piece
  have Hwait := Lib.hid h.wait
  have Hh := Lib.hid h
  have Hps := Lib.hid h.psn
  have hpsl : ps.length ≤ 1000000 := by rw [h.psn]; exact hmany
  have Hwf := Lib.hid hwf
  have Hbs := Lib.hid hbs
  have Hn := Lib.hid (show n < S.kept.length from hn)
  cases hiu : S.isUse (n : Int)
  · have hlt : (us : Int) < rm := by rcases hu with h1 | h1; rw [h1] at hiu; cases hiu; exact h1
    have hd3 : decide (rm ≤ (us : Int)) = false := decide_eq_false (by omega)
    have His := Lib.hid (fun k => show Calls Tryd.prog 96 #[.pointer (some ⟨b, 0, none⟩), .int .i64 (n : Int)] (w.drewN k) fun e w' => e = .returned (.bool false) ∧ w' = w.drewN k by
      have := ris_is F (w.drewN k) b S n (hrd.keep (Nat.le_refl _) (fun _ _ => rfl)) hn
      rw [hiu] at this; exact this)
    clear hK ho hu hus hrm hiu hlt h hwf hbs hx hmany hn
    go_enter Tryd.func87, Tryd.ntmps87
    go_wp2
    go_quiet (first | (go_at_call 96; exact Calls.quiet_of_same (His.out _)) | (go_at_call 97; exact Calls.quiet_of_same (Hus.out _)))
    clear His Hus
    go_wp2
    obtain ⟨w0, hw0⟩ : ∃ w0, w0 = w.drewN nq := ⟨_, rfl⟩
    have h0 := Hh.out.keep (w' := w0) (by rw [hw0]; exact Nat.le_refl _) (fun k _ => by rw [hw0]; rfl)
    have HO0 := Lib.hid (show OnlyU F w w0 by rw [hw0]; exact (OnlyU.refl F w).drewN nq)
    have hsz0 : w0.heap.size = w.heap.size := by rw [hw0]; rfl
    have Hsz0 := Lib.hid hsz0
    have Hheap := Lib.hid (show w0.heap = w.heap by rw [hw0]; rfl)
    have hblt0 : b < w0.heap.size := by rw [hsz0]; exact hblt
    have hcW0 : w0.drew.cell? ⟨b, 2, none⟩ = some vw := h0.head.cell (i := 2) rfl
    have hfW0 : w0.drew.frozen? ⟨b, 2, none⟩ = false := h0.head.frozen 2
    have hW1 := (h0.head.alloc (.cells #[] 5)).drew
    have hcW1 : ((w0.alloc (.cells #[] 5)).drew).cell? ⟨b, 2, none⟩ = some vw := hW1.cell (i := 2) rfl
    have hown0 : ((w0.alloc (.cells #[] 5)).drew).ownsRow 0 5 1 (.slice (some ⟨w0.heap.size, 0, none⟩) 0 0) 0 [] := (World.ownsRow_made (base := 0) (e := 5) (size := 1) w0 #[] 0 (Nat.zero_le _) (by decide) rfl).drew
    have hnews0 : ∀ (j : Nat) (u : Value), (u8s bs)[j]? = some u → ((w0.alloc (.cells #[] 5)).drew).cell? (ad.add j) = some u := by
      intro j u hj
      have hc := Hnews.out j u hj
      show (w0.alloc (.cells #[] 5)).cell? (ad.add j) = some u
      rw [World.cell?_alloc_lt _ _ _ (by rw [hsz0]; exact World.block_lt_of_cell? w _ hc)]
      rw [hw0]; exact hc
    have H0 := Lib.hid h0
    have Hown0 := Lib.hid hown0
    have Hnews0 := Lib.hid hnews0
    rw [← hw0]
    clear hw0 h0 hW1 hown0 hnews0 hsz0 hc0 hc2 hc3 hc5 hf2
    go_region_law (first
      | (refine step_append_lies _ rfl (.tmp 41) (.tmp 42) 22 rfl 0 5 i8 (.int .u8 0) 1 1 Tryd.underlying22 hi8 hz8 hs8 hb8 rfl (by decide) (.slice (some ⟨w0.heap.size, 0, none⟩) 0 0) 0 [] (by simp [Act.eval, Act.put]) Hown0.out ad 128 c (u8s bs) (by simp [Act.eval, Act.put]) Hlen.out Hnews0.out Hone.out (by omega) (by decide) (by omega) (Nat.zero_le _) _ rfl ?_
         intro g1 cap1 w1 hown1 hg1 hat1 hlt1
         have hown1 : w1.ownsRow 0 5 1 (.slice (some ⟨g1, 0, none⟩) 128 cap1) 128 (u8s bs) := hown1
         have hb1 := put_below hg1
         have hg1' : w0.heap.size ≤ g1 := by
           rcases hat1 with e | e
           · exact Nat.le_of_eq (Option.some.inj e)
           · rw [e]; show w0.heap.size ≤ (w0.alloc _).heap.size; rw [nblk_alloc]; exact Nat.le_succ _
         have h01 := H0.out.head.kept (hb1.block b hblt0)
         have hcw1 : w1.cell? ⟨b, 2, none⟩ = some vw := h01.cell (i := 2) rfl
         have hcW2 : (w1.alloc (.cells #[.int .i64 (n : Int), .slice (some ⟨g1, 0, none⟩) 128 cap1] 135)).cell? ⟨b, 2, none⟩ = some vw := (h01.alloc _).cell (i := 2) rfl
         have hwt := (Hwait.out.kept (w' := w1.alloc (.cells #[.int .i64 (n : Int), .slice (some ⟨g1, 0, none⟩) 128 cap1] 135)) (fun g hg _ => by
           have hgl : g < w0.heap.size := H0.out.fin g hg
           rw [blk_alloc_lt _ _ _ (Nat.lt_of_lt_of_le hgl hb1.size), hb1.block g hgl]
           exact (by rw [show w0.heap = w.heap from Hheap.out]))).own
         have Hwt := Lib.hid hwt
         have Hown1 := Lib.hid hown1
         have Hb1 := Lib.hid hb1
         clear hwt hown1 hb1 h01 hat1 hg1)
      | (refine step_append_lies _ rfl (.tmp 39) (.tmp 45) 82 rfl 0 135 ip (.agg #[.int .i64 0, .slice none 0 0]) 2 32 Tryd.underlying82 hip hzp hsp hbp rfl (by decide) vw ps.length (flat2 ps) (by simp [Act.eval, Act.put]) Hwt.out ⟨w1.heap.size, 0, none⟩ 1 1 [.int .i64 (n : Int), .slice (some ⟨g1, 0, none⟩) 128 cap1] (by simp [Act.eval, Act.put]) rfl (World.news_of_block (cs := #[.int .i64 (n : Int), .slice (some ⟨g1, 0, none⟩) 128 cap1]) (heap_alloc_new w1 _)) (by intro u hu; simp at hu; rcases hu with rfl | rfl <;> rfl) (by omega) (by simp only [maxLen]; omega) (by omega) (Nat.zero_le _) _ rfl ?_
         intro g2 cap2 w3 hown2 hg2 hat2 hlt2
         obtain ⟨hO3, hend⟩ := put_end H0.out (n := n) Hbs.out.1 Hb1.out hg1' Hown1.out hg2 hown2 (fun k hk => by
           cases hk
           rcases hat2 with e | e
           · exact Or.inl e
           · right; subst e; show w0.heap.size ≤ (w1.alloc _).heap.size; rw [nblk_alloc]; exact Nat.le_succ_of_le Hb1.out.size)
         have hO3 : OnlyU F w0 w3 := ⟨hO3, put_u8 H0.out Hb1.out hg2⟩
         have hbne : some b ≠ vw.ownBlock := by
           rcases Hwait.out with ⟨e, _⟩ | ⟨g, _, _, e, _, _, _, hbk, _⟩
           · rw [e]; intro e2; cases e2
           · rw [e]; intro e2
             have e3 : b = g := Option.some.inj e2
             subst e3
             exact (Hh.out.head.ne hbk (by decide)) rfl
         have h03 := H0.out.head.kept ((hg2.block b (by rw [nblk_alloc]; exact Nat.lt_succ_of_lt (Nat.lt_of_lt_of_le hblt0 Hb1.out.size)) hbne).trans ((blk_alloc_lt _ _ _ (Nat.lt_of_lt_of_le hblt0 Hb1.out.size)).trans (Hb1.out.block b hblt0)))
         have hcw3 : w3.cell? ⟨b, 2, none⟩ = some vw := h03.cell (i := 2) rfl
         have hfw3 : w3.frozen? ⟨b, 2, none⟩ = false := h03.frozen 2
         have HO3 := Lib.hid hO3
         have Hend := Lib.hid hend
         clear hO3 hend h03 hg2 hat2 hown2))
    all_goals
      obtain ⟨w4, hw4⟩ : ∃ w4, w4 = w3.setCell ⟨b, 2, none⟩ (.slice (some ⟨g2, 0, none⟩) (ps.length + 1) cap2) := ⟨_, rfl⟩
      have hrd4 : RD (More F w0 w3) w4 b (S.put n bs) := by rw [hw4]; exact RD.of (Hwf.out.put Hn.out Hbs.out) Hend.out
      have hO4 : OnlyU F w0 w4 := by rw [hw4]; exact HO3.out.set (Or.inr H0.out.fb) (H0.out.head.not8 (by decide)) _
      have hs34 : w4.heap.size = w3.heap.size := by rw [hw4, nblk_setCell]
      rw [← hw4]
      clear hw4 HO3 Hend hcw3 hfw3 hbne hlt2 Hwt hcW2 hcw1
      go_wp2_with fail
      refine (rgoes_u (More F w0 w3) w4 b (S.put n bs) 1 hrd4 (by omega)).mono ?_
      rintro e w5 ⟨rfl, hrd5, hO5⟩
      have hs5 := hO5.size
      have hfin : RD (More F w w5) w5 b ((S.put n bs).goes 1).1 := by
        obtain ⟨h1, h2⟩ := hrd5
        exact RD.mono ⟨h1, h2⟩ (fun k hk hf => by
          rcases hf with hf | hf
          · exact Or.inl hf
          · right; have := Hsz0.out; omega) (fun k hk => by
          rcases hk with hk | hk
          · exact Nat.lt_of_lt_of_le (H0.out.fin k hk) (Nat.le_trans hO4.size hs5)
          · exact hk.2)
      have hOfin : OnlyU F w w5 := (HO0.out.trans hO4 (fun _ _ h => h)).trans hO5 (fun k hk hf => by
        rcases hf with hf | hf
        · exact hf
        · have := Hsz0.out; omega)
      cases hgone : ((S.put n bs).goes 1).2
      · have hr := Lib.hid (show (0 : Int) = goneErr ((S.put n bs).goes 1).2 by rw [hgone]; rfl)
        clear hgone
        go_wp2
        go_ret
        exact ⟨ret_int hr.out, hfin, hOfin⟩
      · have hr := Lib.hid (show (50 : Int) = goneErr ((S.put n bs).goes 1).2 by rw [hgone]; rfl)
        clear hgone
        go_wp2
        go_ret
        exact ⟨ret_int hr.out, hfin, hOfin⟩
  · have His := Lib.hid (fun k => show Calls Tryd.prog 96 #[.pointer (some ⟨b, 0, none⟩), .int .i64 (n : Int)] (w.drewN k) fun e w' => e = .returned (.bool true) ∧ w' = w.drewN k by
      have := ris_is F (w.drewN k) b S n (hrd.keep (Nat.le_refl _) (fun _ _ => rfl)) hn
      rw [hiu] at this; exact this)
    clear hK ho hu hus hrm hiu h hwf hbs hx hmany hn
    go_enter Tryd.func87, Tryd.ntmps87
    go_wp2
    go_quiet (first | (go_at_call 96; exact Calls.quiet_of_same (His.out _)) | (go_at_call 97; exact Calls.quiet_of_same (Hus.out _)))
    clear His Hus
    go_wp2
    obtain ⟨w0, hw0⟩ : ∃ w0, w0 = w.drewN nq := ⟨_, rfl⟩
    have h0 := Hh.out.keep (w' := w0) (by rw [hw0]; exact Nat.le_refl _) (fun k _ => by rw [hw0]; rfl)
    have HO0 := Lib.hid (show OnlyU F w w0 by rw [hw0]; exact (OnlyU.refl F w).drewN nq)
    have hsz0 : w0.heap.size = w.heap.size := by rw [hw0]; rfl
    have Hsz0 := Lib.hid hsz0
    have Hheap := Lib.hid (show w0.heap = w.heap by rw [hw0]; rfl)
    have hblt0 : b < w0.heap.size := by rw [hsz0]; exact hblt
    have hcW0 : w0.drew.cell? ⟨b, 2, none⟩ = some vw := h0.head.cell (i := 2) rfl
    have hfW0 : w0.drew.frozen? ⟨b, 2, none⟩ = false := h0.head.frozen 2
    have hW1 := (h0.head.alloc (.cells #[] 5)).drew
    have hcW1 : ((w0.alloc (.cells #[] 5)).drew).cell? ⟨b, 2, none⟩ = some vw := hW1.cell (i := 2) rfl
    have hown0 : ((w0.alloc (.cells #[] 5)).drew).ownsRow 0 5 1 (.slice (some ⟨w0.heap.size, 0, none⟩) 0 0) 0 [] := (World.ownsRow_made (base := 0) (e := 5) (size := 1) w0 #[] 0 (Nat.zero_le _) (by decide) rfl).drew
    have hnews0 : ∀ (j : Nat) (u : Value), (u8s bs)[j]? = some u → ((w0.alloc (.cells #[] 5)).drew).cell? (ad.add j) = some u := by
      intro j u hj
      have hc := Hnews.out j u hj
      show (w0.alloc (.cells #[] 5)).cell? (ad.add j) = some u
      rw [World.cell?_alloc_lt _ _ _ (by rw [hsz0]; exact World.block_lt_of_cell? w _ hc)]
      rw [hw0]; exact hc
    have H0 := Lib.hid h0
    have Hown0 := Lib.hid hown0
    have Hnews0 := Lib.hid hnews0
    rw [← hw0]
    clear hw0 h0 hW1 hown0 hnews0 hsz0 hc0 hc2 hc3 hc5 hf2
    go_region_law (first
      | (refine step_append_lies _ rfl (.tmp 41) (.tmp 42) 22 rfl 0 5 i8 (.int .u8 0) 1 1 Tryd.underlying22 hi8 hz8 hs8 hb8 rfl (by decide) (.slice (some ⟨w0.heap.size, 0, none⟩) 0 0) 0 [] (by simp [Act.eval, Act.put]) Hown0.out ad 128 c (u8s bs) (by simp [Act.eval, Act.put]) Hlen.out Hnews0.out Hone.out (by omega) (by decide) (by omega) (Nat.zero_le _) _ rfl ?_
         intro g1 cap1 w1 hown1 hg1 hat1 hlt1
         have hown1 : w1.ownsRow 0 5 1 (.slice (some ⟨g1, 0, none⟩) 128 cap1) 128 (u8s bs) := hown1
         have hb1 := put_below hg1
         have hg1' : w0.heap.size ≤ g1 := by
           rcases hat1 with e | e
           · exact Nat.le_of_eq (Option.some.inj e)
           · rw [e]; show w0.heap.size ≤ (w0.alloc _).heap.size; rw [nblk_alloc]; exact Nat.le_succ _
         have h01 := H0.out.head.kept (hb1.block b hblt0)
         have hcw1 : w1.cell? ⟨b, 2, none⟩ = some vw := h01.cell (i := 2) rfl
         have hcW2 : (w1.alloc (.cells #[.int .i64 (n : Int), .slice (some ⟨g1, 0, none⟩) 128 cap1] 135)).cell? ⟨b, 2, none⟩ = some vw := (h01.alloc _).cell (i := 2) rfl
         have hwt := (Hwait.out.kept (w' := w1.alloc (.cells #[.int .i64 (n : Int), .slice (some ⟨g1, 0, none⟩) 128 cap1] 135)) (fun g hg _ => by
           have hgl : g < w0.heap.size := H0.out.fin g hg
           rw [blk_alloc_lt _ _ _ (Nat.lt_of_lt_of_le hgl hb1.size), hb1.block g hgl]
           exact (by rw [show w0.heap = w.heap from Hheap.out]))).own
         have Hwt := Lib.hid hwt
         have Hown1 := Lib.hid hown1
         have Hb1 := Lib.hid hb1
         clear hwt hown1 hb1 h01 hat1 hg1)
      | (refine step_append_lies _ rfl (.tmp 39) (.tmp 45) 82 rfl 0 135 ip (.agg #[.int .i64 0, .slice none 0 0]) 2 32 Tryd.underlying82 hip hzp hsp hbp rfl (by decide) vw ps.length (flat2 ps) (by simp [Act.eval, Act.put]) Hwt.out ⟨w1.heap.size, 0, none⟩ 1 1 [.int .i64 (n : Int), .slice (some ⟨g1, 0, none⟩) 128 cap1] (by simp [Act.eval, Act.put]) rfl (World.news_of_block (cs := #[.int .i64 (n : Int), .slice (some ⟨g1, 0, none⟩) 128 cap1]) (heap_alloc_new w1 _)) (by intro u hu; simp at hu; rcases hu with rfl | rfl <;> rfl) (by omega) (by simp only [maxLen]; omega) (by omega) (Nat.zero_le _) _ rfl ?_
         intro g2 cap2 w3 hown2 hg2 hat2 hlt2
         obtain ⟨hO3, hend⟩ := put_end H0.out (n := n) Hbs.out.1 Hb1.out hg1' Hown1.out hg2 hown2 (fun k hk => by
           cases hk
           rcases hat2 with e | e
           · exact Or.inl e
           · right; subst e; show w0.heap.size ≤ (w1.alloc _).heap.size; rw [nblk_alloc]; exact Nat.le_succ_of_le Hb1.out.size)
         have hO3 : OnlyU F w0 w3 := ⟨hO3, put_u8 H0.out Hb1.out hg2⟩
         have hbne : some b ≠ vw.ownBlock := by
           rcases Hwait.out with ⟨e, _⟩ | ⟨g, _, _, e, _, _, _, hbk, _⟩
           · rw [e]; intro e2; cases e2
           · rw [e]; intro e2
             have e3 : b = g := Option.some.inj e2
             subst e3
             exact (Hh.out.head.ne hbk (by decide)) rfl
         have h03 := H0.out.head.kept ((hg2.block b (by rw [nblk_alloc]; exact Nat.lt_succ_of_lt (Nat.lt_of_lt_of_le hblt0 Hb1.out.size)) hbne).trans ((blk_alloc_lt _ _ _ (Nat.lt_of_lt_of_le hblt0 Hb1.out.size)).trans (Hb1.out.block b hblt0)))
         have hcw3 : w3.cell? ⟨b, 2, none⟩ = some vw := h03.cell (i := 2) rfl
         have hfw3 : w3.frozen? ⟨b, 2, none⟩ = false := h03.frozen 2
         have HO3 := Lib.hid hO3
         have Hend := Lib.hid hend
         clear hO3 hend h03 hg2 hat2 hown2))
    all_goals
      obtain ⟨w4, hw4⟩ : ∃ w4, w4 = w3.setCell ⟨b, 2, none⟩ (.slice (some ⟨g2, 0, none⟩) (ps.length + 1) cap2) := ⟨_, rfl⟩
      have hrd4 : RD (More F w0 w3) w4 b (S.put n bs) := by rw [hw4]; exact RD.of (Hwf.out.put Hn.out Hbs.out) Hend.out
      have hO4 : OnlyU F w0 w4 := by rw [hw4]; exact HO3.out.set (Or.inr H0.out.fb) (H0.out.head.not8 (by decide)) _
      have hs34 : w4.heap.size = w3.heap.size := by rw [hw4, nblk_setCell]
      rw [← hw4]
      clear hw4 HO3 Hend hcw3 hfw3 hbne hlt2 Hwt hcW2 hcw1
      go_wp2_with fail
      refine (rgoes_u (More F w0 w3) w4 b (S.put n bs) 1 hrd4 (by omega)).mono ?_
      rintro e w5 ⟨rfl, hrd5, hO5⟩
      have hs5 := hO5.size
      have hfin : RD (More F w w5) w5 b ((S.put n bs).goes 1).1 := by
        obtain ⟨h1, h2⟩ := hrd5
        exact RD.mono ⟨h1, h2⟩ (fun k hk hf => by
          rcases hf with hf | hf
          · exact Or.inl hf
          · right; have := Hsz0.out; omega) (fun k hk => by
          rcases hk with hk | hk
          · exact Nat.lt_of_lt_of_le (H0.out.fin k hk) (Nat.le_trans hO4.size hs5)
          · exact hk.2)
      have hOfin : OnlyU F w w5 := (HO0.out.trans hO4 (fun _ _ h => h)).trans hO5 (fun k hk hf => by
        rcases hf with hf | hf
        · exact hf
        · have := Hsz0.out; omega)
      cases hgone : ((S.put n bs).goes 1).2
      · have hr := Lib.hid (show (0 : Int) = goneErr ((S.put n bs).goes 1).2 by rw [hgone]; rfl)
        clear hgone
        go_wp2
        go_ret
        exact ⟨ret_int hr.out, hfin, hOfin⟩
      · have hr := Lib.hid (show (50 : Int) = goneErr ((S.put n bs).goes 1).2 by rw [hgone]; rfl)
        clear hgone
        go_wp2
        go_ret
        exact ⟨ret_int hr.out, hfin, hOfin⟩

theorem rwrite_anyU (G : Nat → Prop) (w : World) (c : Nat) (S : DS) (h : RD G w c S) (n : Int) (A : Option Addr) (m : Nat) (bs : List Int) (hs : Sl w A 128 (u8s bs)) (hb : Byte128 bs) (hmany : S.waits.length ≤ 1000000) (r : Int × DS) (hr : r = S.writeOf n bs) :
    Calls Tryd.prog 87 #[.pointer (some ⟨c, 0, none⟩), .int .i64 n, .slice A 128 m] w fun e w' => e = .returned (.int .i64 r.1) ∧ RD (More G w w') w' c r.2 ∧ OnlyU G w w' := by
  by_cases ho : S.off = true
  · have e : r = (50, S) := by rw [hr]; unfold DS.writeOf; rw [if_pos ho]
    refine (rwrite_off G w c S n A 128 m h ho).mono ?_
    rintro e' w' ⟨rfl, hw⟩
    obtain rfl := hw.symm
    rw [e]
    exact ⟨rfl, more_rd h (fun k hk => h.fin hk), OnlyU.refl _ _⟩
  have ho : S.off = false := by simpa using ho
  by_cases hn : n < 0 ∨ (S.kept.length : Int) ≤ n
  · have e : r = (51, S) := by rw [hr]; unfold DS.writeOf; rw [if_neg (by rw [ho]; decide), if_pos hn]
    refine (rwrite_out G w c S n A 128 m h ho hn).mono ?_
    rintro e' w' ⟨rfl, hw⟩
    obtain rfl := hw.symm
    rw [e]
    exact ⟨rfl, more_rd h (fun k hk => h.fin hk), OnlyU.refl _ _⟩
  · obtain ⟨k, rfl⟩ : ∃ k : Nat, n = (k : Int) := ⟨n.toNat, by omega⟩
    have hk : k < S.kept.length := by omega
    by_cases hu : S.isUse (k : Int) = false ∧ S.room ≤ (S.used : Int)
    · have e : r = (52, S) := by rw [hr]; unfold DS.writeOf; rw [if_neg (by rw [ho]; decide), if_neg hn, if_pos hu]
      refine (rwrite_full G w c S k A 128 m h ho hk hu.1 hu.2).mono ?_
      rintro e' w' ⟨rfl, q, rfl⟩
      rw [e]
      have h2 : RD G (w.drewN q) c S := h.only ((Only.refl Nothing w).drewN q) (fun _ _ hk => hk)
      exact ⟨rfl, more_rd h2 (fun k hk => h2.fin hk), (OnlyU.refl _ _).drewN q⟩
    · have e : r = (goneErr ((S.put k bs).goes 1).2, ((S.put k bs).goes 1).1) := by rw [hr]; unfold DS.writeOf; rw [if_neg (by rw [ho]; decide), if_neg hn, if_neg hu]; rfl
      rw [e]
      refine rwrite_u G w c S k A m bs h ho hk ?_ hmany hs hb
      cases e2 : S.isUse (k : Int)
      · exact Or.inr (by rcases Int.lt_or_le (S.used : Int) S.room with e3 | e3; exact e3; exact absurd ⟨e2, e3⟩ hu)
      · exact Or.inl rfl
end Go.Proofs.YteliebinhdphlaaDoor

/- A journal, plainly: what is read, which are records, what is wiped. -/
namespace Go.Proofs.YteliebinhdphlaaDoor
set_option maxRecDepth 100000
open Go.RowKit Go.Deep
set_option linter.unusedSimpArgs false
set_option linter.unusedVariables false

/-- A disk behind k reads. -/
def DS.reads (S : DS) : Nat → DS
  | 0 => S
  | k + 1 => (S.reads k).count 0
theorem reads_same (S : DS) (k : Nat) : (S.reads k).kept = S.kept ∧ (S.reads k).inn = S.inn ∧ (S.reads k).waits = S.waits ∧ (S.reads k).room = S.room ∧ (S.reads k).cut = S.cut ∧ (S.reads k).off = S.off := by
  induction k with
  | zero => exact ⟨rfl, rfl, rfl, rfl, rfl, rfl⟩
  | succ k ih => exact ih
theorem reads_at (S : DS) (k q : Nat) : (S.reads k).at_ q = S.at_ q := at_same (reads_same S k).2.2.1 (reads_same S k).1 q
theorem DWf.reads {S : DS} (h : DWf S) (k : Nat) : DWf (S.reads k) := by
  induction k with
  | zero => exact h
  | succ k ih => exact ih.count 0

/-- What an area's sector has. -/
def DS.rowAt (S : DS) (f i : Nat) : List Int := S.at_ (f + i)
/-- Is this row record number n? -/
def isRec (kind : Int) (r : List Int) (n : Nat) : Bool := decide ((openOf r kind).2.2 = 0 ∧ (openOf r kind).1 = (n : Int))
theorem isRec_true {kind : Int} {r : List Int} {n : Nat} : isRec kind r n = true ↔ (openOf r kind).2.2 = 0 ∧ (openOf r kind).1 = (n : Int) := by unfold isRec; exact decide_eq_true_iff
theorem isRec_false {kind : Int} {r : List Int} {n : Nat} : isRec kind r n = false ↔ ((openOf r kind).2.2 ≠ 0 ∨ (openOf r kind).1 ≠ (n : Int)) := by
  rw [Bool.eq_false_iff, ne_eq, isRec_true, Classical.not_and_iff_not_or_not]
/-- How many records there are, from number n on, k sectors being left. -/
def recsGo (kind : Int) (row : Nat → List Int) : Nat → Nat → Nat
  | n, 0 => n
  | n, k + 1 => if isRec kind (row n) n = true then recsGo kind row (n + 1) k else n
def jNext (kind : Int) (m : Nat) (row : Nat → List Int) : Nat := recsGo kind row 0 m
theorem recsGo_spec (kind : Int) (row : Nat → List Int) : ∀ (k n : Nat), n ≤ recsGo kind row n k ∧ recsGo kind row n k ≤ n + k ∧ (∀ i, n ≤ i → i < recsGo kind row n k → isRec kind (row i) i = true) ∧ (recsGo kind row n k < n + k → isRec kind (row (recsGo kind row n k)) (recsGo kind row n k) = false)
  | 0, n => ⟨Nat.le_refl _, Nat.le_refl _, fun i h1 h2 => by unfold recsGo at h2; omega, fun h => by unfold recsGo at h; omega⟩
  | k + 1, n => by
    unfold recsGo
    by_cases h : isRec kind (row n) n = true
    · rw [if_pos h]
      obtain ⟨h1, h2, h3, h4⟩ := recsGo_spec kind row k (n + 1)
      refine ⟨by omega, by omega, fun i hi hi2 => ?_, fun hl => h4 (by omega)⟩
      by_cases e : i = n
      · rw [e]; exact h
      · exact h3 i (by omega) hi2
    · rw [if_neg h]
      exact ⟨Nat.le_refl _, by omega, fun i h1 h2 => by omega, fun _ => by simpa using h⟩
theorem jNext_spec (kind : Int) (m : Nat) (row : Nat → List Int) : jNext kind m row ≤ m ∧ (∀ i, i < jNext kind m row → isRec kind (row i) i = true) ∧ (jNext kind m row < m → isRec kind (row (jNext kind m row)) (jNext kind m row) = false) := by
  obtain ⟨h1, h2, h3, h4⟩ := recsGo_spec kind row m 0
  exact ⟨by unfold jNext; omega, fun i hi => h3 i (Nat.zero_le _) hi, fun h => h4 (by unfold jNext at h; omega)⟩
theorem jNext_one {kind : Int} {m q : Nat} {row : Nat → List Int} (h1 : q ≤ m) (h2 : ∀ i, i < q → isRec kind (row i) i = true) (h3 : q < m → isRec kind (row q) q = false) : jNext kind m row = q := by
  obtain ⟨g1, g2, g3⟩ := jNext_spec kind m row
  rcases Nat.lt_trichotomy (jNext kind m row) q with h | h | h
  · have := g3 (by omega); rw [h2 _ h] at this; cases this
  · exact h
  · have := h3 (by omega); rw [g2 _ h] at this; cases this

/-- Sectors from n on, k of them: what isn't blank is wiped: the error, how many were, the disk behind it. -/
def DS.wipeGo (f m : Nat) (row : Nat → List Int) : DS → Nat → Nat → Nat → Int × Nat × DS
  | S, _, 0, c => (0, c, S)
  | S, n, k + 1, c => if row n = zeros128 then DS.wipeGo f m row S (n + 1) k c else if (S.arWrite f m n zeros128).1 = 0 then DS.wipeGo f m row (S.arWrite f m n zeros128).2 (n + 1) k (c + 1) else ((S.arWrite f m n zeros128).1, c, (S.arWrite f m n zeros128).2)
theorem wipeGo_same (f m : Nat) (row : Nat → List Int) : ∀ (k : Nat) (S : DS) (n c : Nat), (DS.wipeGo f m row S n k c).2.2.waits.length ≤ S.waits.length + k ∧ (DS.wipeGo f m row S n k c).2.2.kept = S.kept
  | 0, S, n, c => ⟨Nat.le_refl _, rfl⟩
  | k + 1, S, n, c => by
    unfold DS.wipeGo
    obtain ⟨h1, h2⟩ := arWrite_same S f m n zeros128
    split
    · obtain ⟨g1, g2⟩ := wipeGo_same f m row k S (n + 1) c
      exact ⟨by omega, g2⟩
    · split
      · obtain ⟨g1, g2⟩ := wipeGo_same f m row k (S.arWrite f m n zeros128).2 (n + 1) (c + 1)
        exact ⟨by omega, g2.trans h2⟩
      · exact ⟨by show (S.arWrite f m n zeros128).2.waits.length ≤ _; omega, h2⟩

/-! What is done to a journal: what is told, and the disk behind it. -/
def DS.jWiped (S : DS) (f m : Nat) (kind : Int) : Int × Nat × DS := DS.wipeGo f m (S.rowAt f) (S.reads m) (jNext kind m (S.rowAt f)) (m - jNext kind m (S.rowAt f)) 0
def DS.jOpen (S : DS) (f m : Nat) (kind : Int) : Int × Nat × DS :=
  if kind < 1 ∨ 255 < kind then (2, 0, S) else if S.off = true then (50, 0, S) else
  if (S.jWiped f m kind).1 ≠ 0 then ((S.jWiped f m kind).1, 0, (S.jWiped f m kind).2.2) else
  if (S.jWiped f m kind).2.1 = 0 then (0, jNext kind m (S.rowAt f), (S.jWiped f m kind).2.2) else
  if (S.jWiped f m kind).2.2.flushOf.1 ≠ 0 then ((S.jWiped f m kind).2.2.flushOf.1, 0, (S.jWiped f m kind).2.2.flushOf.2) else (0, jNext kind m (S.rowAt f), (S.jWiped f m kind).2.2.flushOf.2)
def DS.jGet (S : DS) (f m : Nat) (kind : Int) (next : Nat) (n : Int) : List Int × Int × DS :=
  if n < 0 ∨ (next : Int) ≤ n then ([], 54, S) else
  if (S.arTake f m n kind).2.2.1 ≠ 0 then ([], (S.arTake f m n kind).2.2.1, (S.arTake f m n kind).2.2.2) else
  if (S.arTake f m n kind).1 ≠ n then ([], 53, (S.arTake f m n kind).2.2.2) else ((S.arTake f m n kind).2.1, 0, (S.arTake f m n kind).2.2.2)
def DS.jAdd (S : DS) (f m : Nat) (kind : Int) (next : Nat) (load : List Int) : Int × Int × Nat × DS :=
  if 113 < load.length then (0, 3, next, S) else if m ≤ next then (0, 52, next, S) else
  if (S.arPut f m next kind next load).1 ≠ 0 then (0, (S.arPut f m next kind next load).1, next, (S.arPut f m next kind next load).2) else ((next : Int), 0, next + 1, (S.arPut f m next kind next load).2)

theorem jWiped_same (S : DS) (f m : Nat) (kind : Int) : (S.jWiped f m kind).2.2.waits.length ≤ S.waits.length + m ∧ (S.jWiped f m kind).2.2.kept = S.kept := by
  obtain ⟨h1, h2⟩ := wipeGo_same f m (S.rowAt f) (m - jNext kind m (S.rowAt f)) (S.reads m) (jNext kind m (S.rowAt f)) 0
  obtain ⟨e1, _, e2, _⟩ := reads_same S m
  unfold DS.jWiped
  rw [e2] at h1
  exact ⟨by omega, h2.trans e1⟩
theorem jOpen_same (S : DS) (f m : Nat) (kind : Int) : (S.jOpen f m kind).2.2.waits.length ≤ S.waits.length + m ∧ (S.jOpen f m kind).2.2.kept.length = S.kept.length ∧ (S.jOpen f m kind).2.1 ≤ m := by
  obtain ⟨h1, h2⟩ := jWiped_same S f m kind
  have h3 := (jNext_spec kind m (S.rowAt f)).1
  have h4 := flushOf_waits (S.jWiped f m kind).2.2
  have h5 := flushOf_len (S.jWiped f m kind).2.2
  rw [h2] at h5
  unfold DS.jOpen
  split
  · exact ⟨Nat.le_add_right _ _, rfl, Nat.zero_le _⟩
  split
  · exact ⟨Nat.le_add_right _ _, rfl, Nat.zero_le _⟩
  split
  · exact ⟨h1, by show (S.jWiped f m kind).2.2.kept.length = _; rw [h2], Nat.zero_le _⟩
  split
  · exact ⟨h1, by show (S.jWiped f m kind).2.2.kept.length = _; rw [h2], h3⟩
  split
  · exact ⟨Nat.le_trans h4 h1, h5, Nat.zero_le _⟩
  · exact ⟨Nat.le_trans h4 h1, h5, h3⟩
theorem jGet_same (S : DS) (f m : Nat) (kind : Int) (next : Nat) (n : Int) : (S.jGet f m kind next n).2.2.waits = S.waits ∧ (S.jGet f m kind next n).2.2.kept = S.kept := by
  have h := arRead_same S f m n
  rw [← arTake_state S f m n kind] at h
  unfold DS.jGet
  split
  · exact ⟨rfl, rfl⟩
  split
  · exact h
  split <;> exact h
theorem jGet_len {S : DS} (h : DWf S) (f m : Nat) (kind : Int) (next : Nat) (n : Int) : (S.jGet f m kind next n).1.length ≤ 113 := by
  unfold DS.jGet
  split
  · exact Nat.zero_le _
  split
  · exact Nat.zero_le _
  split
  · exact Nat.zero_le _
  · show (S.arTake f m n kind).2.1.length ≤ 113
    unfold DS.arTake
    split
    · exact (openOf_says (arRead_byte h f m n).2 kind).bounds.2.1
    · exact Nat.zero_le _
theorem jAdd_same (S : DS) (f m : Nat) (kind : Int) (next : Nat) (load : List Int) : (S.jAdd f m kind next load).2.2.2.waits.length ≤ S.waits.length + 1 ∧ (S.jAdd f m kind next load).2.2.2.kept = S.kept ∧ (next ≤ m → (S.jAdd f m kind next load).2.2.1 ≤ m) := by
  have h := arPut_same S f m next kind next load
  unfold DS.jAdd
  split
  · exact ⟨by show S.waits.length ≤ _; omega, rfl, fun h => h⟩
  split
  · exact ⟨by show S.waits.length ≤ _; omega, rfl, fun h => h⟩
  split
  · exact ⟨h.1, h.2, fun h => h⟩
  · exact ⟨h.1, h.2, fun h => by show next + 1 ≤ m; omega⟩
end Go.Proofs.YteliebinhdphlaaDoor

/- The document's areas once more: rows of bytes stay. -/
namespace Go.Proofs.YteliebinhdphlaaDoor
set_option maxRecDepth 100000
open Go.RowKit Go.Deep
set_option linter.unusedSimpArgs false
set_option linter.unusedVariables false

theorem OnlyU.below {G : Nat → Prop} {w w' w'' : World} (h : OnlyU G w w') (hb : Below w.heap.size w' w'') : OnlyU G w w'' :=
  ⟨⟨hb.os.trans h.1.os, hb.tape.trans h.1.tape, hb.output.trans h.1.output, Nat.le_trans h.1.size hb.size, fun b hl hn => (hb.block b hl).trans (h.1.block b hl hn)⟩,
   fun g vs hg => (hb.block g hg.lt).trans (h.2 g vs hg)⟩

section
variable (G : Nat → Prop) (w : World) (c : Nat) (S : DS) (h : RD G w c S) (f m : Nat) (hs : Spot f m)
include h hs
set_option maxHeartbeats 1600000 in
theorem rarea_read_off (n : Nat) (hn : n < m) (ho : S.off = true) :
    Calls Tryd.prog 65 #[.agg #[.pointer (some ⟨c, 0, none⟩), .int .i64 f, .int .i64 m], .int .i64 n] w fun e w' => e = .returned (.tuple #[.slice none 0 0, .int .i64 50]) ∧ Below w.heap.size w w' := by
  obtain ⟨w1, hw1⟩ : ∃ w1, w1 = w.alloc (.cells #[.pointer (some ⟨c, 0, none⟩), .int .i64 f, .int .i64 m] 50) := ⟨_, rfl⟩
  have hb1 : Below w.heap.size w w1 := by rw [hw1]; exact below_alloc _ _
  have hP : Blk w1 w.heap.size 50 [.pointer (some ⟨c, 0, none⟩), .int .i64 f, .int .i64 m] := by rw [hw1]; exact Blk.new _ _ _
  have h1 := h.only (Only.of_below (F := Nothing) hb1) (fun _ _ hk => hk)
  have hc0 := hP.cell (i := 0) rfl
  have hc1 := hP.cell (i := 1) rfl
  have hc2 := hP.cell (i := 2) rfl
  have Hw1 := Lib.hid hw1
  clear hw1
  unfold Spot at hs
  have hnm : (n : Int) < (m : Int) := by omega
  have hd1 : decide ((n : Int) < 0) = false := decide_eq_false (by omega)
  have hd2 : decide ((m : Int) ≤ (n : Int)) = false := decide_eq_false (by omega)
  have hwr : IntKind.i64.wrap ((f : Int) + (n : Int)) = (f : Int) + (n : Int) := by rw [IntKind.wrap_i64]; omega
  go_enter Tryd.func65, Tryd.ntmps65
  go_upto_region 1 with fail
  rw [← Hw1.out]
  go_wp2_with fail
  refine (rread_off G w1 c S _ h1 ho).mono ?_
  rintro e w2 ⟨rfl, hw2⟩
  obtain rfl := hw2.symm
  go_wp2_with fail
  go_ret2
  exact ⟨rfl, hb1⟩
set_option maxHeartbeats 1600000 in
theorem rarea_read_on (n : Nat) (hn : n < m) (hin : f + m ≤ S.kept.length) (ho : S.off = false) :
    Calls Tryd.prog 65 #[.agg #[.pointer (some ⟨c, 0, none⟩), .int .i64 f, .int .i64 m], .int .i64 n] w fun e w' => ∃ v, e = .returned (.tuple #[v, .int .i64 0]) ∧ BRow G w' v (S.rowAt f n) ∧ RD G w' c (S.count 0) ∧ OnlyU G w w' := by
  obtain ⟨w1, hw1⟩ : ∃ w1, w1 = w.alloc (.cells #[.pointer (some ⟨c, 0, none⟩), .int .i64 f, .int .i64 m] 50) := ⟨_, rfl⟩
  have hb1 : Below w.heap.size w w1 := by rw [hw1]; exact below_alloc _ _
  have hP : Blk w1 w.heap.size 50 [.pointer (some ⟨c, 0, none⟩), .int .i64 f, .int .i64 m] := by rw [hw1]; exact Blk.new _ _ _
  have h1 := h.only (Only.of_below (F := Nothing) hb1) (fun _ _ hk => hk)
  have hc0 := hP.cell (i := 0) rfl
  have hc1 := hP.cell (i := 1) rfl
  have hc2 := hP.cell (i := 2) rfl
  have Hw1 := Lib.hid hw1
  clear hw1
  unfold Spot at hs
  have hnm : (n : Int) < (m : Int) := by omega
  have hd1 : decide ((n : Int) < 0) = false := decide_eq_false (by omega)
  have hd2 : decide ((m : Int) ≤ (n : Int)) = false := decide_eq_false (by omega)
  obtain ⟨x, hx⟩ : ∃ x, x = (f : Int) + (n : Int) := ⟨_, rfl⟩
  have hxn : x = ((f + n : Nat) : Int) := by rw [hx]; omega
  have hwr : IntKind.i64.wrap ((f : Int) + (n : Int)) = x := by rw [IntKind.wrap_i64]; omega
  have Hx := Lib.hid hxn
  clear hx hxn
  go_enter Tryd.func65, Tryd.ntmps65
  go_upto_region 1 with fail
  rw [← Hw1.out]
  go_wp2_with fail
  rw [Hx.out]
  refine (rread_u G w1 c S (f + n) h1 ho (by omega)).mono ?_
  rintro e w2 ⟨v, rfl, hv, hd, hO⟩
  go_wp2_with fail
  go_ret2
  exact ⟨v, rfl, hv, hd, (OnlyU.of_below hb1).trans hO (fun _ _ hk => hk)⟩
set_option maxHeartbeats 1600000 in
theorem rarea_write_u (n : Nat) (hn : n < m) (A : Option Addr) (cc : Nat) (bs : List Int) (hx : Sl w A 128 (u8s bs)) (hb : Byte128 bs) (hmany : S.waits.length ≤ 1000000) (r : Int × DS) (hr : r = S.arWrite f m n bs) :
    Calls Tryd.prog 67 #[.agg #[.pointer (some ⟨c, 0, none⟩), .int .i64 f, .int .i64 m], .int .i64 n, .slice A 128 cc] w fun e w' => e = .returned (.int .i64 r.1) ∧ RD (More G w w') w' c r.2 ∧ OnlyU G w w' := by
  obtain ⟨w1, hw1⟩ : ∃ w1, w1 = w.alloc (.cells #[.pointer (some ⟨c, 0, none⟩), .int .i64 f, .int .i64 m] 50) := ⟨_, rfl⟩
  have hb1 : Below w.heap.size w w1 := by rw [hw1]; exact below_alloc _ _
  have hP : Blk w1 w.heap.size 50 [.pointer (some ⟨c, 0, none⟩), .int .i64 f, .int .i64 m] := by rw [hw1]; exact Blk.new _ _ _
  have h1 := h.only (Only.of_below (F := Nothing) hb1) (fun _ _ hk => hk)
  have hc0 := hP.cell (i := 0) rfl
  have hc1 := hP.cell (i := 1) rfl
  have hc2 := hP.cell (i := 2) rfl
  have hx1 := hx.below hb1
  have Hw1 := Lib.hid hw1
  have HB := Lib.hid hb
  have e := hr
  unfold DS.arWrite at e; rw [if_neg (by omega)] at e
  have He := Lib.hid e
  clear hw1 hr hb e
  unfold Spot at hs
  have hnm : (n : Int) < (m : Int) := by omega
  have hd1 : decide ((n : Int) < 0) = false := decide_eq_false (by omega)
  have hd2 : decide ((m : Int) ≤ (n : Int)) = false := decide_eq_false (by omega)
  have hwr : IntKind.i64.wrap ((f : Int) + (n : Int)) = (f : Int) + (n : Int) := by rw [IntKind.wrap_i64]; omega
  go_enter Tryd.func67, Tryd.ntmps67
  go_upto_region 1 with fail
  rw [← Hw1.out]
  go_wp2_with fail
  refine (rwrite_anyU G w1 c S h1 _ A cc bs hx1 HB.out hmany r He.out).mono ?_
  rintro e w2 ⟨rfl, hd, hO⟩
  go_wp2_with fail
  go_ret
  exact ⟨rfl, rd_wide hd hb1.size, (OnlyU.of_below hb1).trans hO (fun _ _ hk => hk)⟩
end

section
variable (G : Nat → Prop) (w : World) (c : Nat) (S : DS) (h : RD G w c S) (f m : Int) (hs : Spot f m)
include h hs
set_option maxHeartbeats 1600000 in
theorem rarea_take_cap (n kind : Int) (hn : -9223372036854775808 ≤ n ∧ n ≤ 9223372036854775807) (hk : -9223372036854775808 ≤ kind ∧ kind ≤ 9223372036854775807) (r : Int × List Int × Int × DS) (hr : r = S.arTake f m n kind) :
    Calls Tryd.prog 70 #[.agg #[.pointer (some ⟨c, 0, none⟩), .int .i64 f, .int .i64 m], .int .i64 n, .int .i64 kind] w fun e w' => (∃ B cc, e = .returned (.tuple #[.int .i64 r.1, .slice B r.2.1.length cc, .int .i64 r.2.2.1]) ∧ Sl w' B r.2.1.length (u8s r.2.1) ∧ r.2.1.length ≤ cc ∧ ∀ ad, B = some ad → ∃ vs, Blk w' ad.block 5 vs) ∧ RD (More G w w') w' c r.2.2.2 ∧ Only G w w' := by
  obtain ⟨w1, hw1⟩ : ∃ w1, w1 = w.alloc (.cells #[.pointer (some ⟨c, 0, none⟩), .int .i64 f, .int .i64 m] 50) := ⟨_, rfl⟩
  have hb1 : Below w.heap.size w w1 := by rw [hw1]; exact below_alloc _ _
  have hP : Blk w1 w.heap.size 50 [.pointer (some ⟨c, 0, none⟩), .int .i64 f, .int .i64 m] := by rw [hw1]; exact Blk.new _ _ _
  have h1 := h.only (Only.of_below (F := Nothing) hb1) (fun _ _ hk => hk)
  have hc0 := hP.cell (i := 0) rfl
  have hc1 := hP.cell (i := 1) rfl
  have hc2 := hP.cell (i := 2) rfl
  obtain ⟨q, hq⟩ : ∃ q, q = S.arRead f m n := ⟨_, rfl⟩
  have hqb : Byte128 q.1 := by rw [hq]; exact arRead_byte h.1 f m n
  have Hq := Lib.hid hq
  have Hqb := Lib.hid hqb
  have Hw1 := Lib.hid hw1
  have Hr := Lib.hid hr
  clear hw1 hr hq hqb
  go_enter Tryd.func70, Tryd.ntmps70
  go_upto_region 1 with fail
  rw [← Hw1.out]
  go_wp2_with fail
  refine (rarea_read G w1 c S h1 f m hs n hn q Hq.out).mono ?_
  rintro e w2 ⟨v, rfl, hv, hd, hO⟩
  obtain ⟨qb, qe, qS⟩ := q
  have hO2 : Only G w w2 := (Only.of_below hb1).trans hO (fun _ _ hk => hk)
  have hd2 := rd_wide hd hb1.size
  clear hP hb1 h1 Hw1 hc0 hc1 hc2 hO hd
  simp only [] at hv hd2 ⊢
  by_cases he : qe = 0
  · subst he
    obtain ⟨o, ho⟩ : ∃ o, o = openOf qb kind := ⟨_, rfl⟩
    have e := Hr.out
    unfold DS.arTake at e; rw [← Hq.out, if_pos rfl, ← ho] at e
    have He := Lib.hid e
    have Ho := Lib.hid ho
    clear e ho
    rcases hv with ⟨_, hv⟩ | ⟨hv, _⟩
    · obtain ⟨g, cap, sp, rfl, hGg, hcap, hB, _⟩ := hv
      simp only [Hqb.out.1] at hcap hB ⊢
      go_wp2_with fail
      refine (ropen_at g 5 sp cap hcap qb Hqb.out.1 Hqb.out.2 w2 hB kind hk).mono ?_
      rintro e w3 ⟨hop, hat⟩
      obtain ⟨⟨B, cc, rfl, hs3, hcl⟩, hb3⟩ := hop.of_cap Hqb.out.2 o Ho.out
      go_wp2_with fail
      go_ret3
      rw [He.out]
      have hd3 := hd2.only (Only.of_below (F := Nothing) hb3) (fun _ _ hk => hk)
      exact ⟨⟨B, cc, rfl, hs3, hcl, fun ad e => ⟨_, by subst e; rw [hat _ _ _ _ _ rfl]; exact hB.kept (hb3.block _ hB.lt)⟩⟩, hd3.mono (fun k hk hg => by rcases hg with hg | hg; exact Or.inl hg; exact Or.inr ⟨hg.1, Nat.lt_of_lt_of_le hg.2 hb3.size⟩) (fun k hk => by rcases hk with hk | hk; exact hd3.fin (Or.inl hk); exact hk.2), hO2.trans (Only.of_below (F := G) hb3) (fun _ _ hk => hk)⟩
    · exact absurd rfl hv
  · rcases hv with ⟨hv, _⟩ | ⟨_, rfl⟩
    · exact absurd hv he
    have e := Hr.out
    unfold DS.arTake at e; rw [← Hq.out, if_neg he] at e
    have He := Lib.hid e
    have hne : (qe != 0) = true := by simpa using he
    clear e he
    go_wp2
    go_ret3
    rw [He.out]
    first | exact ⟨⟨none, 0, rfl, Sl.nil_ _ _, Nat.le_refl _, fun _ e => (by cases e)⟩, hd2, hO2⟩ | exact ⟨⟨none, 0, rfl, Sl.nil_ _ _, Nat.zero_le _, fun _ e => (by cases e)⟩, hd2, hO2⟩
end
end Go.Proofs.YteliebinhdphlaaDoor

/- The document's journal: Get, Add. -/
namespace Go.Proofs.YteliebinhdphlaaDoor
set_option maxRecDepth 100000
open Go.RowKit Go.Deep
set_option linter.unusedSimpArgs false
set_option linter.unusedVariables false

/-- The document's journal at q. -/
def RJ (w : World) (q c f m : Nat) (kind : Int) (next : Nat) : Prop := Blk w q 52 [.pointer (some ⟨c, 0, none⟩), .int .i64 f, .int .i64 m, .int .i64 kind, .int .i64 next]
theorem RJ.kept {w w' : World} {q c f m : Nat} {kind : Int} {next : Nat} (h : RJ w q c f m kind next) (e : w'.heap[q]? = w.heap[q]?) : RJ w' q c f m kind next := Blk.kept h e
theorem RJ.lt {w : World} {q c f m : Nat} {kind : Int} {next : Nat} (h : RJ w q c f m kind next) : q < w.heap.size := Blk.lt h

set_option maxHeartbeats 3200000 in
theorem rjget_is (G : Nat → Prop) (w : World) (q c f m : Nat) (kind : Int) (next : Nat) (S : DS) (h : RD G w c S) (hj : RJ w q c f m kind next) (hs : Spot f m) (hq : ¬ G q) (hnext : next ≤ m) (hk : -9223372036854775808 ≤ kind ∧ kind ≤ 9223372036854775807)
    (n : Int) (hn : -9223372036854775808 ≤ n ∧ n ≤ 9223372036854775807) (r : List Int × Int × DS) (hr : r = S.jGet f m kind next n) :
    Calls Tryd.prog 43 #[.pointer (some ⟨q, 0, none⟩), .int .i64 n] w fun e w' => (∃ B cc, e = .returned (.tuple #[.slice B r.1.length cc, .int .i64 r.2.1]) ∧ Sl w' B r.1.length (u8s r.1)) ∧ RD (More G w w') w' c r.2.2 ∧ Only G w w' := by
  have hc0 := Blk.cell hj (i := 0) rfl
  have hc1 := Blk.cell hj (i := 1) rfl
  have hc2 := Blk.cell hj (i := 2) rfl
  have hc3 := Blk.cell hj (i := 3) rfl
  have hc4 := Blk.cell hj (i := 4) rfl
  have hm := hs.2.2.2
  have Hr := Lib.hid hr
  clear hr
  by_cases h0 : n < 0
  · have e := Hr.out
    unfold DS.jGet at e; rw [if_pos (Or.inl h0)] at e
    have He := Lib.hid e
    clear e
    go_enter Tryd.func43, Tryd.ntmps43
    go_wp2
    go_ret2
    rw [He.out]
    first | exact ⟨⟨none, 0, rfl, Sl.nil_ _ _⟩, more_rd h (fun k hk => h.fin hk), Only.refl _ _⟩ | exact ⟨⟨none, ⟨0, rfl⟩, Sl.nil_ _ _⟩, more_rd h (fun k hk => h.fin hk), Only.refl _ _⟩
  by_cases h1 : (next : Int) ≤ n
  · have e := Hr.out
    unfold DS.jGet at e; rw [if_pos (Or.inr h1)] at e
    have He := Lib.hid e
    clear e
    go_enter Tryd.func43, Tryd.ntmps43
    go_wp2
    go_ret2
    rw [He.out]
    first | exact ⟨⟨none, 0, rfl, Sl.nil_ _ _⟩, more_rd h (fun k hk => h.fin hk), Only.refl _ _⟩ | exact ⟨⟨none, ⟨0, rfl⟩, Sl.nil_ _ _⟩, more_rd h (fun k hk => h.fin hk), Only.refl _ _⟩
  have e := Hr.out
  unfold DS.jGet at e; rw [if_neg (by omega)] at e
  obtain ⟨t, ht⟩ : ∃ t, t = S.arTake f m n kind := ⟨_, rfl⟩
  rw [← ht] at e
  have Ht := Lib.hid ht
  have He := Lib.hid e
  clear e ht
  go_enter Tryd.func43, Tryd.ntmps43
  go_upto_region 3 with fail
  have hd0 : RD G w.drew c S := h.keep (Nat.le_refl _) (fun _ _ => rfl)
  have hcq : w.cell? ⟨q, 0, none⟩ = some (.pointer (some ⟨c, 0, none⟩)) ∧ w.cell? ⟨q, 1, none⟩ = some (.int .i64 f) ∧ w.cell? ⟨q, 2, none⟩ = some (.int .i64 m) ∧ w.cell? ⟨q, 3, none⟩ = some (.int .i64 kind) := ⟨hc0, hc1, hc2, hc3⟩
  go_region_held3 (fun w' => w'.cell? ⟨q, 0, none⟩ = some (.pointer (some ⟨c, 0, none⟩)) ∧ w'.cell? ⟨q, 1, none⟩ = some (.int .i64 f) ∧ w'.cell? ⟨q, 2, none⟩ = some (.int .i64 m) ∧ w'.cell? ⟨q, 3, none⟩ = some (.int .i64 kind))
    (first | exact hcq | exact hcr)
    (first
      | (go_at_call 70; refine (rarea_take G w.drew c S hd0 f m hs n kind hn hk t Ht.out).mono ?_; rintro e w2 ⟨⟨B, cc, rfl, hsl⟩, hd2, hO2x⟩;
         have hO2 := hO2x.undrew;
         have hj2 : RJ w2 q c f m kind next := hj.kept (hO2.block q hj.lt hq);
         have hcr : w2.cell? ⟨q, 0, none⟩ = some (.pointer (some ⟨c, 0, none⟩)) ∧ w2.cell? ⟨q, 1, none⟩ = some (.int .i64 f) ∧ w2.cell? ⟨q, 2, none⟩ = some (.int .i64 m) ∧ w2.cell? ⟨q, 3, none⟩ = some (.int .i64 kind) := ⟨Blk.cell hj2 (i := 0) rfl, Blk.cell hj2 (i := 1) rfl, Blk.cell hj2 (i := 2) rfl, Blk.cell hj2 (i := 3) rfl⟩))
  have hd3 : RD (More G w w2) w2 c t.2.2.2 := hd2
  obtain ⟨tn, tl, te, tS⟩ := t
  simp only [] at hsl hd3 He ⊢
  clear hd2 hO2x Ht hcq hcr hd0
  by_cases hte : te = 0
  · subst hte
    have e := He.out
    rw [if_neg (by simp)] at e
    by_cases htn : tn = n
    · subst htn
      rw [if_neg (by simp)] at e
      have He := Lib.hid e
      clear e
      go_wp2_with fail
      go_ret2
      rw [He.out]
      exact ⟨⟨B, cc, rfl, hsl⟩, hd3, hO2⟩
    · rw [if_pos htn] at e
      have He := Lib.hid e
      have hne : (tn != n) = true := by simpa using htn
      clear e htn
      go_wp2_with fail
      go_ret2
      rw [He.out]
      first | exact ⟨⟨none, 0, rfl, Sl.nil_ _ _⟩, hd3, hO2⟩ | exact ⟨⟨none, ⟨0, rfl⟩, Sl.nil_ _ _⟩, hd3, hO2⟩
  · have e := He.out
    rw [if_pos hte] at e
    have He := Lib.hid e
    have hne : (te != 0) = true := by simpa using hte
    clear e hte
    go_wp2_with fail
    go_ret2
    rw [He.out]
    first | exact ⟨⟨none, 0, rfl, Sl.nil_ _ _⟩, hd3, hO2⟩ | exact ⟨⟨none, ⟨0, rfl⟩, Sl.nil_ _ _⟩, hd3, hO2⟩

set_option maxHeartbeats 3200000 in
theorem rjadd_is (G : Nat → Prop) (w : World) (q c f m : Nat) (kind : Int) (next : Nat) (S : DS) (h : RD G w c S) (hj : RJ w q c f m kind next) (hs : Spot f m) (hq : ¬ G q) (hnext : next ≤ m) (hk : -9223372036854775808 ≤ kind ∧ kind ≤ 9223372036854775807)
    (A : Option Addr) (n cc : Nat) (load : List Int) (hx : Sl w A n (u8s load)) (hb : Bytes load) (hn : n ≤ 9223372036854775807) (hmany : S.waits.length ≤ 1000000) (r : Int × Int × Nat × DS) (hr : r = S.jAdd f m kind next load) :
    Calls Tryd.prog 41 #[.pointer (some ⟨q, 0, none⟩), .slice A n cc] w fun e w' => e = .returned (.tuple #[.int .i64 r.1, .int .i64 r.2.1]) ∧ RJ w' q c f m kind r.2.2.1 ∧ RD (More G w w') w' c r.2.2.2 ∧ Only (fun k => G k ∨ k = q) w w' := by
  have hc0 := Blk.cell hj (i := 0) rfl
  have hc1 := Blk.cell hj (i := 1) rfl
  have hc2 := Blk.cell hj (i := 2) rfl
  have hc3 := Blk.cell hj (i := 3) rfl
  have hc4 := Blk.cell hj (i := 4) rfl
  have hm := hs.2.2.2
  have hlen : load.length = n := by simpa using hx.1
  have hjl := hj.lt
  have Hr := Lib.hid hr
  clear hr
  by_cases h0 : 113 < n
  · have e := Hr.out
    unfold DS.jAdd at e; rw [if_pos (by omega)] at e
    have He := Lib.hid e
    have h0i : (113 : Int) < (n : Int) := by omega
    clear e
    go_enter Tryd.func41, Tryd.ntmps41
    go_wp2
    go_ret2
    rw [He.out]
    exact ⟨rfl, hj, more_rd h (fun k hk => h.fin hk), Only.refl _ _⟩
  have h0i : (n : Int) ≤ 113 := by omega
  by_cases h1 : m ≤ next
  · have e := Hr.out
    unfold DS.jAdd at e; rw [if_neg (by omega), if_pos h1] at e
    have He := Lib.hid e
    have h1i : decide ((m : Int) ≤ (next : Int)) = true := decide_eq_true (by omega)
    clear e
    go_enter Tryd.func41, Tryd.ntmps41
    go_wp2
    go_region
    all_goals
      go_wp2
      go_ret2
      rw [He.out]
      exact ⟨rfl, hj, more_rd (h.keep (Nat.le_refl _) (fun _ _ => rfl)) (fun k hk => h.fin hk), (Only.refl _ _).drew⟩
  have e := Hr.out
  unfold DS.jAdd at e; rw [if_neg (by omega), if_neg h1] at e
  obtain ⟨t, ht⟩ : ∃ t, t = S.arPut f m next kind next load := ⟨_, rfl⟩
  rw [← ht] at e
  have Ht := Lib.hid ht
  have He := Lib.hid e
  have h1i : decide ((m : Int) ≤ (next : Int)) = false := decide_eq_false (by omega)
  clear e ht
  go_enter Tryd.func41, Tryd.ntmps41
  go_wp2
  go_region
  all_goals
    have hO0 : Only G w w.drew := (Only.refl _ _).drew
    have hd0 : RD G w.drew c S := h.keep (Nat.le_refl _) (fun _ _ => rfl)
    have hj0 : RJ w.drew q c f m kind next := hj.kept rfl
    have hx0 : Sl w.drew A n (u8s load) := hx.below (Below.refl _ _).drew
    clear hc0 hc1 hc2 hc3 hc4 hx hj h
    generalize w.drew = w0 at *
    have hc0 := Blk.cell hj0 (i := 0) rfl
    have hc1 := Blk.cell hj0 (i := 1) rfl
    have hc2 := Blk.cell hj0 (i := 2) rfl
    have hc3 := Blk.cell hj0 (i := 3) rfl
    have hc4 := Blk.cell hj0 (i := 4) rfl
    go_upto_region 5 with fail
    have hd1 : RD G w0.drew c S := hd0.keep (Nat.le_refl _) (fun _ _ => rfl)
    have hx1 : Sl w0.drew A n (u8s load) := hx0.below (Below.refl _ _).drew
    have hcq : w0.cell? ⟨q, 0, none⟩ = some (.pointer (some ⟨c, 0, none⟩)) ∧ w0.cell? ⟨q, 1, none⟩ = some (.int .i64 f) ∧ w0.cell? ⟨q, 2, none⟩ = some (.int .i64 m) ∧ w0.cell? ⟨q, 3, none⟩ = some (.int .i64 kind) ∧ w0.cell? ⟨q, 4, none⟩ = some (.int .i64 next) := ⟨hc0, hc1, hc2, hc3, hc4⟩
    go_region_held3 (fun w' => w'.cell? ⟨q, 0, none⟩ = some (.pointer (some ⟨c, 0, none⟩)) ∧ w'.cell? ⟨q, 1, none⟩ = some (.int .i64 f) ∧ w'.cell? ⟨q, 2, none⟩ = some (.int .i64 m) ∧ w'.cell? ⟨q, 3, none⟩ = some (.int .i64 kind) ∧ w'.cell? ⟨q, 4, none⟩ = some (.int .i64 next))
      (first | exact hcq | exact hcr)
      (first
        | (go_at_call 68; refine (rarea_put G w0.drew c S hd1 f m hs next kind next (by omega) hk (by omega) A n cc load hx1 hb hn hmany t Ht.out).mono ?_; rintro e w2 ⟨rfl, hd2, hO2x⟩;
           have hO2 := hO2x.undrew;
           have hj2 : RJ w2 q c f m kind next := hj0.kept (hO2.block q hj0.lt hq);
           have hcr : w2.cell? ⟨q, 0, none⟩ = some (.pointer (some ⟨c, 0, none⟩)) ∧ w2.cell? ⟨q, 1, none⟩ = some (.int .i64 f) ∧ w2.cell? ⟨q, 2, none⟩ = some (.int .i64 m) ∧ w2.cell? ⟨q, 3, none⟩ = some (.int .i64 kind) ∧ w2.cell? ⟨q, 4, none⟩ = some (.int .i64 next) := ⟨Blk.cell hj2 (i := 0) rfl, Blk.cell hj2 (i := 1) rfl, Blk.cell hj2 (i := 2) rfl, Blk.cell hj2 (i := 3) rfl, Blk.cell hj2 (i := 4) rfl⟩))
    have hd3 : RD (More G w0 w2) w2 c t.2 := hd2
    obtain ⟨te, tS⟩ := t
    simp only [] at hd3 He ⊢
    have hsz0 := hO0.size
    have hO02 : Only G w w2 := hO0.trans hO2 (fun _ _ hk => hk)
    have hd4 : RD (More G w w2) w2 c tS := rd_wide hd3 hsz0
    clear hd2 hO2x Ht hcq hcr hd0 hd1 hd3 hO2 hO0 hx0 hx1
    by_cases hte : te = 0
    · subst hte
      have e := He.out
      rw [if_neg (by simp)] at e
      have He := Lib.hid e
      have hc4 := Blk.cell hj2 (i := 4) rfl
      have hf4 := Blk.frozen hj2 4
      have hsum : IntKind.i64.wrap ((next : Int) + 1) = (next : Int) + 1 := by rw [IntKind.wrap_i64]; omega
      obtain ⟨w3, hw3⟩ : ∃ w3, w3 = w2.setCell ⟨q, 4, none⟩ (.int .i64 ((next : Int) + 1)) := ⟨_, rfl⟩
      have hj3 : RJ w3 q c f m kind (next + 1) := by rw [hw3]; exact Blk.set hj2 4 _
      have hqG : ¬ More G w w2 q := fun hk => by rcases hk with hk | hk; exact hq hk; have := hjl; omega
      have hO3 : Only (fun k => k = q) w2 w3 := by rw [hw3]; exact (Only.refl (fun k => k = q) w2).set (a := ⟨q, 4, none⟩) (Or.inr rfl) _
      have hd5 : RD (More G w w2) w3 c tS := hd4.only hO3 (fun k hk e => hqG (e ▸ hk))
      have hd6 : RD (More G w w3) w3 c tS := hd5.mono (fun k hk hg => by rcases hg with hg | hg; exact Or.inl hg; exact Or.inr ⟨hg.1, Nat.lt_of_lt_of_le hg.2 hO3.size⟩) (fun k hk => by rcases hk with hk | hk; exact hd5.fin (Or.inl hk); exact hk.2)
      have hO23 : Only (fun k => G k ∨ k = q) w w3 := (hO02.mono (fun _ _ hk => Or.inl hk)).trans hO3 (fun _ _ hk => Or.inr hk)
      have Hw3 := Lib.hid hw3
      have hdif : (next : Int) + 1 - 1 = (next : Int) := by omega
      have hwd : IntKind.i64.wrap (next : Int) = (next : Int) := by rw [IntKind.wrap_i64]; omega
      have hc5 : w3.cell? ⟨q, 4, none⟩ = some (.int .i64 ((next : Int) + 1)) := Blk.cell hj3 (i := 4) rfl
      clear e hw3 hO3 hd4 hd5 hO02
      go_upto_region 9 with fail
      rw [← Hw3.out]
      go_wp2_with fail
      go_ret2
      rw [He.out]
      exact ⟨rfl, hj3, hd6, hO23⟩
    · have e := He.out
      rw [if_pos hte] at e
      have He := Lib.hid e
      have hne : (te != 0) = true := by simpa using hte
      clear e hte
      go_wp2_with fail
      go_ret2
      rw [He.out]
      exact ⟨rfl, hj2, hd4, hO02.mono (fun _ _ hk => Or.inl hk)⟩
end Go.Proofs.YteliebinhdphlaaDoor

/- The document's journal: Open. -/
namespace Go.Proofs.YteliebinhdphlaaDoor
set_option maxRecDepth 100000
open Go.RowKit Go.Deep
set_option linter.unusedSimpArgs false
set_option linter.unusedVariables false

theorem info_row8 : (Tryd.prog.info? 22).map (fun i => (i.zero, i.size, i.bytes)) = some (some (.slice none 0 0), 1, 24) := by kernel_rfl

theorem Blk.sl_pre {w : World} {g : Nat} {t : TypeId} {xs sp : List Value} (h : Blk w g t (xs ++ sp)) {n : Nat} (hn : xs.length = n) : Sl w (some ⟨g, 0, none⟩) n xs := by
  refine ⟨hn, fun j u hu => ⟨_, rfl, ?_⟩⟩
  rw [show (⟨g, 0, none⟩ : Addr).add j = ⟨g, j, none⟩ by unfold Addr.add; split <;> simp_all]
  exact h.cell (by rw [List.getElem?_append_left (List.getElem?_eq_some_iff.1 hu).1]; exact hu)

/-- How a call of the document's Open ends. -/
def ROpened (G : Nat → Prop) (w : World) (c f m : Nat) (kind : Int) (r : Int × Nat × DS) (e : Ending) (w' : World) : Prop :=
  (r.1 ≠ 0 ∧ e = .returned (.tuple #[.pointer none, .int .i64 r.1]) ∧ RD (More G w w') w' c r.2.2 ∧ Only G w w') ∨
  (r.1 = 0 ∧ ∃ q G', e = .returned (.tuple #[.pointer (some ⟨q, 0, none⟩), .int .i64 0]) ∧ w.heap.size ≤ q ∧ ¬ G' q ∧ (∀ k, G' k → G k ∨ w.heap.size ≤ k) ∧ RJ w' q c f m kind r.2.1 ∧ RD G' w' c r.2.2 ∧ Only G w w')

/-- The disk, of the blocks G and of new ones. -/
def L3 (G : Nat → Prop) (wc wr : World) (c : Nat) (T : DS) : Prop := ∃ G', RD G' wr c T ∧ (∀ k, G' k → G k ∨ wc.heap.size ≤ k) ∧ OnlyU G wc wr
theorem L3.keep {G : Nat → Prop} {wc w w' : World} {c : Nat} {T : DS} (h : L3 G wc w c T) (hb : Below w.heap.size w w') : L3 G wc w' c T := by
  obtain ⟨G', h1, h2, h3⟩ := h
  exact ⟨G', h1.only (Only.of_below (F := Nothing) hb) (fun _ _ hk => hk), h2, h3.trans (OnlyU.of_below (F := Nothing) hb) (fun _ _ hk => hk.elim)⟩
theorem L3.only {G : Nat → Prop} {wc w : World} {c : Nat} {T : DS} (h : L3 G wc w c T) : OnlyU G wc w := by
  obtain ⟨G', h1, h2, h3⟩ := h
  exact h3
theorem l3_step {G G' : Nat → Prop} {wc w w' : World} {c : Nat} {T : DS} (h2 : ∀ k, G' k → G k ∨ wc.heap.size ≤ k) (h3 : OnlyU G wc w) (hd : RD (More G' w w') w' c T) (hO : OnlyU G' w w') : L3 G wc w' c T :=
  ⟨More G' w w', hd, fun k hk => by rcases hk with hk | hk; exact h2 k hk; exact Or.inr (Nat.le_trans h3.size hk.1), h3.trans hO (fun k hk hg => by rcases h2 k hg with h | h; exact h; omega)⟩
theorem l3_end {G : Nat → Prop} {w wc w' : World} {c : Nat} {T : DS} (h : L3 G wc w' c T) (hO : Only G w wc) (hG : ∀ k, G k → k < w.heap.size) : (∃ G', RD G' w' c T ∧ (∀ k, G' k → G k ∨ wc.heap.size ≤ k)) ∧ RD (More G w w') w' c T ∧ Only G w w' := by
  obtain ⟨G', h1, h2, h3⟩ := h
  refine ⟨⟨G', h1, h2⟩, h1.mono (fun k hk hg => ?_) (fun k hk => ?_), hO.trans h3.1 (fun _ _ hk => hk)⟩
  · rcases h2 k hg with h | h
    · exact Or.inl h
    · exact Or.inr ⟨Nat.le_trans hO.size h, hk⟩
  · rcases hk with hk | hk
    · exact Nat.lt_of_lt_of_le (hG k hk) (Nat.le_trans hO.size h3.size)
    · exact hk.2

section
variable (G : Nat → Prop) (w : World) (c : Nat) (S : DS) (h : RD G w c S) (f m : Nat) (hs : Spot f m) (hm1 : 1 ≤ m) (hin : f + m ≤ S.kept.length) (kind : Int) (hk : -9223372036854775808 ≤ kind ∧ kind ≤ 9223372036854775807) (r : Int × Nat × DS) (hr : r = S.jOpen f m kind)
include h hs hm1 hin hk hr
set_option maxHeartbeats 3200000 in
theorem rjopen_arg (hbad : kind < 1 ∨ 255 < kind) :
    Calls Tryd.prog 40 #[.agg #[.pointer (some ⟨c, 0, none⟩), .int .i64 f, .int .i64 m], .int .i64 kind] w (ROpened G w c f m kind r) := by
  have hUse : True := (fun _ _ _ => True.intro) hs hm1 hin
  clear hUse
  obtain ⟨w1, hw1⟩ : ∃ w1, w1 = w.alloc (.cells #[.pointer (some ⟨c, 0, none⟩), .int .i64 f, .int .i64 m] 50) := ⟨_, rfl⟩
  have hb1 : Below w.heap.size w w1 := by rw [hw1]; exact below_alloc _ _
  have h1 := h.only (Only.of_below (F := Nothing) hb1) (fun _ _ hk => hk)
  have hfin : ROpened G w c f m kind r (.returned (.tuple #[.pointer none, .int .i64 2])) w1 := by
    have e : r = (2, 0, S) := by rw [hr]; unfold DS.jOpen; rw [if_pos hbad]
    rw [e]
    exact Or.inl ⟨by show (2 : Int) ≠ 0; decide, rfl, more_rd h1 (fun k hk => h1.fin hk), Only.of_below hb1⟩
  have Hfin := Lib.hid hfin
  have Hw1 := Lib.hid hw1
  clear hw1 hfin hr
  by_cases h0 : kind < 1
  · clear hbad
    go_enter Tryd.func40, Tryd.ntmps40
    go_upto_region 1 with fail
    rw [← Hw1.out]
    go_wp2
    go_ret2
    exact Hfin.out
  · have h2 : 255 < kind := by omega
    clear hbad
    go_enter Tryd.func40, Tryd.ntmps40
    go_upto_region 1 with fail
    rw [← Hw1.out]
    go_wp2
    go_ret2
    exact Hfin.out

set_option maxHeartbeats 3200000 in
theorem rjopen_off (hok : 1 ≤ kind ∧ kind ≤ 255) (ho : S.off = true) :
    Calls Tryd.prog 40 #[.agg #[.pointer (some ⟨c, 0, none⟩), .int .i64 f, .int .i64 m], .int .i64 kind] w (ROpened G w c f m kind r) := by
  have hUse : True := (fun _ => True.intro) hin
  clear hUse
  obtain ⟨w1, hw1⟩ : ∃ w1, w1 = w.alloc (.cells #[.pointer (some ⟨c, 0, none⟩), .int .i64 f, .int .i64 m] 50) := ⟨_, rfl⟩
  have hb1 : Below w.heap.size w w1 := by rw [hw1]; exact below_alloc _ _
  have hA1 : Blk w1 w.heap.size 50 [.pointer (some ⟨c, 0, none⟩), .int .i64 f, .int .i64 m] := by rw [hw1]; exact Blk.new _ _ _
  obtain ⟨w2, hw2⟩ : ∃ w2, w2 = w1.alloc (.cells #[.pointer (some ⟨c, 0, none⟩), .int .i64 f, .int .i64 m, .int .i64 kind, .int .i64 0] 52) := ⟨_, rfl⟩
  have hb2 : Below w1.heap.size w1 w2 := by rw [hw2]; exact below_alloc _ _
  have hA2 := hA1.kept (hb2.block _ hA1.lt)
  have hb12 := hb1.trans (hb2.mono hb1.size)
  have h2 := h.only (Only.of_below (F := Nothing) hb12) (fun _ _ hk => hk)
  have hc0 := hA2.cell (i := 0) rfl
  have hc1 := hA2.cell (i := 1) rfl
  have hc2 := hA2.cell (i := 2) rfl
  have hd0 := hA1.cell (i := 0) rfl
  have hd1 := hA1.cell (i := 1) rfl
  have hd2 := hA1.cell (i := 2) rfl
  have e : r = (50, 0, S) := by rw [hr]; unfold DS.jOpen; rw [if_neg (by omega), if_pos ho]
  have He := Lib.hid e
  have Hw1 := Lib.hid hw1
  have Hw2 := Lib.hid hw2
  have h0 : ¬ kind < 1 := by omega
  have h255 : ¬ 255 < kind := by omega
  clear hw1 hw2 hr e
  go_enter Tryd.func40, Tryd.ntmps40
  go_upto_region 1 with fail
  rw [← Hw1.out]
  go_upto_region 4 with fail
  rw [← Hw2.out]
  go_wp2_with fail
  go_loopw [7, 8] (fun v i wr => v = .slice none 0 0 ∧ i = .int .i64 0 ∧ wr = w2) (fun _ _ _ => 0)
  case atStart => exact ⟨rfl, rfl, rfl⟩
  case round =>
    obtain ⟨rfl, rfl, hwr⟩ := hrel
    obtain rfl := hwr.symm
    have hm0 : (0 : Int) < (m : Int) := by omega
    go_wp2_with fail
    refine (rarea_read_off G w2 c S h2 f m hs 0 hm1 ho).mono ?_
    rintro e w3 ⟨rfl, hb3⟩
    go_wp2_with fail
    go_ret2
    have hb13 := hb12.trans (hb3.mono hb12.size)
    have h3 := h.only (Only.of_below (F := Nothing) hb13) (fun _ _ hk => hk)
    rw [He.out]
    exact Or.inl ⟨by show (50 : Int) ≠ 0; decide, rfl, more_rd h3 (fun k hk => h3.fin hk), Only.of_below hb13⟩

set_option maxHeartbeats 6400000 in
theorem rjopen_on (hok : 1 ≤ kind ∧ kind ≤ 255) (ho : S.off = false) (hmany : S.waits.length + m ≤ 1000000) :
    Calls Tryd.prog 40 #[.agg #[.pointer (some ⟨c, 0, none⟩), .int .i64 f, .int .i64 m], .int .i64 kind] w (ROpened G w c f m kind r) := by
  obtain ⟨w1, hw1⟩ : ∃ w1, w1 = w.alloc (.cells #[.pointer (some ⟨c, 0, none⟩), .int .i64 f, .int .i64 m] 50) := ⟨_, rfl⟩
  have hb1 : Below w.heap.size w w1 := by rw [hw1]; exact below_alloc _ _
  have hA1 : Blk w1 w.heap.size 50 [.pointer (some ⟨c, 0, none⟩), .int .i64 f, .int .i64 m] := by rw [hw1]; exact Blk.new _ _ _
  obtain ⟨w2, hw2⟩ : ∃ w2, w2 = w1.alloc (.cells #[.pointer (some ⟨c, 0, none⟩), .int .i64 f, .int .i64 m, .int .i64 kind, .int .i64 0] 52) := ⟨_, rfl⟩
  have hb2 : Below w1.heap.size w1 w2 := by rw [hw2]; exact below_alloc _ _
  have hA2 := hA1.kept (hb2.block _ hA1.lt)
  have hb12 := hb1.trans (hb2.mono hb1.size)
  have h2 := h.only (Only.of_below (F := Nothing) hb12) (fun _ _ hk => hk)
  have hd0 := hA1.cell (i := 0) rfl
  have hd1 := hA1.cell (i := 1) rfl
  have hd2 := hA1.cell (i := 2) rfl
  have hsz1 : w1.heap.size = w.heap.size + 1 := by rw [hw1, nblk_alloc]
  obtain ⟨pa, hpa⟩ : ∃ pa, pa = w.heap.size := ⟨_, rfl⟩
  obtain ⟨pj, hpj⟩ : ∃ pj, pj = w1.heap.size := ⟨_, rfl⟩
  have hJ2 : RJ w2 pj c f m kind 0 := by rw [hw2, hpj]; exact Blk.new _ _ _
  have hsz2 : w2.heap.size = w.heap.size + 2 := by rw [hw2, nblk_alloc, hsz1]
  have hpaG : ¬ G pa := fun hk => by have := h.fin hk; omega
  have hpjG : ¬ G pj := fun hk => by have := h.fin hk; omega
  have hpjl : w.heap.size ≤ pj := by omega
  rw [← hpa] at hA2 hd0 hd1 hd2
  have hGlt : ∀ k, G k → k < w.heap.size := fun k hk => h.fin hk
  have Hr := Lib.hid hr
  have Hpj := Lib.hid hpj
  have Hpa := Lib.hid hpa
  have Hw1 := Lib.hid hw1
  have Hw2 := Lib.hid hw2
  have Hsz := Lib.hid hsz2
  have h0 : ¬ kind < 1 := by omega
  have h255 : ¬ 255 < kind := by omega
  have hm8 : m ≤ 8192 := by have := hs.2.2.2; omega
  have hmd := Lib.hid h.1
  obtain ⟨i8, hi8, hz8, hs8, hb8⟩ := info_parts' info_row8
  clear hw1 hw2 hr hsz2 hsz1 hpa hpj h hb1 hb2 hA1
  go_enter Tryd.func40, Tryd.ntmps40
  go_upto_region 1 with fail
  rw [← Hw1.out, ← Hpa.out]
  go_upto_region 4 with fail
  rw [← Hw2.out, ← Hpj.out]
  clear hd0 hd1 hd2 Hw1 Hw2
  go_wp2_with fail
  go_loopw [7, 8] (fun v i wr => ∃ (k : Nat) (vs : List Value), k ≤ m ∧ i = .int .i64 (k : Int) ∧ wr.ownsRow w2.heap.size 22 1 v k vs ∧ RD G wr c (S.reads k) ∧ OnlyU G w2 wr ∧ ∀ j, j < k → ∃ u, vs[j]? = some u ∧ BRow G wr u (S.rowAt f j)) (fun _ i _ => m - (intOf i).toNat)
  case atStart => exact ⟨0, [], by omega, rfl, ⟨by simp, Or.inl ⟨rfl, rfl⟩⟩, h2, OnlyU.refl _ _, fun j hj => by omega⟩
  case round =>
    obtain ⟨k, vs, hkm, rfl, hown, hd, hO, hrows⟩ := hrel
    have hA := hO.1.blk hA2 hpaG
    have hc0 := hA.cell (i := 0) rfl
    have hc1 := hA.cell (i := 1) rfl
    have hc2 := hA.cell (i := 2) rfl
    have hszr := hO.size
    by_cases hlt : k < m
    · have hlti : (k : Int) < (m : Int) := by omega
      go_wp2_with fail
      refine (rarea_read_on G wr c (S.reads k) hd f m hs k hlt (by rw [(reads_same S k).1]; exact hin) (by rw [(reads_same S k).2.2.2.2.2]; exact ho)).mono ?_
      rintro e w3 ⟨v', rfl, hv', hd3, hO3⟩
      obtain ⟨g', cap', sp', rfl, hv2⟩ := hv'
      have hv3 : BRow G w3 (.slice (some ⟨g', 0, none⟩) ((S.reads k).rowAt f k).length cap') (S.rowAt f k) := by
        have e : (S.reads k).rowAt f k = S.rowAt f k := reads_at S k (f + k)
        rw [e] at hv2 ⊢
        exact ⟨g', cap', sp', rfl, hv2⟩
      have hown3 := own_stays hown (fun b hb => hO3.1.block b (hown.lt b hb).2 (fun hg => by have h1 := (hown.lt b hb).1; have := hGlt b hg; have := Hsz.out; omega))
      have hO23 := hO.trans hO3 (fun _ _ hk => hk)
      have hsz3 := hO23.size
      obtain ⟨l', hl'⟩ : ∃ l', l' = ((S.reads k).rowAt f k).length := ⟨_, rfl⟩
      rw [← hl'] at hv3 ⊢
      clear hv2 hl' hown
      go_wp2_with (at_builtin; refine wpList_push (.tmp 43) (.tmp 45) 56 22 i8 _ (.slice (some ⟨g', 0, none⟩) l' cap') 24 rfl rfl Tryd.underlying56 hi8 hz8 hs8 hb8 rfl w2.heap.size _ _ _ hown3 rfl rfl rfl (by omega) (by omega) hsz3 ?_; intro v5 w5 hown5 hg5 hb5 hs5)
      have hlow : ∀ b, G b → w5.heap[b]? = w3.heap[b]? := fun b hb => hb5.block b (by have := hGlt b hb; have := Hsz.out; omega)
      have hd5 : RD G w5 c (S.reads (k + 1)) := hd3.keep hb5.size hlow
      have hrows5 : ∀ j, j < k + 1 → ∃ u, (vs ++ [.slice (some ⟨g', 0, none⟩) l' cap'])[j]? = some u ∧ BRow G w5 u (S.rowAt f j) := by
        intro j hj
        have hvl := own_len hown3
        by_cases hjk : j < k
        · obtain ⟨u, h1, h2⟩ := hrows j hjk
          exact ⟨u, by rw [List.getElem?_append_left (by omega)]; exact h1, (h2.stay hO3.2).kept (fun b hb _ => hlow b hb)⟩
        · obtain rfl : j = k := by omega
          exact ⟨_, by rw [List.getElem?_append_right (by omega), ← hvl, Nat.sub_self]; rfl, hv3.kept (fun b hb _ => hlow b hb)⟩
      have hO5 := hO23.below hb5
      clear hlow hrows hd hd3 hO hO3 hO23 hv3 hown3 hg5 hb5 hc0 hc1 hc2 hA
      go_wp2
      go_roundw
      case rel => exact ⟨k + 1, _, by omega, by go_num, hown5, hd5, hO5, hrows5⟩
      case measure => simp [intOf]; omega
    · obtain rfl : m = k := by omega
      have hJr := hO.1.blk hJ2 hpjG
      obtain ⟨wo, hwo⟩ : ∃ wo : World, wo = wr := ⟨_, rfl⟩
      obtain rfl := hwo
      obtain ⟨A, ca, rfl, hsl⟩ := own_form hown
      have hO1 : Only G w wo := (Only.of_below hb12).trans hO.1 (fun _ _ hk => hk)
      have hpne : pa ≠ pj := hA2.ne hJ2 (by decide)
      go_upto_block 2 with fail
      go_cut [11, 12, 13] from 47 to 84 (fun _ _ _ wc => RJ wc pj c f m kind (jNext kind m (S.rowAt f)) ∧ OnlyU (fun b => b = pj) wo wc)
      case first =>
        go_wp2_with fail
        go_loopw [11, 12, 13] (fun _ _ _ wr => ∃ q, q ≤ m ∧ (∀ j, j < q → isRec kind (S.rowAt f j) j = true) ∧ RJ wr pj c f m kind q ∧ OnlyU (fun b => b = pj) wo wr) (fun _ _ _ wr => m - (match wr.cell? ⟨pj, 4, none⟩ with | some v => (intOf v).toNat | none => 0))
        case atStart => exact ⟨0, by omega, fun j hj => by omega, hJr, OnlyU.refl _ _⟩
        case round =>
          obtain ⟨q, hqm, hrec, hJ, hOq⟩ := hrel
          have hAr := hOq.1.blk hA (fun e => hpne e)
          have hownr := own_stays hown (fun b hb => hOq.1.block b (hown.lt b hb).2 (fun e => own_ne hown hJr (by decide) (e ▸ hb.symm)))
          have hj4 := Blk.cell hJ (i := 4) rfl
          have Hm4 := Lib.hid (show wr.cell? ⟨pj, 4, none⟩ = some (.int .i64 (q : Int)) from hj4)
          have ha2 := hAr.cell (i := 2) rfl
          by_cases hlq : q < m
          · have hlqi : (q : Int) < (m : Int) := by omega
            obtain ⟨u, hu, hbr⟩ := hrows q hlq
            obtain ⟨bs, hbs⟩ : ∃ bs, bs = S.rowAt f q := ⟨_, rfl⟩
            have hbb : Byte128 bs := by rw [hbs]; exact at_byte hmd.out (by omega)
            rw [← hbs] at hbr
            obtain ⟨g, cap, sp, rfl, hGg, hcap, hblk, _⟩ := hbr.stay hOq.2
            rw [hbb.1] at hcap hu
            have Hbb := Lib.hid hbb
            have Hbs := Lib.hid hbs
            have Hlen := Lib.hid hbb.1
            clear hbr hbb hbs
            go_wp2
            go_region
            all_goals
              have hJd : RJ wr.drew pj c f m kind q := hJ.kept rfl
              have hOd := hOq.drew
              have hAd : Blk wr.drew pa 50 [.pointer (some ⟨c, 0, none⟩), .int .i64 f, .int .i64 m] := hAr
              have hownd := hownr.drew
              have hbd : Blk wr.drew g 5 (u8s bs ++ sp) := hblk
              clear hJ hOq hAr hownr hblk hj4 ha2
              generalize wr.drew = wd at *
              obtain ⟨A', ca', eA, hsd⟩ := own_form hownd
              cases eA
              obtain ⟨ad, rfl, hcu⟩ := hsd.2 q _ hu
              have hj4 := Blk.cell hJd (i := 4) rfl
              obtain ⟨o, ho'⟩ : ∃ o, o = openOf bs kind := ⟨_, rfl⟩
              have Ho := Lib.hid ho'
              clear ho'
              go_wp2_with fail
              refine (ropen_row g 5 sp cap hcap bs Hlen.out Hbb.out.2 wd hbd kind hk).mono ?_
              intro e w4 hop
              obtain ⟨⟨B, cc, rfl, hs3⟩, hb4⟩ := hop.of Hbb.out.2 o Ho.out
              have hJ4 : RJ w4 pj c f m kind q := hJd.kept (hb4.block _ hJd.lt)
              have hO4 : OnlyU (fun b => b = pj) wo w4 := hOd.trans (OnlyU.of_below (F := fun b => b = pj) hb4) (fun _ _ hk => hk)
              have hj4 := Blk.cell hJ4 (i := 4) rfl
              have hf4 := Blk.frozen hJ4 4
              obtain ⟨on, ol, oe⟩ := o
              simp only [] at hs3 Ho ⊢
              clear hop hJd hOd hb4 hbd hownd hsd hcu hAd
              have hstop : (oe ≠ 0 ∨ on ≠ (q : Int)) → jNext kind m (S.rowAt f) = q := fun hno => jNext_one hqm hrec (fun _ => isRec_false.2 (by rw [← Hbs.out, ← Ho.out]; exact hno))
              have hgo : oe = 0 → on = (q : Int) → isRec kind (S.rowAt f q) q = true := fun h1 h2 => isRec_true.2 (by rw [← Hbs.out, ← Ho.out]; exact ⟨h1, h2⟩)
              have Hstop := Lib.hid hstop
              have Hgo := Lib.hid hgo
              clear hstop hgo
              by_cases hoe : oe = 0
              · by_cases hon : on = (q : Int)
                · have hrq := Hgo.out hoe hon
                  subst hoe hon
                  obtain ⟨w5, hw5⟩ : ∃ w5, w5 = w4.setCell ⟨pj, 4, none⟩ (.int .i64 ((q : Int) + 1)) := ⟨_, rfl⟩
                  have hJ5 : RJ w5 pj c f m kind (q + 1) := by rw [hw5]; exact Blk.set hJ4 4 _
                  have hO5 : OnlyU (fun b => b = pj) wo w5 := by rw [hw5]; exact hO4.set (a := ⟨pj, 4, none⟩) (Or.inr rfl) (Blk.not8 hJr (by decide)) _
                  have hwq : IntKind.i64.wrap ((q : Int) + 1) = (q : Int) + 1 := by rw [IntKind.wrap_i64]; omega
                  have Hw5 := Lib.hid hw5
                  have hc5 : w5.cell? ⟨pj, 4, none⟩ = some (.int .i64 ((q + 1 : Nat) : Int)) := Blk.cell hJ5 (i := 4) rfl
                  clear hw5 hO4
                  go_wp2_with fail
                  rw [← Hw5.out]
                  go_roundw
                  case rel => exact ⟨q + 1, by omega, fun j hj => by
                    by_cases e : j = q
                    · rw [e]; exact hrq
                    · exact hrec j (by omega), hJ5, hO5⟩
                  case measure => rw [hc5, Hm4.out]; simp [intOf]; omega
                · have hno := Hstop.out (Or.inr hon)
                  have hne : (on != (q : Int)) = true := by simpa using hon
                  subst hoe
                  go_wp2_with fail
                  go_meet
                  rw [hno]
                  exact ⟨hJ4, hO4⟩
              · have hno := Hstop.out (Or.inl hoe)
                have hne : (oe != 0) = true := by simpa using hoe
                go_wp2_with fail
                go_meet
                rw [hno]
                exact ⟨hJ4, hO4⟩
          · obtain rfl : q = m := by omega
            go_wp2
            go_region
            all_goals
              go_wp2_with fail
              go_meet
              exact ⟨by rw [jNext_one (Nat.le_refl _) hrec (fun h => absurd h (Nat.lt_irrefl _))]; exact hJ.kept rfl, hOq.drew⟩
      case rest =>
        obtain ⟨hJ, hOq⟩ := hcut
        obtain ⟨q, hq⟩ : ∃ q, q = jNext kind m (S.rowAt f) := ⟨_, rfl⟩
        have hqm : q ≤ m := by rw [hq]; exact (jNext_spec kind m (S.rowAt f)).1
        rw [← hq] at hJ
        have hA := hOq.1.blk hA (fun e => hpne e)
        have hown := own_stays hown (fun b hb => hOq.1.block b (hown.lt b hb).2 (fun e => own_ne hown hJr (by decide) (e ▸ hb.symm)))
        have hd := hd.only hOq.1 (fun k hk e => hpjG (e ▸ hk))
        have hrows : ∀ j, j < m → ∃ u, vs[j]? = some u ∧ BRow G wc u (S.rowAt f j) := fun j hj => by
          obtain ⟨u, h1, h2⟩ := hrows j hj
          exact ⟨u, h1, h2.stay hOq.2⟩
        have hO1c : Only (fun k => G k ∨ w.heap.size ≤ k) w wc := (hO1.mono (fun _ _ hk => Or.inl hk)).trans hOq.1 (fun k hk e => by have := Hsz.out; exact absurd hk (by rw [e]; exact Nat.not_lt.2 hpjl))
        have hOc : Only G w wc := ⟨hO1c.os, hO1c.tape, hO1c.output, hO1c.size, fun k hk hn => hO1c.block k hk (fun h => by rcases h with h | h; exact hn h; omega)⟩
        have hgc := Lib.hid (show S.jWiped f m kind = DS.wipeGo f m (S.rowAt f) (S.reads m) q (m - q) 0 by unfold DS.jWiped; rw [← hq])
        have Hq := Lib.hid hq
        have hszc : w2.heap.size ≤ wc.heap.size := Nat.le_trans hszr hOq.size
        have hpjc : pj < wc.heap.size := hJ.lt
        have hpac : pa < wc.heap.size := hA.lt
        have HpG := Lib.hid hpaG
        obtain ⟨zc, hzc⟩ : ∃ zc, zc = madeCells #[Value.int .u8 0] 128 := ⟨_, rfl⟩
        have hmk : ∀ w : World, (Instr.makeSlice 22 (.int .i64 128) (.int .i64 128)).run Tryd.prog w = .ok (.slice (some ⟨w.heap.size, 0, none⟩) 128 128) (w.alloc (.cells zc 5)) := by
          intro w
          have := run_make_row' (P := Tryd.prog) 22 5 (.int .u8 0) 1 Tryd.underlying22 info_u8 rfl .i64 .i64 128 (by omega) (by omega) w
          rw [← hzc] at this; exact this
        have hzl : zc = (u8s zeros128).toArray := by
          have : zc.toList = u8s zeros128 := by rw [hzc, toList_madeCells_one]; simp [zeros128, u8s]
          rw [← this]
        have Hzl := Lib.hid hzl
        have hj4 := Blk.cell hJ (i := 4) rfl
        clear hzc hzl hq hOq hO1c hc0 hc1 hc2 hszr hJr hO hO1 h2 hA2 hJ2
        go_wp2_with fail
        go_loopw [14, 15, 16] (fun wv nv _ wr => ∃ (n cnt : Nat) (T : DS), q ≤ n ∧ n ≤ m ∧ wv = .int .i64 (cnt : Int) ∧ nv = .int .i64 (n : Int) ∧ cnt ≤ n ∧ S.jWiped f m kind = DS.wipeGo f m (S.rowAt f) T n (m - n) cnt ∧ T.waits.length ≤ S.waits.length + n ∧ L3 G wc wr c T) (fun _ nv _ wr => m - (intOf nv).toNat)
        case atStart => exact ⟨q, 0, S.reads m, Nat.le_refl _, hqm, rfl, rfl, Nat.zero_le _, hgc.out, by rw [(reads_same S m).2.2.1]; omega, ⟨G, hd, fun k hk => Or.inl hk, OnlyU.refl _ _⟩⟩
        case round =>
          obtain ⟨n, cnt, T, hqn, hnm, rfl, rfl, hcn, hgo, hwt, hL⟩ := hrel
          have hAr := hL.only.1.blk hA hpaG
          have ha2 := hAr.cell (i := 2) rfl
          by_cases hlt : n < m
          · have hlti : (n : Int) < (m : Int) := by omega
            obtain ⟨u, hu, hbr⟩ := hrows n hlt
            obtain ⟨bs, hbs⟩ : ∃ bs, bs = S.rowAt f n := ⟨_, rfl⟩
            have hbb : Byte128 bs := by rw [hbs]; exact at_byte hmd.out (by omega)
            rw [← hbs] at hbr
            obtain ⟨g, cap, sp, rfl, hGg, hcap, hblk, _⟩ := hbr.stay hL.only.2
            rw [hbb.1] at hcap hu
            have Hlen := Lib.hid hbb.1
            have hownr := own_stays hown (fun b hb => hL.only.1.block b (hown.lt b hb).2 (fun hg => by have h1 := (hown.lt b hb).1; have := hGlt b hg; have := Hsz.out; omega))
            obtain ⟨A', ca', eA, hsd⟩ := own_form hownr
            cases eA
            obtain ⟨ad, rfl, hcu⟩ := hsd.2 n _ hu
            have hcud : wr.drew.cell? (ad.add n) = some (.slice (some ⟨g, 0, none⟩) 128 cap) := hcu
            obtain ⟨w3, hw3⟩ : ∃ w3, w3 = (wr.alloc (.cells zc 5)).drew := ⟨_, rfl⟩
            have hb3 : Below wr.heap.size wr w3 := by rw [hw3]; exact (below_alloc _ _).drew
            have hcu3 : w3.cell? (ad.add n) = some (.slice (some ⟨g, 0, none⟩) 128 cap) := hb3.cell (World.block_lt_of_cell? wr _ hcu) |>.trans hcu
            have hz3 : Sl w3 (some ⟨wr.heap.size, 0, none⟩) 128 (u8s zeros128) := by rw [hw3, Hzl.out]; exact Sl.new_ wr 5 (u8s zeros128) 128 (by simp [zeros128])
            have hs3 : Sl w3 (some ⟨g, 0, none⟩) 128 (u8s bs) := Blk.sl_pre (hblk.kept (hb3.block _ hblk.lt)) (by rw [List.length_map]; exact Hlen.out)
            obtain ⟨bq, hbq⟩ : ∃ bq, bq = decide (bs = zeros128) := ⟨_, rfl⟩
            have HSame := Lib.hid (same_any (some ⟨g, 0, none⟩) (some ⟨wr.heap.size, 0, none⟩) 128 128 cap 128 bs zeros128 w3 hs3 hz3 (by omega) (by omega))
            have Hbq := Lib.hid hbq
            have Hbs := Lib.hid hbs
            have Hw3 := Lib.hid hw3
            have HL := Lib.hid hL
            clear hw3 hs3 hz3 hbq hbs hblk hbr hownr hsd hL hbb hu
            go_upto_region 20 with fail
            refine wp_region_held_drew (S := fun w0 => w0.cell? (ad.add n) = some (.slice (some ⟨g, 0, none⟩) 128 cap)) (by kernel_rfl) hcud (fun hHeld => ?_)
            refine wpAnyH_take (i := 0) (oi := ?oiz1) (v := ?vz1) ?hiz1 ?haz1 ?hbz1 ?hcz1 ?hqz1 ?hyz1 (by assumption) ?restz1
            case hiz1 => (simp only [List.getElem?_toArray, List.getElem?_cons_zero, List.getElem?_cons_succ]; rfl)
            case haz1 => kernel_rfl
            case hbz1 => kernel_rfl
            case hcz1 => kernel_rfl
            case hyz1 => exact Or.inl ⟨by rfl, by (intro w hSw; (try dsimp only at hSw); go_split_ands; go_simp; (try with_reducible rfl))⟩
            case hqz1 => exact fun _ _ _ h => h
            try simp only [Act.put, List.setIfInBounds_toArray, List.set_cons_zero, List.set_cons_succ]
            refine wpAnyH_take (i := 1) (oi := ?oiz2) (v := ?vz2) ?hiz2 ?haz2 ?hbz2 ?hcz2 ?hqz2 ?hyz2 (by assumption) ?restz2
            case hiz2 => (simp only [List.getElem?_toArray, List.getElem?_cons_zero, List.getElem?_cons_succ]; rfl)
            case haz2 => kernel_rfl
            case hbz2 => kernel_rfl
            case hcz2 => kernel_rfl
            case hyz2 => exact Or.inl ⟨by rfl, by (intro w hSw; (try dsimp only at hSw); go_split_ands; go_simp; (try with_reducible rfl))⟩
            case hqz2 => exact fun _ _ _ h => h
            try simp only [Act.put, List.setIfInBounds_toArray, List.set_cons_zero, List.set_cons_succ]
            refine wpAnyH_take (i := 2) (oi := ?oiz3) (v := ?vz3) ?hiz3 ?haz3 ?hbz3 ?hcz3 ?hqz3 ?hyz3 (by assumption) ?restz3
            case hiz3 => (simp only [List.getElem?_toArray, List.getElem?_cons_zero, List.getElem?_cons_succ]; rfl)
            case haz3 => kernel_rfl
            case hbz3 => kernel_rfl
            case hcz3 => kernel_rfl
            case hyz3 => exact Or.inl ⟨by rfl, by (intro w hSw; (try dsimp only at hSw); go_split_ands; go_simp; (try with_reducible rfl))⟩
            case hqz3 => exact fun _ _ _ h => h
            try simp only [Act.put, List.setIfInBounds_toArray, List.set_cons_zero, List.set_cons_succ]
            refine wpAnyH_take (i := 3) (oi := ?oiz4) (v := ?vz4) ?hiz4 ?haz4 ?hbz4 ?hcz4 ?hqz4 ?hyz4 (by assumption) ?restz4
            case hiz4 => (simp only [List.getElem?_toArray, List.getElem?_cons_zero, List.getElem?_cons_succ]; rfl)
            case haz4 => kernel_rfl
            case hbz4 => kernel_rfl
            case hcz4 => kernel_rfl
            case hyz4 => exact Or.inl ⟨by rfl, by (intro w hSw; (try dsimp only at hSw); go_split_ands; go_simp; (try with_reducible rfl))⟩
            case hqz4 => exact fun _ _ _ h => h
            try simp only [Act.put, List.setIfInBounds_toArray, List.set_cons_zero, List.set_cons_succ]
            refine wpAnyH_ready (rs := [4]) (by kernel_rfl) (by simp) ?_
            refine AllReadyH.cons (o := ?oiz5) ?hiz5 (fun K hK => ?stepz5) AllReadyH.nil
            case hiz5 => (simp only [List.getElem?_toArray, List.getElem?_cons_zero, List.getElem?_cons_succ]; rfl)
            go_simp
            refine hK.out _ _ (by rw [← Hw3.out]; exact hcu3) (fun hHeld => ?_)
            clear hK K
            try simp only [Act.put, List.setIfInBounds_toArray, List.set_cons_zero, List.set_cons_succ]
            refine wpAnyH_ready (rs := [5]) (by kernel_rfl) (by simp) ?_
            refine AllReadyH.cons (o := ?oiz6) ?hiz6 (fun K hK => ?stepz6) AllReadyH.nil
            case hiz6 => (simp only [List.getElem?_toArray, List.getElem?_cons_zero, List.getElem?_cons_succ]; rfl)
            go_simp
            rw [← Hw3.out]
            refine HSame.out.mono ?_
            rintro e w4 ⟨rfl, hw4⟩
            obtain ⟨q4, rfl⟩ := hw4
            rw [← Hbq.out]
            refine hK.out _ _ hcu3 (fun hHeld => ?_)
            clear hK K
            try simp only [Act.put, List.setIfInBounds_toArray, List.set_cons_zero, List.set_cons_succ]
            refine wpAnyH_done (by kernel_rfl) ?_ _
            clear hHeld
            obtain ⟨w4, hw4⟩ : ∃ w4, w4 = w3.drewN q4 := ⟨_, rfl⟩
            have hb4 : Below wr.heap.size wr w4 := by rw [hw4]; exact below_drewN hb3 q4
            rw [← hw4]
            have e1 : m - n = (m - (n + 1)) + 1 := by omega
            have hL4 := HL.out.keep hb4
            clear hw4 hb3 hcu3 hcud hcu HSame Hw3 HL hb4 hAr ha2
            cases bq with
            | true =>
              have hz : bs = zeros128 := of_decide_eq_true Hbq.out.symm
              have hgo' := hgo
              rw [e1] at hgo'
              simp only [DS.wipeGo] at hgo'
              rw [if_pos (by rw [← Hbs.out]; exact hz)] at hgo'
              go_wp2_with fail
              go_roundw
              case rel => exact ⟨n + 1, cnt, T, by omega, by omega, rfl, by go_num, by omega, hgo', by omega, hL4⟩
              case measure => simp [intOf]; omega
            | false =>
              have hz : bs ≠ zeros128 := of_decide_eq_false Hbq.out.symm
              obtain ⟨r1, hr1⟩ : ∃ r1, r1 = T.arWrite f m n zeros128 := ⟨_, rfl⟩
              have hgo' := hgo
              rw [e1] at hgo'
              simp only [DS.wipeGo] at hgo'
              rw [if_neg (by rw [← Hbs.out]; exact hz), ← hr1] at hgo'
              have hw1' : r1.2.waits.length ≤ T.waits.length + 1 := by rw [hr1]; exact (arWrite_same T f m n zeros128).1
              obtain ⟨G', h1, h2, h3⟩ := hL4
              have hpaG' : ¬ G' pa := fun hk => by rcases h2 pa hk with h | h; exact hpaG h; omega
              have hA4 := h3.1.blk hA hpaG
              have hc4d : w4.drew.cell? ⟨pa, 0, none⟩ = some (.pointer (some ⟨c, 0, none⟩)) ∧ w4.drew.cell? ⟨pa, 1, none⟩ = some (.int .i64 f) ∧ w4.drew.cell? ⟨pa, 2, none⟩ = some (.int .i64 m) := ⟨hA4.cell (i := 0) rfl, hA4.cell (i := 1) rfl, hA4.cell (i := 2) rfl⟩
              obtain ⟨w5, hw5⟩ : ∃ w5, w5 = (w4.alloc (.cells zc 5)).drew := ⟨_, rfl⟩
              have hb5 : Below w4.heap.size w4 w5 := by rw [hw5]; exact (below_alloc _ _).drew
              have hA5 := hA4.kept (hb5.block _ hA4.lt)
              have hc5 : w5.cell? ⟨pa, 0, none⟩ = some (.pointer (some ⟨c, 0, none⟩)) ∧ w5.cell? ⟨pa, 1, none⟩ = some (.int .i64 f) ∧ w5.cell? ⟨pa, 2, none⟩ = some (.int .i64 m) := ⟨hA5.cell (i := 0) rfl, hA5.cell (i := 1) rfl, hA5.cell (i := 2) rfl⟩
              have hz5 : Sl w5 (some ⟨w4.heap.size, 0, none⟩) 128 (u8s zeros128) := by rw [hw5, Hzl.out]; exact Sl.new_ w4 5 (u8s zeros128) 128 (by simp [zeros128])
              have hd5 : RD G' w5 c T := h1.only (Only.of_below (F := Nothing) hb5) (fun _ _ hk => hk)
              have hO5 : OnlyU G wc w5 := h3.trans (OnlyU.of_below (F := Nothing) hb5) (fun _ _ hk => hk.elim)
              have HWrite := Lib.hid (rarea_write_u G' w5 c T hd5 f m hs n hlt (some ⟨w4.heap.size, 0, none⟩) 128 zeros128 hz5 zeros_byte (by omega) r1 hr1)
              have HpG' := Lib.hid hpaG'
              have Hw5 := Lib.hid hw5
              have H2 := Lib.hid h2
              clear hw5 hz5 hd5 h1 h3 hgo h2 hr1 hA4
              go_upto_region 21 with fail
              refine wp_region_held_drew (S := fun w0 => w0.cell? ⟨pa, 0, none⟩ = some (.pointer (some ⟨c, 0, none⟩)) ∧ w0.cell? ⟨pa, 1, none⟩ = some (.int .i64 f) ∧ w0.cell? ⟨pa, 2, none⟩ = some (.int .i64 m)) (by kernel_rfl) hc4d (fun hHeld => ?_)
              refine wpAnyH_take (i := 0) (oi := ?oiz8) (v := ?vz8) ?hiz8 ?haz8 ?hbz8 ?hcz8 ?hqz8 ?hyz8 (by assumption) ?restz8
              case hiz8 => (simp only [List.getElem?_toArray, List.getElem?_cons_zero, List.getElem?_cons_succ]; rfl)
              case haz8 => kernel_rfl
              case hbz8 => kernel_rfl
              case hcz8 => kernel_rfl
              case hyz8 => exact Or.inl ⟨by rfl, by (intro w hSw; (try dsimp only at hSw); go_split_ands; go_simp; (try with_reducible rfl))⟩
              case hqz8 => exact fun _ _ _ h => h
              try simp only [Act.put, List.setIfInBounds_toArray, List.set_cons_zero, List.set_cons_succ]
              refine wpAnyH_take (i := 1) (oi := ?oiz9) (v := ?vz9) ?hiz9 ?haz9 ?hbz9 ?hcz9 ?hqz9 ?hyz9 (by assumption) ?restz9
              case hiz9 => (simp only [List.getElem?_toArray, List.getElem?_cons_zero, List.getElem?_cons_succ]; rfl)
              case haz9 => kernel_rfl
              case hbz9 => kernel_rfl
              case hcz9 => kernel_rfl
              case hyz9 => exact Or.inl ⟨by rfl, by (intro w hSw; (try dsimp only at hSw); go_split_ands; go_simp; (try with_reducible rfl))⟩
              case hqz9 => exact fun _ _ _ h => h
              try simp only [Act.put, List.setIfInBounds_toArray, List.set_cons_zero, List.set_cons_succ]
              refine wpAnyH_ready (rs := [2]) (by kernel_rfl) (by simp) ?_
              refine AllReadyH.cons (o := ?oiz10) ?hiz10 (fun K hK => ?stepz10) AllReadyH.nil
              case hiz10 => (simp only [List.getElem?_toArray, List.getElem?_cons_zero, List.getElem?_cons_succ]; rfl)
              go_simp
              refine hK.out _ _ (by rw [← Hw5.out]; exact hc5) (fun hHeld => ?_)
              clear hK K
              try simp only [Act.put, List.setIfInBounds_toArray, List.set_cons_zero, List.set_cons_succ]
              refine wpAnyH_ready (rs := [3]) (by kernel_rfl) (by simp) ?_
              refine AllReadyH.cons (o := ?oiz11) ?hiz11 (fun K hK => ?stepz11) AllReadyH.nil
              case hiz11 => (simp only [List.getElem?_toArray, List.getElem?_cons_zero, List.getElem?_cons_succ]; rfl)
              go_simp
              rw [← Hw5.out]
              refine HWrite.out.mono ?_
              rintro e w6 ⟨rfl, hd6, hO6⟩
              have hA6 := hO6.1.blk hA5 HpG'.out
              have hc6 := (⟨hA6.cell (i := 0) rfl, hA6.cell (i := 1) rfl, hA6.cell (i := 2) rfl⟩ : _ ∧ _ ∧ _)
              refine hK.out _ _ hc6 (fun hHeld => ?_)
              clear hK K
              try simp only [Act.put, List.setIfInBounds_toArray, List.set_cons_zero, List.set_cons_succ]
              refine wpAnyH_take (i := 4) (oi := ?oiz12) (v := ?vz12) ?hiz12 ?haz12 ?hbz12 ?hcz12 ?hqz12 ?hyz12 (by assumption) ?restz12
              case hiz12 => (simp only [List.getElem?_toArray, List.getElem?_cons_zero, List.getElem?_cons_succ]; rfl)
              case haz12 => kernel_rfl
              case hbz12 => kernel_rfl
              case hcz12 => kernel_rfl
              case hyz12 => exact Or.inl ⟨by rfl, by (intro w hSw; (try dsimp only at hSw); go_split_ands; go_simp; (try with_reducible rfl))⟩
              case hqz12 => exact fun _ _ _ h => h
              try simp only [Act.put, List.setIfInBounds_toArray, List.set_cons_zero, List.set_cons_succ]
              refine wpAnyH_done (by kernel_rfl) ?_ _
              clear hHeld
              have hL6 := l3_step H2.out hO5 hd6 hO6
              clear hd6 hO6 hO5 hc6 hc5 hc4d HWrite Hw5
              by_cases hr0 : r1.1 = 0
              · rw [if_pos hr0] at hgo'
                rw [hr0]
                go_wp2_with fail
                go_roundw
                case rel => exact ⟨n + 1, cnt + 1, r1.2, by omega, by omega, by go_num, by go_num, by omega, hgo', by omega, hL6⟩
                case measure => simp [intOf]; omega
              · rw [if_neg hr0] at hgo'
                have er : r = (r1.1, 0, r1.2) := by rw [Hr.out]; unfold DS.jOpen; rw [if_neg (by omega), if_neg (by rw [ho]; decide), hgo', if_pos hr0]
                have Her := Lib.hid er
                obtain ⟨_, hd7, hO7⟩ := l3_end hL6 hOc hGlt
                obtain ⟨re, hre⟩ : ∃ re, re = r1.1 := ⟨_, rfl⟩
                have hne : (re != 0) = true := by simpa [hre] using hr0
                have Hend := Lib.hid (show ROpened G w c f m kind r (.returned (.tuple #[.pointer none, .int .i64 re])) w6 by
                  rw [er, hre]
                  exact Or.inl ⟨hr0, rfl, hd7, hO7⟩)
                rw [← hre]
                clear hr0 hgo' er hre hd7 hO7 hL6
                go_wp2_with fail
                go_ret2
                exact Hend.out
          · obtain rfl : m = n := by omega
            rw [Nat.sub_self] at hgo
            simp only [DS.wipeGo] at hgo
            obtain ⟨⟨G', h1, h2⟩, hd7, hO7⟩ := l3_end hL hOc hGlt
            have hpjG' : ¬ G' pj := fun hk => by rcases h2 pj hk with h | h; exact hpjG h; omega
            have hJr := hL.only.1.blk hJ hpjG
            have ha0 := hAr.cell (i := 0) rfl
            by_cases hc0 : cnt = 0
            · have er : r = (0, q, T) := by rw [Hr.out]; unfold DS.jOpen; rw [if_neg (by omega), if_neg (by rw [ho]; decide), hgo, if_neg (by simp), if_pos hc0, ← Hq.out]
              have Hend := Lib.hid (show ROpened G w c f m kind r (.returned (.tuple #[.pointer (some ⟨pj, 0, none⟩), .int .i64 0])) wr by
                rw [er]
                exact Or.inr ⟨rfl, pj, G', rfl, hpjl, hpjG', fun k hk => by rcases h2 k hk with h | h; exact Or.inl h; exact Or.inr (Nat.le_trans hOc.size h), hJr, h1, hO7⟩)
              subst hc0
              go_wp2_with fail
              go_ret2
              exact Hend.out
            · have hci : (0 : Int) < (cnt : Int) := by omega
              obtain ⟨r2, hr2⟩ : ∃ r2, r2 = T.flushOf := ⟨_, rfl⟩
              go_wp2_with fail
              refine (rflush_any G' wr c T h1 r2 hr2).mono ?_
              rintro e w6 ⟨rfl, hd6, hO6⟩
              have hO67 : Only G w w6 := hO7.trans hO6 (fun k hk hg => by rcases h2 k hg with h | h; exact h; have := hOc.size; omega)
              have hsz6 := hO6.size
              have h26 : ∀ k, More G' wr w6 k → G k ∨ wc.heap.size ≤ k := fun k hk => by rcases hk with hk | hk; exact h2 k hk; exact Or.inr (Nat.le_trans hL.only.size hk.1)
              by_cases hr0 : r2.1 = 0
              · have er : r = (0, q, r2.2) := by rw [Hr.out]; unfold DS.jOpen; rw [if_neg (by omega), if_neg (by rw [ho]; decide), hgo, if_neg (by simp), if_neg hc0]; simp only []; rw [← hr2, if_neg (by simp [hr0]), ← Hq.out]
                have Hend := Lib.hid (show ROpened G w c f m kind r (.returned (.tuple #[.pointer (some ⟨pj, 0, none⟩), .int .i64 0])) w6 by
                  rw [er]
                  exact Or.inr ⟨rfl, pj, More G' wr w6, rfl, hpjl, fun hk => by rcases h26 pj hk with h | h; exact hpjG h; omega, fun k hk => by rcases h26 k hk with h | h; exact Or.inl h; exact Or.inr (Nat.le_trans hOc.size h), hO6.blk hJr hpjG', hd6, hO67⟩)
                rw [hr0]
                go_wp2_with fail
                go_ret2
                exact Hend.out
              · have er : r = (r2.1, 0, r2.2) := by rw [Hr.out]; unfold DS.jOpen; rw [if_neg (by omega), if_neg (by rw [ho]; decide), hgo, if_neg (by simp), if_neg hc0]; simp only []; rw [← hr2, if_pos hr0]
                have hd8 : RD (More G w w6) w6 c r2.2 := hd6.mono (fun k hk hg => by rcases h26 k hg with h | h; exact Or.inl h; exact Or.inr ⟨Nat.le_trans hOc.size h, hk⟩) (fun k hk => by rcases hk with hk | hk; exact Nat.lt_of_lt_of_le (hGlt k hk) hO67.size; exact hk.2)
                obtain ⟨re, hre⟩ : ∃ re, re = r2.1 := ⟨_, rfl⟩
                have hne : (re != 0) = true := by simpa [hre] using hr0
                have Hend := Lib.hid (show ROpened G w c f m kind r (.returned (.tuple #[.pointer none, .int .i64 re])) w6 by
                  rw [er, hre]
                  exact Or.inl ⟨hr0, rfl, hd8, hO67⟩)
                rw [← hre]
                clear hr0 er hre hd8 hO67 hd6
                go_wp2_with fail
                go_ret2
                exact Hend.out

theorem rjopen_is (hmany : S.waits.length + m ≤ 1000000) :
    Calls Tryd.prog 40 #[.agg #[.pointer (some ⟨c, 0, none⟩), .int .i64 f, .int .i64 m], .int .i64 kind] w (ROpened G w c f m kind r) := by
  by_cases hbad : kind < 1 ∨ 255 < kind
  · exact rjopen_arg G w c S h f m hs hm1 hin kind hk r hr hbad
  · cases ho : S.off with
    | true => exact rjopen_off G w c S h f m hs hm1 hin kind hk r hr (by omega) ho
    | false => exact rjopen_on G w c S h f m hs hm1 hin kind hk r hr (by omega) ho hmany
end
end Go.Proofs.YteliebinhdphlaaDoor

/- The program's Take: its load is none of the disk's blocks. Written by genptake.py. -/
namespace Go.Proofs.YteliebinhdphlaaDoor
set_option maxRecDepth 100000
open Go.RowKit Go.Deep
set_option linter.unusedSimpArgs false
set_option linter.unusedVariables false
attribute [local irreducible] Tryd.zeroCells72

set_option maxHeartbeats 6400000 in
theorem parea_take2 (F : Nat → Prop) (w : World) (a d : Nat) (S : DS) (f m : Int) (h : PD F w d S) (ha : PArea w a d f m) (hne : ¬ F a) (hs : Spot f m) (hm1 : 1 ≤ m) (n kind : Int) (hn : -9223372036854775808 ≤ n ∧ n ≤ 9223372036854775807) (hk : -9223372036854775808 ≤ kind ∧ kind ≤ 9223372036854775807) (ht : Tabs w) (hTF : NoTabs F) (r : Int × List Int × Int × DS) (hr : r = S.arTake f m n kind) :
    Calls Tryd.prog 52 #[.pointer (some ⟨a, 0, none⟩), .int .i64 n, .int .i64 kind] w fun e w' => ∃ B cc F', e = .returned (.tuple #[.int .i64 r.1, .slice B r.2.1.length cc, .int .i64 r.2.2.1]) ∧ Sl w' B r.2.1.length (u8s r.2.1) ∧ r.2.1.length ≤ cc ∧ (∀ ad, B = some ad → w.heap.size ≤ ad.block ∧ ¬ F' ad.block) ∧ (∀ k, F' k → F k ∨ w.heap.size ≤ k) ∧ PD F' w' d r.2.2.2 ∧ Only F w w' := by
  obtain ⟨q, hq⟩ : ∃ q, q = S.arRead f m n := ⟨_, rfl⟩
  have hqb : Byte128 q.1 := by rw [hq]; exact arRead_byte h.wf f m n
  have Hrd := Lib.hid (parea_read F w a d S f m h ha hne hs hm1 n hn q hq)
  have Hq := Lib.hid hq
  have Hqb := Lib.hid hqb
  have Hr := Lib.hid hr
  have Ht := Lib.hid ht
  clear hr hq hqb h ha ht hs hm1 hn
  go_enter Tryd.func52, Tryd.ntmps52
  go_wp2_with fail
  refine Hrd.out.mono ?_
  rintro e w2 ⟨rfl, hd2, hO2⟩
  obtain ⟨w3, hw3, hb3, hR3, hth, hsA, hsL⟩ := arr_new w2 q.1 Hqb.out.1
  obtain ⟨qb, qe, qS⟩ := q
  have hO3 : Only F w w3 := hO2.trans (Only.of_below (F := F) hb3) (fun _ _ hk => hk)
  have hd3 : PD (More F w w3) w3 d qS := by
    have := hd2.only (Only.of_below (F := Nothing) hb3) (fun _ _ hk => hk)
    exact this.mono' (fun j hj => by rcases hj with hj | hj; exact Or.inl hj; exact Or.inr ⟨hj.1, Nat.lt_of_lt_of_le hj.2 hb3.size⟩) (fun j hj => by rcases hj with hj | hj; exact this.fin (Or.inl hj); exact hj.2)
  have Ht3 := Lib.hid (show Tabs w3 from Ht.out.only hO3 hTF)
  have Hw3 := Lib.hid hw3; have Hth := Lib.hid hth; have HR := Lib.hid hR3.range
  have hone := one_u8s qb
  have hsz2 := hO2.size
  have hsz3 := hO3.size
  clear hw3 hth hb3 hR3 hd2 hO2 Hrd
  simp only [] at hsA hsL hone Hw3 Hth HR Hqb ⊢
  by_cases he : qe = 0
  · subst he
    obtain ⟨o, ho⟩ : ∃ o, o = openOf qb kind := ⟨_, rfl⟩
    have e := Hr.out
    unfold DS.arTake at e; rw [← Hq.out, if_pos rfl, ← ho] at e
    have He := Lib.hid e
    have Hop := Lib.hid (popen_cap qb Hqb.out.1 Hqb.out.2 w3 Ht3.out kind hk o ho)
    clear e ho
    go_wp2_with (first
      | (refine wpList_store_mid rfl 72 (.tmp 9) (.tmp 14) rfl w2.heap.size 0 (u8s qb).toArray rfl rfl Hth.out hsA (all_oneCell_toArray hone) ?_; rw [show (u8s qb).toArray.toList = u8s qb from rfl, ← Hw3.out])
      | (refine wpList_load_mid rfl 72 (.tmp 9) rfl w2.heap.size 0 rfl (u8s qb) _ HR.out Tryd.underlying72 rfl hsL ?_))
    refine Hop.out.mono ?_
    rintro e w4 ⟨B, cc, rfl, hsl, hfr, hcl, hb4⟩
    go_wp2_with fail
    go_ret3
    rw [He.out]
    have hd4 := hd3.only (Only.of_below (F := Nothing) hb4) (fun _ _ hk => hk)
    exact ⟨B, cc, _, rfl, hsl, hcl, fun ad e => ⟨Nat.le_trans hsz3 (hfr ad e), fun hf => by have h9 := hfr ad e; rcases hf with hf | hf; exact absurd (hd3.fin (Or.inl hf)) (by omega); omega⟩, fun k hk => by rcases hk with hk | hk; exact Or.inl hk; exact Or.inr hk.1, hd4, hO3.trans (Only.of_below (F := F) hb4) (fun _ _ hk => hk)⟩
  · have e := Hr.out
    unfold DS.arTake at e; rw [← Hq.out, if_neg he] at e
    have He := Lib.hid e
    have hne : (qe != 0) = true := by simpa using he
    clear e he
    go_wp2_with (refine wpList_store_mid rfl 72 (.tmp 9) (.tmp 14) rfl w2.heap.size 0 (u8s qb).toArray rfl rfl Hth.out hsA (all_oneCell_toArray hone) ?_; rw [show (u8s qb).toArray.toList = u8s qb from rfl, ← Hw3.out])
    go_ret3
    rw [He.out]
    first | exact ⟨none, 0, _, rfl, Sl.nil_ _ _, Nat.le_refl _, fun _ e => (by cases e), fun k hk => (by rcases hk with hk | hk; exact Or.inl hk; exact Or.inr hk.1), hd3, hO3⟩ | exact ⟨none, 0, rfl, Sl.nil_ _ _, Nat.zero_le _, _, fun _ e => (by cases e), fun k hk => (by rcases hk with hk | hk; exact Or.inl hk; exact Or.inr hk.1), hd3, hO3⟩
end Go.Proofs.YteliebinhdphlaaDoor

/- The program's journal: all but Open. -/
namespace Go.Proofs.YteliebinhdphlaaDoor
set_option maxRecDepth 100000
open Go.RowKit Go.Deep
set_option linter.unusedSimpArgs false
set_option linter.unusedVariables false

/-- The program's journal at j, of the area at a. -/
def PJ (w : World) (j a : Nat) (kind : Int) (next : Nat) : Prop := Blk w j 70 [.pointer (some ⟨a, 0, none⟩), .int .i64 kind, .int .i64 next]
theorem PJ.lt {w : World} {j a : Nat} {kind : Int} {next : Nat} (h : PJ w j a kind next) : j < w.heap.size := Blk.lt h
theorem PJ.kept {w w' : World} {j a : Nat} {kind : Int} {next : Nat} (h : PJ w j a kind next) (e : w'.heap[j]? = w.heap[j]?) : PJ w' j a kind next := Blk.kept h e
theorem PJ.ne {w : World} {j a b : Nat} {kind : Int} {next : Nat} {t : TypeId} {vs : List Value} (h : PJ w j a kind next) (hb : Blk w b t vs) (ht : t ≠ 70) : b ≠ j := Blk.ne hb h ht

theorem jnone_nil (w : World) : Calls Tryd.prog 29 #[.pointer none] w fun e w' => e = .returned (.bool true) ∧ w' = w := by
  go_enter Tryd.func29, Tryd.ntmps29
  go_wp2
  go_ret
  exact ⟨rfl, rfl⟩
theorem jnone_is (w : World) (j a : Nat) (kind : Int) (next : Nat) (hj : PJ w j a kind next) : Calls Tryd.prog 29 #[.pointer (some ⟨j, 0, none⟩)] w fun e w' => e = .returned (.bool false) ∧ w' = w := by
  have hc0 := Blk.cell hj (i := 0) rfl
  go_enter Tryd.func29, Tryd.ntmps29
  go_wp2
  go_ret
  exact ⟨rfl, rfl⟩
theorem npj_add (w : World) : Calls Tryd.prog 7 #[.pointer none, .slice none 0 0] w fun e w' => e = .returned (.tuple #[.int .i64 0, .int .i64 1]) ∧ Below w.heap.size w w' := by
  go_enter Tryd.func7, Tryd.ntmps7
  go_wp2_with fail
  refine (jnone_nil w).mono ?_
  rintro e w1 ⟨rfl, hw⟩
  obtain rfl := hw.symm
  go_wp2_with fail
  go_ret2
  exact ⟨rfl, Below.refl _ _⟩
theorem npj_len (w : World) : Calls Tryd.prog 8 #[.pointer none] w fun e w' => e = .returned (.int .i64 0) ∧ Below w.heap.size w w' := by
  go_enter Tryd.func8, Tryd.ntmps8
  go_wp2
  go_ret
  exact ⟨rfl, Below.refl _ _⟩
theorem npj_room (w : World) : Calls Tryd.prog 9 #[.pointer none] w fun e w' => e = .returned (.int .i64 0) ∧ Below w.heap.size w w' := by
  go_enter Tryd.func9, Tryd.ntmps9
  go_wp2_with fail
  refine (jnone_nil w).mono ?_
  rintro e w1 ⟨rfl, hw⟩
  obtain rfl := hw.symm
  go_wp2_with fail
  go_ret
  exact ⟨rfl, Below.refl _ _⟩
theorem npj_flush (w : World) : Calls Tryd.prog 10 #[.pointer none] w fun e w' => e = .returned (.int .i64 1) ∧ Below w.heap.size w w' := by
  go_enter Tryd.func10, Tryd.ntmps10
  go_wp2_with fail
  refine (jnone_nil w).mono ?_
  rintro e w1 ⟨rfl, hw⟩
  obtain rfl := hw.symm
  go_wp2_with fail
  go_ret
  exact ⟨rfl, Below.refl _ _⟩
section
variable (F : Nat → Prop) (w : World) (a d : Nat) (S : DS) (f m : Nat) (h : PD F w d S) (ha : PArea w a d f m) (hne : ¬ F a) (hs : Spot f m) (hm1 : 1 ≤ m) (hin : f + m ≤ S.kept.length) (ht : Tabs w) (hTF : NoTabs F)
variable (j : Nat) (kind : Int) (next : Nat) (hj : PJ w j a kind next) (hjF : ¬ F j) (hnext : next ≤ m) (hk : 1 ≤ kind ∧ kind ≤ 255)
include h ha hne hs hm1 hin ht hTF hj hjF hnext hk
theorem pjlen_is :
    Calls Tryd.prog 8 #[.pointer (some ⟨j, 0, none⟩)] w fun e w' => e = .returned (.int .i64 next) ∧ Below w.heap.size w w' := by
  have hUse : True := (fun _ _ _ _ _ _ _ _ _ _ _ => True.intro) h ha hne hs hm1 hin ht hTF hjF hnext hk
  clear hUse
  have hc2 := Blk.cell hj (i := 2) rfl
  go_enter Tryd.func8, Tryd.ntmps8
  go_wp2
  go_ret
  exact ⟨rfl, Below.refl _ _⟩
theorem pjflush_is (r : Int × DS) (hr : r = S.flushOf) :
    Calls Tryd.prog 10 #[.pointer (some ⟨j, 0, none⟩)] w fun e w' => e = .returned (.int .i64 r.1) ∧ PD (More F w w') w' d r.2 ∧ Only F w w' := by
  have hUse : True := (fun _ _ _ _ _ _ => True.intro) hin ht hTF hjF hnext hk
  clear hUse
  have hc0 := Blk.cell hj (i := 0) rfl
  have Hn := Lib.hid (jnone_is w j a kind next hj)
  have Hf := Lib.hid (parea_flush F w a d S f m h ha hne hs (by omega) r hr)
  clear hr
  go_enter Tryd.func10, Tryd.ntmps10
  go_wp2_with fail
  refine Hn.out.mono ?_
  rintro e w1 ⟨rfl, hw⟩
  obtain rfl := hw.symm
  go_wp2_with fail
  refine Hf.out.mono ?_
  rintro e w2 ⟨rfl, hd, hO⟩
  go_wp2_with fail
  go_ret
  exact ⟨rfl, hd, hO⟩
set_option maxHeartbeats 1600000 in
theorem pjroom_is :
    Calls Tryd.prog 9 #[.pointer (some ⟨j, 0, none⟩)] w fun e w' => e = .returned (.int .i64 ((m : Int) - next)) ∧ Below w.heap.size w w' := by
  have hUse : True := (fun _ _ _ _ _ => True.intro) hin ht hTF hjF hk
  clear hUse
  have hc0 := Blk.cell hj (i := 0) rfl
  have hc2 := Blk.cell hj (i := 2) rfl
  have hm8 := hs.2.2.2
  have Hn := Lib.hid (jnone_is w j a kind next hj)
  have Hm := Lib.hid (parea_many F w.drew a d S f m h.drew (ha.kept rfl) hne hs (by omega))
  have hwn : IntKind.i64.wrap ((m : Int) - (next : Int)) = (m : Int) - (next : Int) := by rw [IntKind.wrap_i64]; omega
  have hcq : w.cell? ⟨j, 0, none⟩ = some (.pointer (some ⟨a, 0, none⟩)) ∧ w.cell? ⟨j, 2, none⟩ = some (.int .i64 next) := ⟨hc0, hc2⟩
  go_enter Tryd.func9, Tryd.ntmps9
  go_wp2_with fail
  refine Hn.out.mono ?_
  rintro e w1 ⟨rfl, hw⟩
  obtain rfl := hw.symm
  go_upto_region 3 with fail
  go_region_held3 (fun w' => w'.cell? ⟨j, 0, none⟩ = some (.pointer (some ⟨a, 0, none⟩)) ∧ w'.cell? ⟨j, 2, none⟩ = some (.int .i64 next))
    (first | exact hcq | exact hcr)
    (first
      | (go_at_call 31; refine Hm.out.mono ?_; rintro e w2 ⟨rfl, hO2x⟩;
         have hb2 : Below w.heap.size w w2 := (hO2x.undrew).below (Nat.le_refl _) (fun _ hk => hk.elim);
         have hj2 : PJ w2 j a kind next := hj.kept (hb2.block _ hj.lt);
         have hcr : w2.cell? ⟨j, 0, none⟩ = some (.pointer (some ⟨a, 0, none⟩)) ∧ w2.cell? ⟨j, 2, none⟩ = some (.int .i64 next) := ⟨Blk.cell hj2 (i := 0) rfl, Blk.cell hj2 (i := 2) rfl⟩))
  go_wp2_with fail
  go_ret
  exact ⟨rfl, hb2⟩
end
end Go.Proofs.YteliebinhdphlaaDoor

/- The program's journal: Get, Add. -/
namespace Go.Proofs.YteliebinhdphlaaDoor
set_option maxRecDepth 100000
open Go.RowKit Go.Deep
set_option linter.unusedSimpArgs false
set_option linter.unusedVariables false

section
variable (F : Nat → Prop) (w : World) (a d : Nat) (S : DS) (f m : Nat) (h : PD F w d S) (ha : PArea w a d f m) (hne : ¬ F a) (hs : Spot f m) (hm1 : 1 ≤ m) (hin : f + m ≤ S.kept.length) (ht : Tabs w) (hTF : NoTabs F)
variable (j : Nat) (kind : Int) (next : Nat) (hj : PJ w j a kind next) (hjF : ¬ F j) (hnext : next ≤ m) (hk : 1 ≤ kind ∧ kind ≤ 255)
include h ha hne hs hm1 hin ht hTF hj hjF hnext hk
set_option maxHeartbeats 3200000 in
theorem pjget_is (n : Int) (hn : -9223372036854775808 ≤ n ∧ n ≤ 9223372036854775807) (r : List Int × Int × DS) (hr : r = S.jGet f m kind next n) :
    Calls Tryd.prog 28 #[.pointer (some ⟨j, 0, none⟩), .int .i64 n] w fun e w' => ∃ B cc F', e = .returned (.tuple #[.slice B r.1.length cc, .int .i64 r.2.1]) ∧ Sl w' B r.1.length (u8s r.1) ∧ (∀ ad, B = some ad → w.heap.size ≤ ad.block ∧ ¬ F' ad.block) ∧ (∀ k, F' k → F k ∨ w.heap.size ≤ k) ∧ PD F' w' d r.2.2 ∧ Only F w w' := by
  have hUse : True := (fun _ _ => True.intro) hin hnext
  clear hUse
  have hc0 := Blk.cell hj (i := 0) rfl
  have hc1 := Blk.cell hj (i := 1) rfl
  have hc2 := Blk.cell hj (i := 2) rfl
  have Hn := Lib.hid (jnone_is w j a kind next hj)
  have Hr := Lib.hid hr
  clear hr
  have hbad : (n < 0 ∨ (next : Int) ≤ n) → r = ([], 54, S) := fun hb => by have e := Hr.out; unfold DS.jGet at e; rw [if_pos hb] at e; exact e
  have Hbad := Lib.hid hbad
  clear hbad
  by_cases h0 : n < 0
  · have He := Lib.hid (Hbad.out (Or.inl h0))
    go_enter Tryd.func28, Tryd.ntmps28
    go_wp2_with fail
    refine Hn.out.mono ?_
    rintro e w1 ⟨rfl, hw⟩
    obtain rfl := hw.symm
    go_wp2_with fail
    go_ret2
    rw [He.out]
    first | exact ⟨none, 0, F, rfl, Sl.nil_ _ _, fun ad e => (by cases e), fun k hk => Or.inl hk, h, Only.refl _ _⟩ | exact ⟨none, ⟨0, rfl⟩, Sl.nil_ _ _, F, fun ad e => (by cases e), fun k hk => Or.inl hk, h, Only.refl _ _⟩
  by_cases h1 : (next : Int) ≤ n
  · have He := Lib.hid (Hbad.out (Or.inr h1))
    go_enter Tryd.func28, Tryd.ntmps28
    go_wp2_with fail
    refine Hn.out.mono ?_
    rintro e w1 ⟨rfl, hw⟩
    obtain rfl := hw.symm
    go_wp2_with fail
    go_ret2
    rw [He.out]
    first | exact ⟨none, 0, F, rfl, Sl.nil_ _ _, fun ad e => (by cases e), fun k hk => Or.inl hk, h, Only.refl _ _⟩ | exact ⟨none, ⟨0, rfl⟩, Sl.nil_ _ _, F, fun ad e => (by cases e), fun k hk => Or.inl hk, h, Only.refl _ _⟩
  have e := Hr.out
  unfold DS.jGet at e; rw [if_neg (by omega)] at e
  obtain ⟨t, ht'⟩ : ∃ t, t = S.arTake f m n kind := ⟨_, rfl⟩
  rw [← ht'] at e
  have He := Lib.hid e
  have Htake := Lib.hid (parea_take2 F w.drew a d S f m h.drew (ha.kept rfl) hne hs (by omega) n kind hn (by omega) (ht.below (Below.refl _ _).drew) hTF t ht')
  have hcq : w.cell? ⟨j, 0, none⟩ = some (.pointer (some ⟨a, 0, none⟩)) ∧ w.cell? ⟨j, 1, none⟩ = some (.int .i64 kind) := ⟨hc0, hc1⟩
  clear e ht' h ha ht
  go_enter Tryd.func28, Tryd.ntmps28
  go_wp2_with fail
  refine Hn.out.mono ?_
  rintro e w1 ⟨rfl, hw⟩
  obtain rfl := hw.symm
  go_upto_region 5 with fail
  go_region_held3 (fun w' => w'.cell? ⟨j, 0, none⟩ = some (.pointer (some ⟨a, 0, none⟩)) ∧ w'.cell? ⟨j, 1, none⟩ = some (.int .i64 kind))
    (first | exact hcq | exact hcr)
    (first
      | (go_at_call 52; refine Htake.out.mono ?_; rintro e w2 ⟨B, cc, F', rfl, hsl, _, hB, hF', hd2, hO2x⟩;
         have hO2 := hO2x.undrew;
         have hj2 : PJ w2 j a kind next := hj.kept (hO2.block j hj.lt hjF);
         have hcr : w2.cell? ⟨j, 0, none⟩ = some (.pointer (some ⟨a, 0, none⟩)) ∧ w2.cell? ⟨j, 1, none⟩ = some (.int .i64 kind) := ⟨Blk.cell hj2 (i := 0) rfl, Blk.cell hj2 (i := 1) rfl⟩))
  have hB' : ∀ ad, B = some ad → w.heap.size ≤ ad.block ∧ ¬ F' ad.block := hB
  have hF2 : ∀ k, F' k → F k ∨ w.heap.size ≤ k := hF'
  obtain ⟨tn, tl, te, tS⟩ := t
  simp only [] at hsl hd2 He ⊢
  clear hO2x Htake hcq hcr hB hF'
  by_cases hte : te = 0
  · subst hte
    have e := He.out
    rw [if_neg (by simp)] at e
    by_cases htn : tn = n
    · subst htn
      rw [if_neg (by simp)] at e
      have He := Lib.hid e
      clear e
      go_wp2_with fail
      go_ret2
      rw [He.out]
      first | exact ⟨B, cc, F', rfl, hsl, hB', hF2, hd2, hO2⟩ | exact ⟨B, ⟨cc, rfl⟩, hsl, F', hB', hF2, hd2, hO2⟩
    · rw [if_pos htn] at e
      have He := Lib.hid e
      have hne : (tn != n) = true := by simpa using htn
      clear e htn
      go_wp2_with fail
      go_ret2
      rw [He.out]
      first | exact ⟨none, 0, F', rfl, Sl.nil_ _ _, fun ad e => (by cases e), hF2, hd2, hO2⟩ | exact ⟨none, ⟨0, rfl⟩, Sl.nil_ _ _, F', fun ad e => (by cases e), hF2, hd2, hO2⟩
  · have e := He.out
    rw [if_pos hte] at e
    have He := Lib.hid e
    have hne : (te != 0) = true := by simpa using hte
    clear e hte
    go_wp2_with fail
    go_ret2
    rw [He.out]
    first | exact ⟨none, 0, F', rfl, Sl.nil_ _ _, fun ad e => (by cases e), hF2, hd2, hO2⟩ | exact ⟨none, ⟨0, rfl⟩, Sl.nil_ _ _, F', fun ad e => (by cases e), hF2, hd2, hO2⟩

set_option maxHeartbeats 3200000 in
theorem pjadd_is (A : Option Addr) (n cc : Nat) (load : List Int) (hx : Sl w A n (u8s load)) (hb : Bytes load) (hn : n ≤ 9223372036854775807) (hmany : S.waits.length ≤ 1000000) (r : Int × Int × Nat × DS) (hr : r = S.jAdd f m kind next load) :
    Calls Tryd.prog 7 #[.pointer (some ⟨j, 0, none⟩), .slice A n cc] w fun e w' => e = .returned (.tuple #[.int .i64 r.1, .int .i64 r.2.1]) ∧ PJ w' j a kind r.2.2.1 ∧ PD (More F w w') w' d r.2.2.2 ∧ Only (fun k => F k ∨ k = j) w w' := by
  have hc0 := Blk.cell hj (i := 0) rfl
  have hc1 := Blk.cell hj (i := 1) rfl
  have hc2 := Blk.cell hj (i := 2) rfl
  have hm := hs.2.2.2
  have hlen : load.length = n := by simpa using hx.1
  have hjl := hj.lt
  have Hn := Lib.hid (jnone_is w j a kind next hj)
  have Hr := Lib.hid hr
  clear hr
  by_cases h0 : 113 < n
  · have e := Hr.out
    unfold DS.jAdd at e; rw [if_pos (by omega)] at e
    have He := Lib.hid e
    have h0i : (113 : Int) < (n : Int) := by omega
    clear e
    go_enter Tryd.func7, Tryd.ntmps7
    go_wp2_with fail
    refine Hn.out.mono ?_
    rintro e w1 ⟨rfl, hw⟩
    obtain rfl := hw.symm
    go_wp2_with fail
    go_ret2
    rw [He.out]
    exact ⟨rfl, hj, more_pd h, Only.refl _ _⟩
  have h0i : (n : Int) ≤ 113 := by omega
  have HR := Lib.hid (pjroom_is F w a d S f m h ha hne hs hm1 hin ht hTF j kind next hj hjF hnext hk)
  go_enter Tryd.func7, Tryd.ntmps7
  go_wp2_with fail
  refine Hn.out.mono ?_
  rintro e w1 ⟨rfl, hw⟩
  obtain rfl := hw.symm
  go_wp2_with fail
  refine HR.out.mono ?_
  rintro e w2 ⟨rfl, hb2⟩
  have hj2 := hj.kept (hb2.block _ hj.lt)
  have h2 := h.only (Only.of_below (F := Nothing) hb2) (fun _ _ hk => hk)
  have ha2 := ha.kept (hb2.block _ ha.lt)
  have hx2 := hx.below hb2
  have ht2 := ht.below hb2
  clear HR h ha hx ht hj hc0 hc1 hc2
  by_cases h1 : m ≤ next
  · have e := Hr.out
    unfold DS.jAdd at e; rw [if_neg (by omega), if_pos h1] at e
    have He := Lib.hid e
    obtain rfl : m = next := by omega
    have hz : ((m : Int) - (m : Int) == 0) = true := by simp
    clear e
    go_wp2_with fail
    go_ret2
    rw [He.out]
    exact ⟨rfl, hj2, more_pd h2, Only.of_below hb2⟩
  have e := Hr.out
  unfold DS.jAdd at e; rw [if_neg (by omega), if_neg h1] at e
  obtain ⟨t, ht'⟩ : ∃ t, t = S.arPut f m next kind next load := ⟨_, rfl⟩
  rw [← ht'] at e
  have He := Lib.hid e
  have h1i : ((m : Int) - (next : Int) == 0) = false := by simp; omega
  have hc2 := Blk.cell hj2 (i := 2) rfl
  have Hput := Lib.hid (parea_put F w2.drew a d S f m h2.drew (ha2.kept rfl) hne hs (by omega) next kind next (by omega) (by omega) (by omega) (ht2.below (Below.refl _ _).drew) A n cc load (hx2.below (Below.refl _ _).drew) hb hn hmany t ht')
  have hcq : w2.cell? ⟨j, 0, none⟩ = some (.pointer (some ⟨a, 0, none⟩)) ∧ w2.cell? ⟨j, 1, none⟩ = some (.int .i64 kind) := ⟨Blk.cell hj2 (i := 0) rfl, Blk.cell hj2 (i := 1) rfl⟩
  clear e ht' h2 ha2 hx2 ht2
  go_upto_region 8 with fail
  go_region_held3 (fun w' => w'.cell? ⟨j, 0, none⟩ = some (.pointer (some ⟨a, 0, none⟩)) ∧ w'.cell? ⟨j, 1, none⟩ = some (.int .i64 kind))
    (first | exact hcq | exact hcr)
    (first
      | (go_at_call 30; refine Hput.out.mono ?_; rintro e w3 ⟨rfl, hd3, hO3x⟩;
         have hO3 := hO3x.undrew;
         have hj3 : PJ w3 j a kind next := hj2.kept (hO3.block j hj2.lt hjF);
         have hcr : w3.cell? ⟨j, 0, none⟩ = some (.pointer (some ⟨a, 0, none⟩)) ∧ w3.cell? ⟨j, 1, none⟩ = some (.int .i64 kind) := ⟨Blk.cell hj3 (i := 0) rfl, Blk.cell hj3 (i := 1) rfl⟩))
  have hd4 : PD (More F w2 w3) w3 d t.2 := hd3
  have hd5 : PD (More F w w3) w3 d t.2 := pd_wide hd4 hb2.size
  have hO23 : Only F w w3 := (Only.of_below hb2).trans hO3 (fun _ _ hk => hk)
  obtain ⟨te, tS⟩ := t
  simp only [] at hd5 He ⊢
  clear hcq hcr hO3x hd3 hd4 Hput hc2
  by_cases hte : te = 0
  · subst hte
    have e := He.out
    rw [if_neg (by simp)] at e
    have He := Lib.hid e
    have hc2 := Blk.cell hj3 (i := 2) rfl
    have hf2 := Blk.frozen hj3 2
    have hsum : IntKind.i64.wrap ((next : Int) + 1) = (next : Int) + 1 := by rw [IntKind.wrap_i64]; omega
    obtain ⟨w4, hw4⟩ : ∃ w4, w4 = w3.setCell ⟨j, 2, none⟩ (.int .i64 ((next : Int) + 1)) := ⟨_, rfl⟩
    have hj4 : PJ w4 j a kind (next + 1) := by rw [hw4]; exact Blk.set hj3 2 _
    have hjG : ¬ More F w w3 j := fun hk => by rcases hk with hk | hk; exact hjF hk; have := hjl; omega
    have hO4 : Only (fun k => k = j) w3 w4 := by rw [hw4]; exact (Only.refl (fun k => k = j) w3).set (a := ⟨j, 2, none⟩) (Or.inr rfl) _
    have hd6 : PD (More F w w3) w4 d tS := hd5.only hO4 (fun k hk e => hjG (e ▸ hk))
    have hd7 : PD (More F w w4) w4 d tS := hd6.mono' (fun k hg => by rcases hg with hg | hg; exact Or.inl hg; exact Or.inr ⟨hg.1, Nat.lt_of_lt_of_le hg.2 hO4.size⟩) (fun k hk => by rcases hk with hk | hk; exact hd6.fin (Or.inl hk); exact hk.2)
    have hO24 : Only (fun k => F k ∨ k = j) w w4 := (hO23.mono (fun _ _ hk => Or.inl hk)).trans hO4 (fun _ _ hk => Or.inr hk)
    have Hw4 := Lib.hid hw4
    clear e hw4 hO4 hd5 hd6 hO23
    go_upto_region 12 with fail
    rw [← Hw4.out]
    go_wp2_with fail
    go_ret2
    rw [He.out]
    exact ⟨rfl, hj4, hd7, hO24⟩
  · have e := He.out
    rw [if_pos hte] at e
    have He := Lib.hid e
    have hne : (te != 0) = true := by simpa using hte
    clear e hte
    go_wp2_with fail
    go_ret2
    rw [He.out]
    exact ⟨rfl, hj3, hd5, hO23.mono (fun _ _ hk => Or.inl hk)⟩
end
end Go.Proofs.YteliebinhdphlaaDoor

/- The program's journal: all sectors read, the records among them, what is wiped. -/
namespace Go.Proofs.YteliebinhdphlaaDoor
set_option maxRecDepth 100000
open Go.RowKit Go.Deep
set_option linter.unusedSimpArgs false
set_option linter.unusedVariables false
attribute [local irreducible] Tryd.zeroCells72

/-- Of m arrays side by side the first k are these. -/
def RowsAt (vs : List Value) (m : Nat) (row : Nat → List Int) (k : Nat) : Prop := vs.length = m * 128 ∧ ∀ j, j < k → (row j).length = 128 ∧ ∀ i v, (u8s (row j))[i]? = some v → vs[j * 128 + i]? = some v
theorem RowsAt.step {vs : List Value} {m k : Nat} {row : Nat → List Int} (h : RowsAt vs m row k) (hk : k < m) (hl : (row k).length = 128) : RowsAt (vs.take (k * 128) ++ u8s (row k) ++ vs.drop (k * 128 + (u8s (row k)).length)) m row (k + 1) := by
  have hu : (u8s (row k)).length = 128 := by rw [List.length_map, hl]
  have h1 := h.1
  have htl : (vs.take (k * 128)).length = k * 128 := by rw [List.length_take]; omega
  refine ⟨by rw [List.length_append, List.length_append, htl, hu, List.length_drop]; omega, fun j hj => ?_⟩
  by_cases e : j = k
  · subst e
    refine ⟨hl, fun i v hv => ?_⟩
    have hi : i < (u8s (row j)).length := (List.getElem?_eq_some_iff.1 hv).1
    rw [List.getElem?_append_left (by rw [List.length_append, htl]; omega), List.getElem?_append_right (by omega), htl, Nat.add_sub_cancel_left]
    exact hv
  · have hjk : j < k := by omega
    obtain ⟨hl2, h2⟩ := h.2 j hjk
    refine ⟨hl2, fun i v hv => ?_⟩
    have hi : i < (u8s (row j)).length := (List.getElem?_eq_some_iff.1 hv).1
    rw [List.length_map, hl2] at hi
    rw [List.getElem?_append_left (by rw [List.length_append, htl]; omega), List.getElem?_append_left (by rw [htl]; omega), List.getElem?_take, if_pos (by omega)]
    exact h2 i v hv
theorem RowsAt.range {w : World} {g : Nat} {t : TypeId} {vs : List Value} {m k j : Nat} {row : Nat → List Int} (h : RowsAt vs m row k) (hb : Blk w g t vs) (hj : j < k) : w.rangeAt g (j * 128) (u8s (row j)) := fun i v hv => hb.cell ((h.2 j hj).2 i v hv)
theorem rows_there {w : World} {g m k : Nat} {t : TypeId} {vs : List Value} (hb : Blk w g t vs) (hl : vs.length = m * 128) (hk : k < m) : w.there g (k * 128) 128 := fun j hj => by
  exact ⟨by rw [hb.cell (List.getElem?_eq_getElem (show k * 128 + j < vs.length by rw [hl]; omega))]; rfl, hb.frozen _⟩

theorem info_arr : (Tryd.prog.info? 72).map (fun i => (i.zero, i.size, i.bytes)) = some (some (.agg Tryd.zeroCells72), 128, 128) := by kernel_rfl
theorem wpList_rows {P : Program} {w : World} {ops : Array Oper} {rest : List Oper} {o : Oper} {a : Act} {Q : Exit → Act → World → Prop} (hgd : o.guard = none) (l c : Operand) (t : TypeId) (hop : o.op = Op.makeSlice t l c)
    (e : TypeId) (i : TypeInfo) (z : Value) (size : Nat) (h1 : P.underlying t = some (.slice e)) (h2 : P.info? e = some i) (h3 : i.zero = some z) (h4 : i.size = size)
    (n : Nat) (hl : a.eval l = .int .i64 (n : Int)) (hc : a.eval c = .int .i64 (n : Int)) (hb : (i.bytes : Int) * (n : Int) ≤ 281474976710656) (hn : n ≤ 1000000)
    (hK : wpList P ops Q rest (a.put o.dst (.slice (some ⟨w.heap.size, 0, none⟩) n n)) (w.alloc (.cells (madeCells z.cells (n * size)) e))) : wpList P ops Q (o :: rest) a w := by
  refine wpList_plain hgd fun K hK2 => ?_
  subst h4
  have hr := run_make (P := P) w t e i z h1 h2 h3 .i64 .i64 n n (by omega) (Int.le_refl _) hb (by omega)
  simp only [Int.toNat_natCast] at hr
  unfold Oper.wp
  simp [execOp, hop, hl, hc, hr, Result.andThen]
  exact hK2 _ _ hK

section
variable (F : Nat → Prop) (w : World) (a d : Nat) (S : DS) (f m : Nat) (h : PD F w d S) (ha : PArea w a d f m) (hne : ¬ F a) (hs : Spot f m) (hm1 : 1 ≤ m) (hin : f + m ≤ S.kept.length)
include h ha hne hs hm1 hin
set_option maxHeartbeats 3200000 in
theorem pjread_on (ho : S.off = false) :
    Calls Tryd.prog 34 #[.pointer (some ⟨a, 0, none⟩)] w fun e w' => ∃ g vs F', e = .returned (.tuple #[.slice (some ⟨g, 0, none⟩) m m, .int .i64 0]) ∧ w.heap.size ≤ g ∧ ¬ F' g ∧ (∀ k, F' k → F k ∨ w.heap.size ≤ k) ∧ Blk w' g 72 vs ∧ RowsAt vs m (S.rowAt f) m ∧ PD F' w' d (S.reads m) ∧ Only F w w' := by
  have hm8 : m ≤ 8192 := by have := hs.2.2.2; omega
  have Hm := Lib.hid (parea_many F w a d S f m h ha hne hs (by omega))
  obtain ⟨ip, hip, hzp, hsp, hbp⟩ := info_parts' info_arr
  have Hb := Lib.hid hbp
  clear hbp
  go_enter Tryd.func34, Tryd.ntmps34
  go_wp2_with fail
  refine Hm.out.mono ?_
  rintro e w1 ⟨rfl, hO1⟩
  have hb1 : Below w.heap.size w w1 := hO1.below (Nat.le_refl _) (fun _ hk => hk.elim)
  go_wp2_with (refine wpList_rows rfl (.tmp 9) (.tmp 9) 75 rfl 72 ip (.agg Tryd.zeroCells72) 128 Tryd.underlying75 hip hzp hsp m (by simp [Act.eval]) (by simp [Act.eval]) (by rw [Hb.out]; omega) (by omega) ?_)
  obtain ⟨zc, hzc⟩ : ∃ zc, zc = madeCells Tryd.zeroCells72 (m * 128) := ⟨_, rfl⟩
  have hzl : zc.toList.length = m * 128 := by rw [hzc]; simp [madeCells]
  rw [← hzc]
  obtain ⟨w2, hw2⟩ : ∃ w2, w2 = w1.alloc (.cells zc 72) := ⟨_, rfl⟩
  obtain ⟨g, hg⟩ : ∃ g, g = w1.heap.size := ⟨_, rfl⟩
  have hB2 : Blk w2 g 72 zc.toList := by rw [hw2, hg]; exact Blk.new w1 72 zc.toList
  have hb2 : Below w.heap.size w w2 := by rw [hw2]; exact hb1.trans ((below_alloc _ _).mono hb1.size)
  have hgw : w.heap.size ≤ g := by rw [hg]; exact hb1.size
  rw [← hw2, ← hg]
  have hFlt : ∀ k, F k → k < w.heap.size := fun k hk => h.fin hk
  have hal := ha.lt
  have h2 : PD F w2 d S := h.only (Only.of_below (F := Nothing) hb2) (fun _ _ hk => hk)
  have hgF : ¬ F g := fun hk => by have := hFlt g hk; omega
  have ha' : ∀ wr, Only F w wr → PArea wr a d f m := fun wr hO => hO.blk ha hne
  have Ha := Lib.hid ha'
  have Hzl := Lib.hid hzl
  have hmd := Lib.hid h.wf
  clear h ha hw2 hg hb1 hO1 hzc Hm hzl ha'
  go_loopw [13] (fun i wr => ∃ (k : Nat) (vs : List Value) (F' : Nat → Prop), k ≤ m ∧ i = .int .i64 (k : Int) ∧ Blk wr g 72 vs ∧ RowsAt vs m (S.rowAt f) k ∧ PD F' wr d (S.reads k) ∧ (∀ b, F' b → F b ∨ w.heap.size ≤ b) ∧ ¬ F' g ∧ Only F w wr) (fun i _ => m - (intOf i).toNat)
  case atStart => exact ⟨0, zc.toList, F, Nat.zero_le _, rfl, hB2, ⟨Hzl.out, fun j hj => by omega⟩, h2, fun k hk => Or.inl hk, hgF, Only.of_below hb2⟩
  case round =>
    obtain ⟨k, vs, F', hkm, rfl, hB, hR, hd, hF', hgF', hO⟩ := hrel
    by_cases hlt : k < m
    · have hlti : (k : Int) < (m : Int) := by omega
      have hk0 : (0 : Int) ≤ (k : Int) := by omega
      obtain ⟨bs, hbs⟩ : ∃ bs, bs = S.rowAt f k := ⟨_, rfl⟩
      have hbb : Byte128 bs := by rw [hbs]; exact at_byte hmd.out (by omega)
      have hne' : ¬ F' a := fun hk => by rcases hF' a hk with h | h; exact hne h; omega
      have her : (bs, (0 : Int), S.reads (k + 1)) = (S.reads k).arRead f m k := by
        obtain ⟨e1, _, _, _, _, e6⟩ := reads_same S k
        unfold DS.arRead DS.readOf
        rw [if_neg (by omega), e6, if_neg (by rw [ho]; decide), e1, if_neg (by omega), reads_at, hbs]
        rfl
      have HRd := Lib.hid (parea_read F' wr a d (S.reads k) f m hd (Ha.out wr hO) hne' hs (by omega) k (by omega) (bs, 0, S.reads (k + 1)) her)
      have Hlen := Lib.hid hbb.1
      have Hbs := Lib.hid hbs
      clear her hbb hbs
      go_wp2_with fail
      refine HRd.out.mono ?_
      rintro e w3 ⟨rfl, hd3, hO3⟩
      have hB3 : Blk w3 g 72 vs := hO3.blk hB hgF'
      have hgl : g < w3.heap.size := hB3.lt
      have hgl0 : g < wr.heap.size := hB.lt
      have hgM : ¬ More F' wr w3 g := fun hk => by rcases hk with hk | hk; exact hgF' hk; omega
      obtain ⟨w4, hw4, hb4, hR4, hth, hsA, hsL⟩ := arr_new w3 bs Hlen.out
      have hB4 : Blk w4 g 72 vs := hB3.kept (hb4.block _ hgl)
      have hd4 : PD (More F' wr w3) w4 d (S.reads (k + 1)) := hd3.only (Only.of_below (F := Nothing) hb4) (fun _ _ hk => hk)
      have hone := one_u8s bs
      have Hth := Lib.hid hth
      have Hth4 := Lib.hid (show w4.there g (k * 128) (u8s bs).toArray.size from (by rw [List.size_toArray, List.length_map, Hlen.out]; exact rows_there hB4 hR.1 hlt))
      have HR4 := Lib.hid hR4.range
      have Hw4 := Lib.hid hw4
      obtain ⟨w5, hw5⟩ : ∃ w5, w5 = w4.setCells g (k * 128) (u8s bs) := ⟨_, rfl⟩
      have hR' : RowsAt (vs.take (k * 128) ++ u8s bs ++ vs.drop (k * 128 + (u8s bs).length)) m (S.rowAt f) (k + 1) := by
        have := hR.step hlt (by rw [← Hbs.out]; exact Hlen.out)
        rw [← Hbs.out] at this; exact this
      have hB5 : Blk w5 g 72 (vs.take (k * 128) ++ u8s bs ++ vs.drop (k * 128 + (u8s bs).length)) := by
        rw [hw5]; exact setCells_blk (u8s bs) (k * 128) w4 vs hB4 (by rw [List.length_map, Hlen.out, hR.1]; omega)
      have hO5 : Only (fun b => b = g) w4 w5 := by rw [hw5]; exact setCells_only (F := fun b => b = g) w4 (rb := g) rfl _ _
      have hd5 : PD (More F' wr w3) w5 d (S.reads (k + 1)) := hd4.only hO5 (fun b hb e => hgM (e ▸ hb))
      have hOw5 : Only F w w5 := by
        have h1 : Only (fun b => F b ∨ w.heap.size ≤ b) w w3 := (hO.mono (fun _ _ hk => Or.inl hk)).trans hO3 (fun b hb hk => hF' b hk)
        have h2 := (h1.trans (Only.of_below (F := Nothing) hb4) (fun _ _ hk => hk.elim)).trans hO5 (fun b hb e => Or.inr (e ▸ hgw))
        exact h2.mono (fun b hb hk => by rcases hk with hk | hk; exact hk; omega)
      have hF5 : ∀ b, More F' wr w3 b → F b ∨ w.heap.size ≤ b := fun b hk => by rcases hk with hk | hk; exact hF' b hk; exact Or.inr (Nat.le_trans hO.size hk.1)
      have Hw5 := Lib.hid hw5
      clear hw4 hth hR4 hb4 hB3 hB4 hd4 hd3 hO3 hO5 hd hB hR hO HRd hw5 hgl hgl0 hgF'
      go_wp2_with (first
        | (refine wpList_store_mid rfl 72 (.tmp 6) (.tmp 20) rfl w3.heap.size 0 (u8s bs).toArray rfl rfl Hth.out hsA (all_oneCell_toArray hone) ?_; rw [show (u8s bs).toArray.toList = u8s bs from rfl, ← Hw4.out])
        | (refine wpList_load_mid rfl 72 (.tmp 6) rfl w3.heap.size 0 rfl (u8s bs) _ HR4.out Tryd.underlying72 rfl hsL ?_)
        | (refine wpList_store_mid rfl 72 (.tmp 28) (.tmp 27) rfl g (k * 128) (u8s bs).toArray rfl rfl Hth4.out hsA (all_oneCell_toArray hone) ?_; rw [show (u8s bs).toArray.toList = u8s bs from rfl, ← Hw5.out]))
      go_roundw
      case rel => exact ⟨k + 1, _, _, by omega, by go_num, hB5, hR', hd5, hF5, hgM, hOw5⟩
      case measure => simp [intOf]; omega
    · obtain rfl : k = m := by omega
      go_wp2_with fail
      go_ret2
      exact ⟨g, vs, F', rfl, hgw, hgF', hF', hB, hR, hd, hO⟩
set_option maxHeartbeats 3200000 in
theorem pjread_off (ho : S.off = true) :
    Calls Tryd.prog 34 #[.pointer (some ⟨a, 0, none⟩)] w fun e w' => e = .returned (.tuple #[.slice none 0 0, .int .i64 50]) ∧ PD (More F w w') w' d S ∧ Only F w w' := by
  have hUse : True := (fun _ => True.intro) hin
  clear hUse
  have hm8 : m ≤ 8192 := by have := hs.2.2.2; omega
  have Hm := Lib.hid (parea_many F w a d S f m h ha hne hs (by omega))
  obtain ⟨ip, hip, hzp, hsp, hbp⟩ := info_parts' info_arr
  have Hb := Lib.hid hbp
  clear hbp
  go_enter Tryd.func34, Tryd.ntmps34
  go_wp2_with fail
  refine Hm.out.mono ?_
  rintro e w1 ⟨rfl, hO1⟩
  have hb1 : Below w.heap.size w w1 := hO1.below (Nat.le_refl _) (fun _ hk => hk.elim)
  go_wp2_with (refine wpList_rows rfl (.tmp 9) (.tmp 9) 75 rfl 72 ip (.agg Tryd.zeroCells72) 128 Tryd.underlying75 hip hzp hsp m (by simp [Act.eval]) (by simp [Act.eval]) (by rw [Hb.out]; omega) (by omega) ?_)
  obtain ⟨zc, hzc⟩ : ∃ zc, zc = madeCells Tryd.zeroCells72 (m * 128) := ⟨_, rfl⟩
  rw [← hzc]
  obtain ⟨w2, hw2⟩ : ∃ w2, w2 = w1.alloc (.cells zc 72) := ⟨_, rfl⟩
  have hb2 : Below w.heap.size w w2 := by rw [hw2]; exact hb1.trans ((below_alloc _ _).mono hb1.size)
  rw [← hw2]
  have h2 : PD F w2 d S := h.only (Only.of_below (F := Nothing) hb2) (fun _ _ hk => hk)
  have her : (zeros128, (50 : Int), S) = S.arRead f m 0 := by
    unfold DS.arRead DS.readOf
    rw [if_neg (by omega), if_pos ho]
  have HRd := Lib.hid (parea_read F w2 a d S f m h2 (ha.kept (hb2.block _ ha.lt)) hne hs (by omega) 0 (by omega) (zeros128, 50, S) her)
  have hone := one_u8s zeros128
  clear h ha hw2 hb1 hO1 hzc Hm her h2
  go_loopw [13] (fun i wr => i = .int .i64 0 ∧ wr = w2) (fun _ _ => 0)
  case atStart => exact ⟨rfl, rfl⟩
  case round =>
    obtain ⟨rfl, hwr⟩ := hrel
    obtain rfl := hwr.symm
    have hm0 : (0 : Int) < (m : Int) := by omega
    go_wp2_with fail
    refine HRd.out.mono ?_
    rintro e w3 ⟨rfl, hd3, hO3⟩
    obtain ⟨w4, hw4, hb4, hR4, hth, hsA, hsL⟩ := arr_new w3 zeros128 zeros_len
    have hd4 : PD (More F w2 w3) w4 d S := hd3.only (Only.of_below (F := Nothing) hb4) (fun _ _ hk => hk)
    have hO4 : Only F w w4 := ((Only.of_below hb2).trans hO3 (fun _ _ hk => hk)).trans (Only.of_below (F := Nothing) hb4) (fun _ _ hk => hk.elim)
    have hd5 : PD (More F w w4) w4 d S := hd4.mono' (fun k hg => by rcases hg with hg | hg; exact Or.inl hg; exact Or.inr ⟨Nat.le_trans hb2.size hg.1, Nat.lt_of_lt_of_le hg.2 hb4.size⟩) (fun k hk => by rcases hk with hk | hk; exact hd4.fin (Or.inl hk); exact hk.2)
    have Hth := Lib.hid hth
    have Hw4 := Lib.hid hw4
    clear hw4 hth hR4 hb4 hd4 hd3 hO3 HRd
    go_wp2_with (refine wpList_store_mid rfl 72 (.tmp 6) (.tmp 20) rfl w3.heap.size 0 (u8s zeros128).toArray rfl rfl Hth.out hsA (all_oneCell_toArray hone) ?_; rw [show (u8s zeros128).toArray.toList = u8s zeros128 from rfl, ← Hw4.out])
    go_ret2
    exact ⟨rfl, hd5, hO4⟩
end

set_option maxHeartbeats 3200000 in
theorem pjrecords_is (w : World) (ht : Tabs w) (g m : Nat) (vs : List Value) (row : Nat → List Int) (hB : Blk w g 72 vs) (hR : RowsAt vs m row m) (hby : ∀ j, j < m → Byte128 (row j)) (hm : m ≤ 8192) (kind : Int) (hk : -9223372036854775808 ≤ kind ∧ kind ≤ 9223372036854775807) :
    Calls Tryd.prog 35 #[.slice (some ⟨g, 0, none⟩) m m, .int .i64 kind] w fun e w' => e = .returned (.int .i64 (jNext kind m row : Int)) ∧ Below w.heap.size w w' := by
  go_enter Tryd.func35, Tryd.ntmps35
  go_wp2
  go_step3
  go_wp2
  go_step3
  go_wp2
  go_loopw [5, 13] (fun c i wr => ∃ k : Nat, k ≤ m ∧ c = .int .i64 (k : Int) ∧ i = .int .i64 (k : Int) ∧ (∀ j, j < k → isRec kind (row j) j = true) ∧ Below w.heap.size w wr) (fun _ i _ => m - (intOf i).toNat)
  case atStart => exact ⟨0, Nat.zero_le _, rfl, rfl, fun j hj => by omega, Below.refl _ _⟩
  case round =>
    obtain ⟨k, hkm, rfl, rfl, hrec, hb⟩ := hrel
    by_cases hlt : k < m
    · have hlti : (k : Int) < (m : Int) := by omega
      have hk0 : (0 : Int) ≤ (k : Int) := by omega
      obtain ⟨bs, hbs⟩ : ∃ bs, bs = row k := ⟨_, rfl⟩
      have hbb : Byte128 bs := by rw [hbs]; exact hby k hlt
      have Hlen := Lib.hid hbb.1
      have Hbs := Lib.hid hbs
      have hBr : Blk wr g 72 vs := hB.kept (hb.block _ hB.lt)
      have HRr := Lib.hid (show wr.rangeAt g (k * 128) (u8s bs) from (by rw [hbs]; exact hR.range hBr hlt))
      obtain ⟨w4, hw4, hb4, hR4, hth, hsA, hsL⟩ := arr_new wr bs Hlen.out
      have hone := one_u8s bs
      have Hth := Lib.hid hth
      have HR4 := Lib.hid hR4.range
      have Hw4 := Lib.hid hw4
      have hb04 : Below w.heap.size w w4 := hb.trans (hb4.mono hb.size)
      obtain ⟨o, ho⟩ : ∃ o, o = openOf bs kind := ⟨_, rfl⟩
      have HOp := Lib.hid (popen_of bs hbb.1 hbb.2 w4 (ht.below hb04) kind hk o ho)
      have hstop : (o.2.2 ≠ 0 ∨ o.1 ≠ (k : Int)) → jNext kind m row = k := fun hno => jNext_one (by omega) hrec (fun _ => isRec_false.2 (by rw [← hbs, ← ho]; exact hno))
      have hgo : o.2.2 = 0 → o.1 = (k : Int) → isRec kind (row k) k = true := fun h1 h2 => isRec_true.2 (by rw [← hbs, ← ho]; exact ⟨h1, h2⟩)
      have Hstop := Lib.hid hstop
      have Hgo := Lib.hid hgo
      clear hw4 hth hR4 hb4 hbs hbb ho hBr hstop hgo hb
      go_wp2_with (first
        | (refine wpList_load_mid rfl 72 (.tmp 16) rfl g (k * 128) rfl (u8s bs) _ HRr.out Tryd.underlying72 rfl hsL ?_)
        | (refine wpList_store_mid rfl 72 (.tmp 7) (.tmp 17) rfl wr.heap.size 0 (u8s bs).toArray rfl rfl Hth.out hsA (all_oneCell_toArray hone) ?_; rw [show (u8s bs).toArray.toList = u8s bs from rfl, ← Hw4.out])
        | (refine wpList_load_mid rfl 72 (.tmp 7) rfl wr.heap.size 0 rfl (u8s bs) _ HR4.out Tryd.underlying72 rfl hsL ?_))
      refine HOp.out.mono ?_
      rintro e w5 ⟨B, cc, rfl, _, _, hb5⟩
      obtain ⟨on, ol, oe⟩ := o
      simp only [] at Hstop Hgo ⊢
      have hb05 : Below w.heap.size w w5 := hb04.trans (hb5.mono hb04.size)
      clear hb5 HOp hb04
      by_cases hoe : oe = 0
      · subst hoe
        by_cases hon : on = (k : Int)
        · have hrk := Hgo.out rfl hon
          subst hon
          have hwq : IntKind.i64.wrap ((k : Int) + 1) = (k : Int) + 1 := by rw [IntKind.wrap_i64]; omega
          go_wp2_with fail
          go_roundw
          case rel => exact ⟨k + 1, by omega, by go_num, by go_num, fun j hj => by
            by_cases e : j = k
            · rw [e]; exact hrk
            · exact hrec j (by omega), hb05⟩
          case measure => simp [intOf]; omega
        · have hno := Hstop.out (Or.inr hon)
          have hne : (on != (k : Int)) = true := by simpa using hon
          go_wp2_with fail
          (try rw [Exit.noGoto_ret])
          go_ret
          rw [hno]
          exact ⟨rfl, hb05⟩
      · have hno := Hstop.out (Or.inl hoe)
        have hne : (oe != 0) = true := by simpa using hoe
        go_wp2_with fail
        (try rw [Exit.noGoto_ret])
        go_ret
        rw [hno]
        exact ⟨rfl, hb05⟩
    · obtain rfl : k = m := by omega
      go_wp2_with fail
      (try rw [Exit.noGoto_ret])
      go_ret
      exact ⟨by rw [jNext_one (Nat.le_refl _) hrec (fun h => absurd h (Nat.lt_irrefl _))]; rfl, hb⟩

/-- What wiping from q on comes to. -/
def DS.wipeEnd (f m : Nat) (row : Nat → List Int) (T : DS) (q : Nat) : Int × DS :=
  if (DS.wipeGo f m row T q (m - q) 0).1 ≠ 0 then ((DS.wipeGo f m row T q (m - q) 0).1, (DS.wipeGo f m row T q (m - q) 0).2.2) else
  if (DS.wipeGo f m row T q (m - q) 0).2.1 = 0 then (0, (DS.wipeGo f m row T q (m - q) 0).2.2) else (DS.wipeGo f m row T q (m - q) 0).2.2.flushOf
set_option maxHeartbeats 6400000 in
theorem pjwipe_is (F : Nat → Prop) (w : World) (a d : Nat) (S : DS) (f m : Nat) (h : PD F w d S) (ha : PArea w a d f m) (hne : ¬ F a) (hs : Spot f m) (hm1 : 1 ≤ m) (g : Nat) (vs : List Value) (row : Nat → List Int) (hgF : ¬ F g) (hB : Blk w g 72 vs) (hR : RowsAt vs m row m) (hby : ∀ j, j < m → Byte128 (row j)) (q : Nat) (hqm : q ≤ m) (hmany : S.waits.length + m ≤ 1000000) (r : Int × DS) (hr : r = DS.wipeEnd f m row S q) :
    Calls Tryd.prog 36 #[.pointer (some ⟨a, 0, none⟩), .slice (some ⟨g, 0, none⟩) m m, .int .i64 (q : Int)] w fun e w' => ∃ F', e = .returned (.int .i64 r.1) ∧ (∀ k, F' k → F k ∨ w.heap.size ≤ k) ∧ PD F' w' d r.2 ∧ Only F w w' := by
  have hm8 : m ≤ 8192 := by have := hs.2.2.2; omega
  have hal := ha.lt
  have hgl := hB.lt
  have Ha := Lib.hid (show ∀ wr, Only F w wr → PArea wr a d f m from fun wr hO => hO.blk ha hne)
  have HB := Lib.hid (show ∀ wr, Only F w wr → Blk wr g 72 vs from fun wr hO => hO.blk hB hgF)
  have Hr := Lib.hid hr
  have hgo0 : DS.wipeGo f m row S q (m - q) 0 = DS.wipeGo f m row S q (m - q) 0 := rfl
  clear ha hr hB
  go_enter Tryd.func36, Tryd.ntmps36
  go_wp2_with fail
  go_loopw [7, 8] (fun bv nv wr => ∃ (n cnt : Nat) (bq : Bool) (T : DS) (F' : Nat → Prop), q ≤ n ∧ n ≤ m ∧ nv = .int .i64 (n : Int) ∧ bv = .bool bq ∧ Hid (bq = decide (cnt ≠ 0)) ∧ Hid (DS.wipeGo f m row S q (m - q) 0 = DS.wipeGo f m row T n (m - n) cnt) ∧ T.waits.length ≤ S.waits.length + n ∧ PD F' wr d T ∧ (∀ b, F' b → F b ∨ w.heap.size ≤ b) ∧ Only F w wr) (fun _ nv _ => m - (intOf nv).toNat)
  case atStart => exact ⟨q, 0, false, S, F, Nat.le_refl _, hqm, rfl, rfl, Lib.hid rfl, Lib.hid rfl, by omega, h, fun k hk => Or.inl hk, Only.refl _ _⟩
  case round =>
    obtain ⟨n, cnt, bq, T, F', hqn, hnm, rfl, rfl, hbq, hgo, hwt, hd, hF', hO⟩ := hrel
    by_cases hlt : n < m
    · have hlti : (n : Int) < (m : Int) := by omega
      have hn0 : (0 : Int) ≤ (n : Int) := by omega
      obtain ⟨bs, hbs⟩ : ∃ bs, bs = row n := ⟨_, rfl⟩
      have hbb : Byte128 bs := by rw [hbs]; exact hby n hlt
      have Hlen := Lib.hid hbb.1
      have Hbs := Lib.hid hbs
      have HRr := Lib.hid (show wr.rangeAt g (n * 128) (u8s bs) from (by rw [hbs]; exact hR.range (HB.out wr hO) hlt))
      have hsL : (Tryd.prog.info? 72).map (·.size) = some (u8s bs).length := by rw [size_arr, List.length_map, hbb.1]
      obtain ⟨zb, hzb⟩ : ∃ zb, zb = decide (bs = zeros128) := ⟨_, rfl⟩
      have HBl := Lib.hid (pblank_is bs hbb.1 hbb.2 wr zb hzb)
      have Hzb := Lib.hid hzb
      have e1 : m - n = (m - (n + 1)) + 1 := by omega
      have Hgo := Lib.hid (show DS.wipeGo f m row S q (m - q) 0 = if row n = zeros128 then DS.wipeGo f m row T (n + 1) (m - (n + 1)) cnt else if (T.arWrite f m n zeros128).1 = 0 then DS.wipeGo f m row (T.arWrite f m n zeros128).2 (n + 1) (m - (n + 1)) (cnt + 1) else ((T.arWrite f m n zeros128).1, cnt, (T.arWrite f m n zeros128).2) from (by
        have := hgo.out; rw [e1] at this; simp only [DS.wipeGo] at this; exact this))
      clear hbs hbb hzb e1 hgo
      go_wp2_with (refine wpList_load_mid rfl 72 (.tmp 19) rfl g (n * 128) rfl (u8s bs) _ HRr.out Tryd.underlying72 rfl hsL ?_)
      refine HBl.out.mono ?_
      rintro e w3 ⟨rfl, hb3⟩
      have hd3 : PD F' w3 d T := hd.only (Only.of_below (F := Nothing) hb3) (fun _ _ hk => hk)
      have hO3 : Only F w w3 := hO.trans (Only.of_below (F := Nothing) hb3) (fun _ _ hk => hk.elim)
      clear HBl hd hO HRr hb3
      cases zb with
      | true =>
        have hz : bs = zeros128 := of_decide_eq_true Hzb.out.symm
        have hgo' := Hgo.out
        rw [if_pos (by rw [← Hbs.out]; exact hz)] at hgo'
        have Hgo' := Lib.hid hgo'
        clear hgo' hz
        go_wp2_with fail
        go_roundw
        case rel => exact ⟨n + 1, cnt, bq, T, F', by omega, by omega, by go_num, rfl, hbq, Hgo', by omega, hd3, hF', hO3⟩
        case measure => simp [intOf]; omega
      | false =>
        have hz : bs ≠ zeros128 := of_decide_eq_false Hzb.out.symm
        obtain ⟨r1, hr1⟩ : ∃ r1, r1 = T.arWrite f m n zeros128 := ⟨_, rfl⟩
        have hgo' := Hgo.out
        rw [if_neg (by rw [← Hbs.out]; exact hz), ← hr1] at hgo'
        have hw1' : r1.2.waits.length ≤ T.waits.length + 1 := by rw [hr1]; exact (arWrite_same T f m n zeros128).1
        have hne' : ¬ F' a := fun hk => by rcases hF' a hk with h | h; exact hne h; omega
        have HW := Lib.hid (parea_wipe F' w3 a d T f m hd3 (Ha.out w3 hO3) hne' hs (by omega) n (by omega) (by omega) r1 hr1)
        have Hgo' := Lib.hid hgo'
        clear hgo' hz hr1 hd3 Hgo
        go_wp2_with fail
        refine HW.out.mono ?_
        rintro e w4 ⟨rfl, hd4, hO4⟩
        have hF4 : ∀ b, More F' w3 w4 b → F b ∨ w.heap.size ≤ b := fun b hk => by rcases hk with hk | hk; exact hF' b hk; exact Or.inr (Nat.le_trans hO3.size hk.1)
        have hO24 : Only F w w4 := by
          have h1 : Only (fun b => F b ∨ w.heap.size ≤ b) w w4 := (hO3.mono (fun _ _ hk => Or.inl hk)).trans hO4 (fun b hb hk => hF' b hk)
          exact h1.mono (fun b hb hk => by rcases hk with hk | hk; exact hk; omega)
        clear HW hO4 hO3
        by_cases hr0 : r1.1 = 0
        · have hgo2 := Hgo'.out
          rw [if_pos hr0] at hgo2
          have Hgo2 := Lib.hid hgo2
          rw [hr0]
          clear hgo2 hr0
          go_wp2_with fail
          go_roundw
          case rel => exact ⟨n + 1, cnt + 1, true, r1.2, _, by omega, by omega, by go_num, rfl, Lib.hid (by simp), Hgo2, by omega, hd4, hF4, hO24⟩
          case measure => simp [intOf]; omega
        · have er : r = (r1.1, r1.2) := by
            have hgo2 := Hgo'.out
            rw [if_neg hr0] at hgo2
            rw [Hr.out]; unfold DS.wipeEnd; rw [hgo2, if_pos hr0]
          have Her := Lib.hid er
          obtain ⟨re, hre⟩ : ∃ re, re = r1.1 := ⟨_, rfl⟩
          have hne : (re != 0) = true := by simpa [hre] using hr0
          have Hend := Lib.hid (show ∃ F', Ending.returned (.int .i64 re) = .returned (.int .i64 r.1) ∧ (∀ k, F' k → F k ∨ w.heap.size ≤ k) ∧ PD F' w4 d r.2 ∧ Only F w w4 by
            rw [er, hre]
            exact ⟨_, rfl, hF4, hd4, hO24⟩)
          rw [← hre]
          clear hr0 er hre
          go_wp2_with fail
          go_ret
          exact Hend.out
    · obtain rfl : m = n := by omega
      have hgo' := hgo.out
      rw [Nat.sub_self] at hgo'
      simp only [DS.wipeGo] at hgo'
      have Hgo' := Lib.hid hgo'
      clear hgo'
      have hne' : ¬ F' a := fun hk => by rcases hF' a hk with h | h; exact hne h; omega
      cases bq with
      | false =>
        have hc0 : cnt = 0 := by have := hbq.out; simpa using this
        have er : r = (0, T) := by rw [Hr.out]; unfold DS.wipeEnd; rw [Hgo'.out, if_neg (by simp), if_pos hc0]
        have Her := Lib.hid er
        clear er
        go_wp2_with fail
        go_ret
        rw [Her.out]
        exact ⟨F', rfl, hF', hd, hO⟩
      | true =>
        have hc0 : cnt ≠ 0 := by have := hbq.out; simpa using this
        obtain ⟨r2, hr2⟩ : ∃ r2, r2 = T.flushOf := ⟨_, rfl⟩
        have er : r = r2 := by rw [Hr.out]; unfold DS.wipeEnd; rw [Hgo'.out, if_neg (by simp), if_neg hc0]; exact hr2.symm
        have Her := Lib.hid er
        have HFl := Lib.hid (parea_flush F' wr a d T f m hd (Ha.out wr hO) hne' hs (by omega) r2 hr2)
        clear er hr2
        go_wp2_with fail
        refine HFl.out.mono ?_
        rintro e w4 ⟨rfl, hd4, hO4⟩
        have hF4 : ∀ b, More F' wr w4 b → F b ∨ w.heap.size ≤ b := fun b hk => by rcases hk with hk | hk; exact hF' b hk; exact Or.inr (Nat.le_trans hO.size hk.1)
        have hO24 : Only F w w4 := by
          have h1 : Only (fun b => F b ∨ w.heap.size ≤ b) w w4 := (hO.mono (fun _ _ hk => Or.inl hk)).trans hO4 (fun b hb hk => hF' b hk)
          exact h1.mono (fun b hb hk => by rcases hk with hk | hk; exact hk; omega)
        clear HFl hO4 hO
        go_wp2_with fail
        go_ret
        rw [Her.out]
        exact ⟨_, rfl, hF4, hd4, hO24⟩
end Go.Proofs.YteliebinhdphlaaDoor

/- The program's journal: Open. -/
namespace Go.Proofs.YteliebinhdphlaaDoor
set_option maxRecDepth 100000
open Go.RowKit Go.Deep
set_option linter.unusedSimpArgs false
set_option linter.unusedVariables false
attribute [local irreducible] Tryd.zeroCells72

/-- How a call of Open ends. -/
def POpened (F : Nat → Prop) (w : World) (a d : Nat) (kind : Int) (r : Int × Nat × DS) (e : Ending) (w' : World) : Prop :=
  (r.1 ≠ 0 ∧ e = .returned (.tuple #[.pointer none, .int .i64 r.1]) ∧ PD (More F w w') w' d r.2.2 ∧ Only F w w') ∨
  (r.1 = 0 ∧ ∃ j F', e = .returned (.tuple #[.pointer (some ⟨j, 0, none⟩), .int .i64 0]) ∧ w.heap.size ≤ j ∧ ¬ F' j ∧ (∀ k, F' k → F k ∨ w.heap.size ≤ k) ∧ PJ w' j a kind r.2.1 ∧ PD F' w' d r.2.2 ∧ Only F w w')

theorem jOpen_end (S : DS) (f m : Nat) (kind : Int) (hk : 1 ≤ kind ∧ kind ≤ 255) (ho : S.off = false) (q : Nat) (hq : q = jNext kind m (S.rowAt f)) (x : Int × DS) (hx : x = DS.wipeEnd f m (S.rowAt f) (S.reads m) q) :
    S.jOpen f m kind = if x.1 ≠ 0 then (x.1, 0, x.2) else (0, q, x.2) := by
  unfold DS.jOpen
  rw [if_neg (by omega), if_neg (by rw [ho]; decide)]
  unfold DS.wipeEnd at hx
  rw [hq] at hx ⊢
  unfold DS.jWiped
  by_cases h1 : (DS.wipeGo f m (S.rowAt f) (S.reads m) (jNext kind m (S.rowAt f)) (m - jNext kind m (S.rowAt f)) 0).1 ≠ 0
  · rw [if_pos h1] at hx ⊢
    rw [hx, if_pos h1]
  · rw [if_neg h1] at hx ⊢
    by_cases h2 : (DS.wipeGo f m (S.rowAt f) (S.reads m) (jNext kind m (S.rowAt f)) (m - jNext kind m (S.rowAt f)) 0).2.1 = 0
    · rw [if_pos h2] at hx ⊢
      rw [hx, if_neg (by simp)]
    · rw [if_neg h2] at hx ⊢
      rw [hx]
theorem pjopen_nil (w : World) (kind : Int) (hk : -9223372036854775808 ≤ kind ∧ kind ≤ 9223372036854775807) : Calls Tryd.prog 11 #[.pointer none, .int .i64 kind] w fun e w' => e = .returned (.tuple #[.pointer none, .int .i64 1]) ∧ Below w.heap.size w w' := by
  go_enter Tryd.func11, Tryd.ntmps11
  go_wp2_with fail
  refine (narea_many w).mono ?_
  rintro e w1 ⟨rfl, hb⟩
  go_wp2_with fail
  go_ret2
  exact ⟨rfl, hb⟩
section
variable (F : Nat → Prop) (w : World) (a d : Nat) (S : DS) (f m : Nat) (h : PD F w d S) (ha : PArea w a d f m) (hne : ¬ F a) (hs : Spot f m) (hm1 : 1 ≤ m) (hin : f + m ≤ S.kept.length) (ht : Tabs w) (hTF : NoTabs F)
include h ha hne hs hm1 hin ht hTF
set_option maxHeartbeats 6400000 in
theorem pjopen_is (kind : Int) (hk : -9223372036854775808 ≤ kind ∧ kind ≤ 9223372036854775807) (hmany : S.waits.length + m ≤ 1000000) (r : Int × Nat × DS) (hr : r = S.jOpen f m kind) :
    Calls Tryd.prog 11 #[.pointer (some ⟨a, 0, none⟩), .int .i64 kind] w (POpened F w a d kind r) := by
  have hm8 : m ≤ 8192 := by have := hs.2.2.2; omega
  have Hm := Lib.hid (parea_many F w a d S f m h ha hne hs (by omega))
  have hal := ha.lt
  have hFlt : ∀ k, F k → k < w.heap.size := fun k hk => h.fin hk
  have hm0 : ((m : Int) == 0) = false := by simp; omega
  have hmd := Lib.hid h.wf
  have Hr := Lib.hid hr
  clear hr
  go_enter Tryd.func11, Tryd.ntmps11
  go_wp2_with fail
  refine Hm.out.mono ?_
  rintro e w1 ⟨rfl, hO1⟩
  have hb1 : Below w.heap.size w w1 := hO1.below (Nat.le_refl _) (fun _ hk => hk.elim)
  obtain ⟨bm, hbm⟩ : ∃ bm, bm = makeOf kind 0 [] := ⟨_, rfl⟩
  obtain ⟨er, her⟩ : ∃ er, er = makeErr kind 0 0 := ⟨_, rfl⟩
  have hbl : bm.length = 128 := by rw [hbm]; exact makeOf_len _ _ _
  have HMk := Lib.hid (pmake_is kind 0 hk (by omega) none 0 0 [] w1 (ht.below hb1) (Sl.nil_ _ _) (by intro x hx; simp at hx) (by omega) bm er hbm her)
  clear Hm hO1
  go_wp2_with fail
  refine HMk.out.mono ?_
  rintro e w2 ⟨rfl, hb2⟩
  obtain ⟨w3, hw3, hb3, hR3, hth, hsA, hsL⟩ := arr_new w2 bm hbl
  have hone := one_u8s bm
  have Hth := Lib.hid hth
  have Hw3 := Lib.hid hw3
  have hb03 : Below w.heap.size w w3 := (hb1.trans (hb2.mono hb1.size)).trans (hb3.mono (hb1.trans (hb2.mono hb1.size)).size)
  have h3 : PD F w3 d S := h.only (Only.of_below (F := Nothing) hb03) (fun _ _ hk => hk)
  have ha3 := ha.kept (hb03.block _ hal)
  have ht3 := ht.below hb03
  clear hw3 hth hR3 hb1 hb2 hb3 HMk h ha ht hbm
  by_cases hbad : kind < 1 ∨ 255 < kind
  · have e2 : er = 2 := by rw [her]; unfold makeErr; rw [if_pos (by omega)]
    have er2 : r = (2, 0, S) := by rw [Hr.out]; unfold DS.jOpen; rw [if_pos hbad]
    have Her := Lib.hid er2
    subst e2
    clear her er2
    go_wp2_with (refine wpList_store_mid rfl 72 (.tmp 6) (.tmp 18) rfl w2.heap.size 0 (u8s bm).toArray rfl rfl Hth.out hsA (all_oneCell_toArray hone) ?_; rw [show (u8s bm).toArray.toList = u8s bm from rfl, ← Hw3.out])
    go_ret2
    rw [Her.out]
    exact Or.inl ⟨by show (2 : Int) ≠ 0; decide, rfl, more_pd h3, Only.of_below hb03⟩
  have e0 : er = 0 := by rw [her]; exact makeErr_zero.2 ⟨by omega, by omega, by omega, by omega⟩
  subst e0
  clear her
  cases ho : S.off with
  | true =>
    have HRd := Lib.hid (pjread_off F w3 a d S f m h3 ha3 hne hs hm1 hin ho)
    have er2 : r = (50, 0, S) := by rw [Hr.out]; unfold DS.jOpen; rw [if_neg hbad, if_pos ho]
    have Her := Lib.hid er2
    clear er2 h3 ha3 ht3
    go_wp2_with (refine wpList_store_mid rfl 72 (.tmp 6) (.tmp 18) rfl w2.heap.size 0 (u8s bm).toArray rfl rfl Hth.out hsA (all_oneCell_toArray hone) ?_; rw [show (u8s bm).toArray.toList = u8s bm from rfl, ← Hw3.out])
    refine HRd.out.mono ?_
    rintro e w4 ⟨rfl, hd4, hO4⟩
    go_wp2_with fail
    go_ret2
    rw [Her.out]
    exact Or.inl ⟨by show (50 : Int) ≠ 0; decide, rfl, pd_wide hd4 hb03.size, (Only.of_below hb03).trans hO4 (fun _ _ hk => hk)⟩
  | false =>
    have HRd := Lib.hid (pjread_on F w3 a d S f m h3 ha3 hne hs hm1 hin ho)
    obtain ⟨q, hq⟩ : ∃ q, q = jNext kind m (S.rowAt f) := ⟨_, rfl⟩
    have hqm : q ≤ m := by rw [hq]; exact (jNext_spec kind m (S.rowAt f)).1
    obtain ⟨x, hx⟩ : ∃ x, x = DS.wipeEnd f m (S.rowAt f) (S.reads m) q := ⟨_, rfl⟩
    have er2 : r = if x.1 ≠ 0 then (x.1, 0, x.2) else (0, q, x.2) := by rw [Hr.out]; exact jOpen_end S f m kind (by omega) ho q hq x hx
    have Her := Lib.hid er2
    have Hx := Lib.hid hx
    have Hq := Lib.hid hq
    have Ha3 := Lib.hid ha3
    have Ht3 := Lib.hid ht3
    have Hfin := Lib.hid hFlt
    clear er2 h3 ha3 ht3 hx hq hFlt
    go_wp2_with (refine wpList_store_mid rfl 72 (.tmp 6) (.tmp 18) rfl w2.heap.size 0 (u8s bm).toArray rfl rfl Hth.out hsA (all_oneCell_toArray hone) ?_; rw [show (u8s bm).toArray.toList = u8s bm from rfl, ← Hw3.out])
    refine HRd.out.mono ?_
    rintro e w4 ⟨g, vs, F1, rfl, hg3, hgF, hF1, hB4, hR4, hd4, hO4⟩
    have hby : ∀ j, j < m → Byte128 (S.rowAt f j) := fun j hj => at_byte hmd.out (by omega)
    have HRec := Lib.hid (pjrecords_is w4 (Ht3.out.only hO4 hTF) g m vs (S.rowAt f) hB4 hR4 hby hm8 kind hk)
    rw [← Hq.out] at HRec
    have ha4 := hO4.blk Ha3.out hne
    have hsz3 := hb03.size
    have hF1w : ∀ k, F1 k → F k ∨ w.heap.size ≤ k := fun k hk => by rcases hF1 k hk with h | h; exact Or.inl h; exact Or.inr (Nat.le_trans hsz3 h)
    have hne1 : ¬ F1 a := fun hk => by rcases hF1w a hk with h | h; exact hne h; omega
    have hO04 : Only F w w4 := (Only.of_below hb03).trans hO4 (fun _ _ hk => hk)
    clear HRd
    go_wp2_with fail
    refine HRec.out.mono ?_
    rintro e w5 ⟨rfl, hb5⟩
    have hd5 := hd4.only (Only.of_below (F := Nothing) hb5) (fun _ _ hk => hk)
    have HWi := Lib.hid (pjwipe_is F1 w5 a d (S.reads m) f m hd5 (ha4.kept (hb5.block _ ha4.lt)) hne1 hs hm1 g vs (S.rowAt f) hgF (hB4.kept (hb5.block _ hB4.lt)) hR4 hby q hqm (by rw [(reads_same S m).2.2.1]; exact hmany) x Hx.out)
    have hO05 : Only F w w5 := hO04.trans (Only.of_below (F := Nothing) hb5) (fun _ _ hk => hk.elim)
    clear HRec hd4 hd5 hB4 hR4 hO4 hb5 hO04
    go_wp2_with fail
    refine HWi.out.mono ?_
    rintro e w6 ⟨F2, rfl, hF2, hd6, hO6⟩
    have hF2w : ∀ k, F2 k → F k ∨ w.heap.size ≤ k := fun k hk => by rcases hF2 k hk with h | h; exact hF1w k h; exact Or.inr (Nat.le_trans hO05.size h)
    have hO06 : Only F w w6 := by
      have h1 : Only (fun b => F b ∨ w.heap.size ≤ b) w w6 := (hO05.mono (fun _ _ hk => Or.inl hk)).trans hO6 (fun b hb hk => hF1w b hk)
      exact h1.mono (fun b hb hk => by rcases hk with hk | hk; exact hk; omega)
    clear HWi hO6 hO05 Hw3 Hth
    by_cases hx0 : x.1 = 0
    · have e9 := Her.out
      rw [if_neg (by simp [hx0])] at e9
      have He9 := Lib.hid e9
      have hsz6 := hO06.size
      have hb7 := below_alloc w6 (.cells #[.pointer (some ⟨a, 0, none⟩), .int .i64 kind, .int .i64 q] 70)
      have hd7 := hd6.only (Only.of_below (F := Nothing) hb7) (fun _ _ hk => hk)
      have hj7 : PJ (w6.alloc (.cells #[.pointer (some ⟨a, 0, none⟩), .int .i64 kind, .int .i64 q] 70)) w6.heap.size a kind q := Blk.new w6 70 [.pointer (some ⟨a, 0, none⟩), .int .i64 kind, .int .i64 q]
      have hjF2 : ¬ F2 w6.heap.size := fun hk => by have := hd6.fin hk; omega
      have hO7 : Only F w (w6.alloc (.cells #[.pointer (some ⟨a, 0, none⟩), .int .i64 kind, .int .i64 q] 70)) := hO06.alloc _
      rw [hx0]
      clear e9 hx0 hb7
      go_wp2_with fail
      go_ret2
      rw [He9.out]
      exact Or.inr ⟨rfl, w6.heap.size, F2, rfl, hsz6, hjF2, hF2w, hj7, hd7, hO7⟩
    · have e9 := Her.out
      rw [if_pos hx0] at e9
      have He9 := Lib.hid e9
      have hd8 : PD (More F w w6) w6 d x.2 := hd6.mono' (fun k hk => by rcases hF2w k hk with h | h; exact Or.inl h; exact Or.inr ⟨h, hd6.fin hk⟩) (fun k hk => by rcases hk with hk | hk; exact Nat.lt_of_lt_of_le (Hfin.out k hk) hO06.size; exact hk.2)
      obtain ⟨re, hre⟩ : ∃ re, re = x.1 := ⟨_, rfl⟩
      have hne' : (re != 0) = true := by simpa [hre] using hx0
      have Hend := Lib.hid (show POpened F w a d kind r (.returned (.tuple #[.pointer none, .int .i64 re])) w6 by
        rw [He9.out, hre]
        exact Or.inl ⟨hx0, rfl, hd8, hO06⟩)
      rw [← hre]
      clear hx0 e9 hre
      go_wp2_with fail
      go_ret2
      exact Hend.out
end
end Go.Proofs.YteliebinhdphlaaDoor
