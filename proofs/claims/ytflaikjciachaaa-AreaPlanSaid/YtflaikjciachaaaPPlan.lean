/- The program's Plan. -/
import Derived.Test.YtflaikjciachaaaHeap
import Derived.Laws.ResultCell
import Derived.Deep.WholeRow
namespace Go.Proofs.Ytflaikjciachaaa
set_option maxRecDepth 100000
open Go.RowKit Go.Deep
set_option linter.unusedSimpArgs false
set_option linter.unusedVariables false

theorem results_plan {P : Program} {fn : Func} {p u : Tmp} {ty : TypeId} (h : fn.results = #[.cell p ty, .tmp u]) (tmps : Array Value) (w : World) (g : Nat) (t : TypeId) (cs : Array Value) (fr : Nat × Nat) (d : TypeDesc)
    (hp : tmps.getD p undef = .pointer (some ⟨g, 0, none⟩)) (hg : w.heap[g]? = some (.cells cs t fr)) (hu : P.underlying ty = some d) (hd : (match d with | .struct _ | .array _ _ => true | _ => false) = true) (hi : (P.info? ty).map (·.size) = some cs.size) (z : Value) (hz : tmps.getD u undef = z) :
    (results fn tmps).run P w = .ok (.tuple #[.agg cs, z]) w := by
  rw [results_cell_tmp h, hp, hz]
  simp [asAddr, run_loadVar_row w g t ty cs fr d hg hu hd hi, Result.andThen]

theorem pplan_bad (w : World) (n : Int) (hn : -9223372036854775808 ≤ n ∧ n ≤ 9223372036854775807) (hbad : 4096 < n ∨ n < 13) :
    Calls Try.prog 5 #[.int .i64 n] w fun e w' => e = .returned (.tuple #[.agg #[.int .i64 0, .int .i64 0, .int .i64 0, .int .i64 0, .int .i64 0, .int .i64 0, .int .i64 0, .int .i64 0, .int .i64 0, .int .i64 0], .int .i64 2]) ∧ Below w.heap.size w w' := by
  have hs : (Try.prog.info? 26).map (·.size) = some 10 := by kernel_rfl
  by_cases h13 : n < 13
  · go_enter Try.func5, Try.ntmps5
    go_wp2
    refine bodyPost_ret ?_ rfl ⟨rfl, below_alloc _ _⟩
    exact results_plan rfl _ _ w.heap.size 26 _ (0, 0) _ rfl (heap_alloc_new w _) Try.underlying26 rfl (by rw [hs]; rfl) _ rfl
  · have h40 : 4096 < n := by omega
    go_enter Try.func5, Try.ntmps5
    go_wp2
    refine bodyPost_ret ?_ rfl ⟨rfl, below_alloc _ _⟩
    exact results_plan rfl _ _ w.heap.size 26 _ (0, 0) _ rfl (heap_alloc_new w _) Try.underlying26 rfl (by rw [hs]; rfl) _ rfl
theorem pplan_is (w : World) (n : Int) (h1 : 13 ≤ n) (h2 : n ≤ 4096) (q : Int) (hq : q = min ((n - 11) / 2) 1024) :
    Calls Try.prog 5 #[.int .i64 n] w fun e w' => e = .returned (.tuple #[.agg #[.int .i64 0, .int .i64 1, .int .i64 1, .int .i64 5, .int .i64 6, .int .i64 5, .int .i64 11, .int .i64 q, .int .i64 (11 + q), .int .i64 q], .int .i64 0]) ∧ Below w.heap.size w w' := by
  have hs : (Try.prog.info? 26).map (·.size) = some 10 := by kernel_rfl
  by_cases hc : 1024 < (n - 11) / 2
  · obtain rfl : q = 1024 := by omega
    clear hq
    go_enter Try.func5, Try.ntmps5
    go_wp2
    refine bodyPost_ret ?_ rfl ⟨rfl, below_alloc _ _⟩
    exact results_plan rfl _ _ w.heap.size 26 _ (0, 0) _ rfl (heap_alloc_new w _) Try.underlying26 rfl (by rw [hs]; rfl) _ rfl
  · obtain rfl : q = (n - 11) / 2 := by omega
    clear hq
    go_enter Try.func5, Try.ntmps5
    go_wp2
    refine bodyPost_ret ?_ rfl ⟨rfl, below_alloc _ _⟩
    exact results_plan rfl _ _ w.heap.size 26 _ (0, 0) _ rfl (heap_alloc_new w _) Try.underlying26 rfl (by rw [hs]; rfl) _ rfl
end Go.Proofs.Ytflaikjciachaaa
