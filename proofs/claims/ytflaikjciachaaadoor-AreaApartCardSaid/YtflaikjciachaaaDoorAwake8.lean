/- The chapter's example of layer 8. -/
import Derived.Test.YtflaikjciachaaaDoorPArea
namespace Go.Proofs.YtflaikjciachaaaDoor
set_option maxRecDepth 100000
open Go.RowKit Go.Deep
set_option linter.unusedSimpArgs false
set_option linter.unusedVariables false

set_option maxHeartbeats 3200000 in
theorem awake8_any (w : World) : Calls Tryd.prog 5 #[] w fun e w' => e = .returned (.bool true) ∧ Below w.heap.size w w' := by
  go_enter Tryd.func5, Tryd.ntmps5
  go_wp2_with fail
  refine (pplan_is w 15 (by omega) (by omega) 2 (by decide)).mono ?_
  rintro e w1 ⟨rfl, hb1⟩
  go_wp2_with fail
  go_ret
  first | exact ⟨rfl, hb1.trans ((below_alloc _ _).mono hb1.size)⟩ | exact ⟨rfl, hb1⟩
end Go.Proofs.YtflaikjciachaaaDoor
