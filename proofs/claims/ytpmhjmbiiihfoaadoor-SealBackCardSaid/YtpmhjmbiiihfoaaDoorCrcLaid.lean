import Derived.Test.YtpmhjmbiiihfoaaDoorRows
import Derived.Test.YtpmhjmbiiihfoaaDoorMore
import Derived.ProofKit
import Derived.Deep.DeepHandedRow
import Derived.Lib.LaidTab
namespace Go.Proofs.YtpmhjmbiiihfoaaDoor
open Go.RowKit

theorem gLow : Tryd.prog.globalNamed "tompion/crc.lower" = some 0 := by kernel_rfl
theorem gUp : Tryd.prog.globalNamed "tompion/crc.upper" = some 1 := by kernel_rfl
theorem gLowType : (Tryd.prog.globals[0]?).map (·.type) = some 57 := by kernel_rfl
theorem gUpType : (Tryd.prog.globals[1]?).map (·.type) = some 57 := by kernel_rfl
theorem cellsTab : Tryd.prog.cellsOf 57 = 16 := by kernel_rfl
theorem cellsU32 : Tryd.prog.cellsOf 43 = 1 := by kernel_rfl
def lowInts : List Int := [0, 1996959894, 3993919788, 2567524794, 124634137, 1886057615, 3915621685, 2657392035, 249268274, 2044508324, 3772115230, 2547177864, 162941995, 2125561021, 3887607047, 2428444049]
def upInts : List Int := [0, 498536548, 997073096, 651767980, 1994146192, 1802195444, 1303535960, 1342533948, 3988292384, 4027552580, 3604390888, 3412177804, 2607071920, 2262029012, 2685067896, 3183342108]
theorem low_ints : ∀ i : Nat, i < 16 → lowInts.getD i 0 = ((lowTab.getD i 0 : Nat) : Int) := by decide +kernel
theorem up_ints : ∀ i : Nat, i < 16 → upInts.getD i 0 = ((upTab.getD i 0 : Nat) : Int) := by decide +kernel

theorem laid_tail {P : Program} {x : String × DataW Unit} {r : List (String × DataW Unit)} {w : World} (h : laidMet P (x :: r) w) : laidMet P r w := by
  obtain ⟨ps, ⟨g, t, cs, fuel, p, q, h1, h2, h3, h4, h5, rfl⟩, hn, hb⟩ := h
  refine ⟨q, h5, (List.nodup_append.1 hn).2.1, fun b off hm => hb b off (List.mem_append.2 (.inr hm))⟩

/-- What the rows' list gives: the two tables. -/
theorem tabs_of {W : World} (h : laidMet Tryd.prog [("tompion/crc.lower", Rows.laid_tompion_crc_lower), ("tompion/crc.upper", Rows.laid_tompion_crc_upper)] W) : Tabs W := by
  have t1 : Lib.TabIs Tryd.prog W "tompion/crc.lower" .u32 lowInts := Lib.tabIs_of_head gLow gLowType Tryd.underlying57 Tryd.underlying43 cellsU32 cellsTab h
  have t2 : Lib.TabIs Tryd.prog W "tompion/crc.upper" .u32 upInts := Lib.tabIs_of_head gUp gUpType Tryd.underlying57 Tryd.underlying43 cellsU32 cellsTab (laid_tail h)
  exact ⟨fun i hi => by rw [t1.cell gLow i hi, low_ints i hi], fun i hi => by rw [t2.cell gUp i hi, up_ints i hi]⟩

def lay (k : IntKind) (zs : List Int) (o : Obj) : Obj :=
  match o with
  | .cells _ t frozen => .cells (zs.map (Value.int k)).toArray t frozen
  | o => o
/-- A world for the witness: the settled one, the tables holding what their initialisers lay. -/
noncomputable def laidWorld (os : Os) : World :=
  { World.holding Tryd.prog os ⟨#[], #[], []⟩ with heap := (((World.holding Tryd.prog os ⟨#[], #[], []⟩).heap.modify 0 (lay .u32 lowInts)).modify 1 (lay .u32 upInts)) }
end Go.Proofs.YtpmhjmbiiihfoaaDoor
