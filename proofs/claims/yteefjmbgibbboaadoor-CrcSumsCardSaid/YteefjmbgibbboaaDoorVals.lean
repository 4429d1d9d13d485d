/- Short names for lists of values; no function of the program is named here. -/
import Derived.Test.YteefjmbgibbboaaDoorChecked
import Derived.Test.YteefjmbgibbboaaDoorLib
import Derived.Test.YteefjmbgibbboaaDoorMath
namespace Go.Proofs.YteefjmbgibbboaaDoor
open Go.RowKit

abbrev u8s (xs : List Int) : List Value := xs.map (Value.int .u8)
abbrev i64s (xs : List Int) : List Value := xs.map (Value.int .i64)
theorem val_int {k : IntKind} {a b : Int} (h : a = b) : Value.int k a = Value.int k b := by rw [h]
theorem ret_int {k : IntKind} {a b : Int} (h : a = b) : Ending.returned (.int k a) = .returned (.int k b) := by rw [h]
theorem ret_bool {a b : Bool} (h : a = b) : Ending.returned (.bool a) = .returned (.bool b) := by rw [h]

theorem info_int : (Tryd.prog.info? 3).map (fun i => (i.zero, i.size, i.bytes)) = some (some (.int .i64 0), 1, 8) := by kernel_rfl
theorem info_u8 : (Tryd.prog.info? 5).map (fun i => (i.zero, i.size, i.bytes)) = some (some (.int .u8 0), 1, 1) := by kernel_rfl

def bitsTo (n : Int) (k : Nat) : List Int := (List.range k).map fun j => n / 2 ^ j % 2
theorem bitsTo_succ (n : Int) (k : Nat) : bitsTo n (k + 1) = bitsTo n k ++ [n / 2 ^ k % 2] := by simp [bitsTo, List.range_succ]
theorem bitsTo_length (n : Int) (k : Nat) : (bitsTo n k).length = k := by simp [bitsTo]
end Go.Proofs.YteefjmbgibbboaaDoor
