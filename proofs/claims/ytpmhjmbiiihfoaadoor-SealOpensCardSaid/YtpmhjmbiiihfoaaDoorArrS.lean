/- Arrays of 128 bytes, by value. -/
import Derived.Test.YtpmhjmbiiihfoaaDoorArr0
namespace Go.Proofs.YtpmhjmbiiihfoaaDoor
open Go.RowKit Go.Deep
set_option linter.unusedSimpArgs false
set_option linter.unusedVariables false

def zeros128 : List Int := List.replicate 128 0
theorem zeros_len : zeros128.length = 128 := by simp [zeros128]
/-- The zero of an array of 128 bytes (in a seat that is loaded in parts the loader names it so itself: then these four rows go). -/
def Tryd.zeroCells24 : Array Value := (u8s zeros128).toArray
theorem zero_arr : Tryd.zeroCells24 = (u8s zeros128).toArray := rfl
theorem zero_size : Tryd.zeroCells24.size = 128 := by kernel_rfl
theorem zero_ne : ¬ Tryd.zeroCells24 = #[] := by intro h; have := zero_size; rw [h] at this; simp at this
theorem zero_val (w : World) : (zeroValue 24).run Tryd.prog w = .ok (.agg Tryd.zeroCells24) w := by kernel_rfl
attribute [simp] zero_val zero_size zero_ne
attribute [irreducible] Tryd.zeroCells24
theorem size_arr : (Tryd.prog.info? 24).map (·.size) = some 128 := by kernel_rfl

theorem arr128_eq (xs ys : List Int) (hx : xs.length = 128) (hy : ys.length = 128) (w : World) :
    (Op.equalIn 10000 24 (.agg (u8s xs).toArray) (.agg (u8s ys).toArray)).run Tryd.prog w = .ok (decide (xs = ys)) w := by
  obtain ⟨i, hi, _⟩ := info_parts info_u8
  exact arr_eq Tryd.underlying24 hi (by kernel_rfl) (by kernel_rfl) Tryd.underlying5 9998 xs ys hx hy w
theorem zero_new (w : World) : Blk (w.alloc (.cells Tryd.zeroCells24 24)) w.heap.size 24 (u8s zeros128) := by
  rw [zero_arr]; exact Blk.new w 24 (u8s zeros128)
end Go.Proofs.YtpmhjmbiiihfoaaDoor
