/- The program's seal: Blank; what Make builds, as lists. -/
import Derived.Test.YtpmhjmbiiihfoaaDoorRSeal3
import Derived.Test.YtpmhjmbiiihfoaaDoorCopy
import Derived.Laws.ResultCell
namespace Go.Proofs.YtpmhjmbiiihfoaaDoor
open Go.RowKit Go.Deep
set_option linter.unusedSimpArgs false
set_option linter.unusedVariables false

theorem results_arr_int {P : Program} {fn : Func} {p u : Tmp} {ty : TypeId} (h : fn.results = #[.cell p ty, .tmp u]) (tmps : Array Value) (w : World) (g : Nat) (t : TypeId) (cs : Array Value) (fr : Nat × Nat) (d : TypeDesc)
    (hp : tmps.getD p undef = .pointer (some ⟨g, 0, none⟩)) (hg : w.heap[g]? = some (.cells cs t fr))
    (hu : P.underlying ty = some d) (hd : (match d with | .struct _ | .array _ _ => true | _ => false) = true) (hi : (P.info? ty).map (·.size) = some cs.size) (z : Value) (hz : tmps.getD u undef = z) :
    (results fn tmps).run P w = .ok (.tuple #[.agg cs, z]) w := by
  rw [results_cell_tmp h, hp, hz]
  simp [asAddr, run_loadVar_row w g t ty cs fr d hg hu hd hi, Result.andThen]

/-- An array that was answered, kept in a block of its own. -/
theorem arr_new (w7 : World) (r : List Int) (hr : r.length = 128) : ∃ w8, w8 = (w7.alloc (.cells Tryd.zeroCells24 24)).setCells w7.heap.size 0 (u8s r) ∧ Below w7.heap.size w7 w8 ∧ Blk w8 w7.heap.size 24 (u8s r)
    ∧ (w7.alloc (.cells Tryd.zeroCells24 24)).there w7.heap.size 0 (u8s r).toArray.size ∧ (Tryd.prog.info? 24).map (·.size) = some (u8s r).toArray.size ∧ (Tryd.prog.info? 24).map (·.size) = some (u8s r).length := by
  have hz := zero_new w7
  exact ⟨_, rfl, below_setCells (below_alloc _ _) (Nat.le_refl _) _ _, setCells_whole hz (by simp [hr, zeros_len]), hz.there (by rw [List.size_toArray, List.length_map, List.length_map, hr, zeros_len]; omega), by rw [size_arr, List.size_toArray, List.length_map, hr], by rw [size_arr, List.length_map, hr]⟩

/-- An array argument, kept in a block of its own. -/
theorem box_new7 (w : World) (bs : List Int) (hl : bs.length = 128) : ∃ w1, w1 = w.alloc (.cells (u8s bs).toArray 24) ∧ Blk w1 w.heap.size 24 (u8s bs) ∧ Below w.heap.size w w1 ∧ (Tryd.prog.info? 24).map (·.size) = some (u8s bs).length :=
  ⟨_, rfl, Blk.new w 24 (u8s bs), below_alloc _ _, by rw [size_arr, List.length_map, hl]⟩

set_option maxRecDepth 100000 in
set_option maxHeartbeats 3200000 in
theorem pblank_is (bs : List Int) (hl : bs.length = 128) (hb : Bytes bs) (w : World) (q : Bool) (hq : q = decide (bs = zeros128)) :
    Calls Tryd.prog 12 #[.agg (u8s bs).toArray] w fun e w' => e = .returned (.bool q) ∧ Below w.heap.size w w' := by
  obtain ⟨w1, hw1, hB, hb1, hsz⟩ := box_new7 w bs hl
  have heq : (Op.equalIn 10000 24 (.agg (u8s bs).toArray) (.agg (u8s zeros128).toArray)).run Tryd.prog w1 = .ok q w1 := by
    rw [hq]; exact arr128_eq bs zeros128 hl zeros_len w1
  rw [← zero_arr] at heq
  have Hw1 := Lib.hid hw1; have Hr := Lib.hid hB.range
  clear hw1 hB hq hb hl
  go_enter Tryd.func12, Tryd.ntmps12
  go_wp2_with (rw [← Hw1.out]; refine wpList_load_mid rfl 24 (.tmp 1) rfl w.heap.size 0 rfl (u8s bs) _ Hr.out Tryd.underlying24 rfl hsz ?_)
  go_ret
  exact ⟨rfl, hb1⟩

/-- What Make builds, step by step. -/
def built (kind n : Int) (load : List Int) : List Int := over 10 load ((over 1 (bytesOf n) (zeros128.set 0 kind)).set 9 (load.length : Int))
theorem built_len (kind n : Int) {load : List Int} (hl : load.length ≤ 113) : (built kind n load).length = 128 := by
  have h1 : (over 1 (bytesOf n) (zeros128.set 0 kind)).length = 128 := by
    rw [over_len (by rw [bytesOf_len, List.length_set, zeros_len]; omega), List.length_set, zeros_len]
  unfold built
  rw [over_len (by rw [List.length_set, h1]; omega), List.length_set, h1]
theorem built_at (kind n : Int) {load : List Int} (hl : load.length ≤ 113) {i : Nat} (hi : i < 123) : (built kind n load)[i]? = (sealed kind n load)[i]? := by
  have h1 : (over 1 (bytesOf n) (zeros128.set 0 kind)).length = 128 := by
    rw [over_len (by rw [bytesOf_len, List.length_set, zeros_len]; omega), List.length_set, zeros_len]
  unfold built
  rw [over_at (by rw [List.length_set, h1]; omega), sealed_at kind n hl]
  by_cases h10 : 10 ≤ i ∧ i < 10 + load.length
  · rw [if_pos h10, if_neg (by omega), if_neg (by omega), if_neg (by omega), if_pos h10.2]
  · rw [if_neg h10, set_at_int _ _ _ _ (by rw [h1]; omega)]
    by_cases h9 : i = 9
    · subst h9; rw [if_pos rfl, if_neg (by omega), if_neg (by omega), if_pos rfl]
    · rw [if_neg h9, over_at (by rw [bytesOf_len, List.length_set, zeros_len]; omega), bytesOf_len]
      by_cases h1 : 1 ≤ i ∧ i < 1 + 8
      · rw [if_pos h1, if_neg (by omega), if_pos (by omega)]
      · rw [if_neg h1, set_at_int _ _ _ _ (by rw [zeros_len]; omega)]
        by_cases h0 : i = 0
        · subst h0; rw [if_pos rfl, if_pos rfl]
        · rw [if_neg h0, if_neg h0, if_neg (by omega), if_neg h9, if_neg (by omega), if_pos hi, zeros128, List.getElem?_replicate, if_pos (by omega)]
theorem built_head (kind n : Int) {load : List Int} (hl : load.length ≤ 113) : (built kind n load).take 123 = headOf kind n load := by
  rw [← sealOf_head (head_len kind n hl)]
  apply List.ext_getElem?
  intro i
  rw [List.getElem?_take, List.getElem?_take]
  by_cases hi : i < 123
  · rw [if_pos hi, if_pos hi, built_at kind n hl hi]; rfl
  · rw [if_neg hi, if_neg hi]
theorem built_all (kind n : Int) {load : List Int} (hl : load.length ≤ 113) : (over 123 (four (sumOf (headOf kind n load))) (built kind n load)).set 127 215 = sealed kind n load := by
  have h1 := built_len kind n hl
  apply List.ext_getElem?
  intro i
  rw [set_at_int _ _ _ _ (by rw [over_len (by rw [four_len, h1]; omega), h1]; omega), over_at (by rw [four_len, h1]; omega), four_len]
  by_cases h127 : i = 127
  · subst h127; rw [if_pos rfl, sealed_127 kind n hl]
  · rw [if_neg h127]
    by_cases h4 : 123 ≤ i ∧ i < 123 + 4
    · rw [if_pos h4, sealed_at kind n hl, if_neg (by omega), if_neg (by omega), if_neg (by omega), if_neg (by omega), if_neg (by omega), if_pos (by omega)]
    · rw [if_neg h4]
      by_cases hi : i < 123
      · exact built_at kind n hl hi
      · rw [List.getElem?_eq_none (by omega), List.getElem?_eq_none (by rw [sealed_len kind n hl]; omega)]
theorem four_of {s b0 b1 b2 b3 : Nat} (h0 : b0 < 256) (h1 : b1 < 256) (h2 : b2 < 256) (h3 : b3 < 256) (h : b0 + 256 * b1 + 65536 * b2 + 16777216 * b3 = s) : four s = [(b0 : Int), (b1 : Int), (b2 : Int), (b3 : Int)] := by
  subst h
  simp only [four, List.cons.injEq, and_true]
  refine ⟨?_, ?_, ?_, ?_⟩ <;> omega
end Go.Proofs.YtpmhjmbiiihfoaaDoor
