/- Full: a sector that begins with bytes, and goes on with them. -/
import Derived.Test.YthdclncgmhgmfaaArr
namespace Go.Proofs.Ythdclncgmhgmfaa
open Go.RowKit Go.Deep
set_option linter.unusedSimpArgs false
set_option linter.unusedVariables false

def fullOf (xs : List Int) : List Int := (List.range 128).map fun i => if xs.length = 0 then 0 else xs.getD (i % xs.length) 0
def fullTo (xs : List Int) (k : Nat) : List Int := (fullOf xs).take k ++ zeros128.drop k
theorem fullOf_len (xs : List Int) : (fullOf xs).length = 128 := by simp [fullOf]
theorem zeros_len : zeros128.length = 128 := by simp [zeros128]
theorem fullTo_len (xs : List Int) (k : Nat) (hk : k ≤ 128) : (fullTo xs k).length = 128 := by
  unfold fullTo; rw [List.length_append, List.length_take, List.length_drop, fullOf_len, zeros_len]; omega
theorem fullTo_succ (xs : List Int) (k : Nat) (hk : k < 128) : (fullTo xs k).set k ((fullOf xs).getD k 0) = fullTo xs (k + 1) := by
  apply List.ext_getElem?
  intro i
  unfold fullTo
  by_cases hi : i = k
  · subst hi
    rw [List.getElem?_set_self (by rw [List.length_append, List.length_take, List.length_drop, fullOf_len, zeros_len]; omega)]
    rw [List.getElem?_append_left (by rw [List.length_take, fullOf_len]; omega), List.getElem?_take, if_pos (by omega)]
    simp [List.getD, fullOf_len, hk]
  · rw [List.getElem?_set_ne (fun e => hi e.symm)]
    by_cases hl : i < k
    · rw [List.getElem?_append_left (by rw [List.length_take, fullOf_len]; omega), List.getElem?_append_left (by rw [List.length_take, fullOf_len]; omega), List.getElem?_take, List.getElem?_take, if_pos hl, if_pos (by omega)]
    · rw [List.getElem?_append_right (by rw [List.length_take, fullOf_len]; omega), List.getElem?_append_right (by rw [List.length_take, fullOf_len]; omega), List.getElem?_drop, List.getElem?_drop]
      congr 1
      simp only [List.length_take, fullOf_len]; omega
theorem fullOf_byte {xs : List Int} (h : ∀ x ∈ xs, 0 ≤ x ∧ x < 256) : Byte128 (fullOf xs) := by
  refine ⟨fullOf_len xs, fun x hx => ?_⟩
  obtain ⟨i, _, rfl⟩ := List.mem_map.1 hx
  split
  · omega
  · simp only [List.getD]
    cases he : xs[i % xs.length]? with
    | none => simp
    | some y => exact h y (List.mem_of_getElem? he)

set_option maxRecDepth 100000 in
set_option maxHeartbeats 1600000 in
theorem full_is (w : World) (A : Option Addr) (n c : Nat) (xs : List Int) (hx : Sl w A n (u8s xs)) (hn : n ≤ 9223372036854775807) :
    Calls Try.prog 24 #[.slice A n c] w fun e w' => e = .returned (.agg (u8s (fullOf xs)).toArray) ∧ Below w.heap.size w w' := by
  have hln : xs.length = n := by simpa using hx.1
  have Hln := Lib.hid hln
  obtain ⟨w1, hw1⟩ : ∃ w1, w1 = (w.alloc (.cells Try.zeroCells52 52)).alloc (.cells Try.zeroCells52 52) := ⟨_, rfl⟩
  have hs0 : (w.alloc (.cells Try.zeroCells52 52)).heap.size = w.heap.size + 1 := nblk_alloc _ _
  have hb1 : Below w.heap.size w w1 := by rw [hw1]; exact (below_alloc w _).trans ((below_alloc _ _).mono (by rw [hs0]; omega))
  have hr1 : Blk w1 w.heap.size 52 (u8s zeros128) := by
    rw [hw1, zero_arr]; exact (Blk.new w 52 (u8s zeros128)).alloc _
  have ho1 : Blk w1 (w.heap.size + 1) 52 (u8s (fullTo xs 0)) := by
    rw [hw1, ← hs0, zero_arr]; exact Blk.new _ 52 (u8s zeros128)
  have Hw1 := Lib.hid hw1
  clear hw1 hln hs0
  go_enter Try.func24, Try.ntmps24
  go_wp2_with fail
  rw [← Hw1.out]
  clear Hw1
  go_loopw [5] (fun i wr => ∃ k : Nat, k ≤ 128 ∧ i = .int .i64 k ∧ Blk wr (w.heap.size + 1) 52 (u8s (fullTo xs k)) ∧ Blk wr w.heap.size 52 (u8s zeros128) ∧ Below w.heap.size w wr) (fun i _ => 128 - (intOf i).toNat)
  case atStart => exact ⟨0, by omega, rfl, ho1, hr1, hb1⟩
  case round =>
    clear ho1 hr1 hb1
    obtain ⟨k, hk, rfl, ho, hr, hb⟩ := hrel
    by_cases hlt : k < 128
    · have hcell : ∃ old, wr.cell? ⟨w.heap.size + 1, k, none⟩ = some old := ⟨_, ho.cell (List.getElem?_eq_getElem (by rw [List.length_map, fullTo_len xs k hk]; exact hlt))⟩
      obtain ⟨old, hold⟩ := hcell
      have hfr := ho.frozen k
      by_cases hn0 : n = 0
      · have Hnext := Lib.hid (show fullTo xs (k + 1) = fullTo xs k by
          rw [← fullTo_succ xs k hlt]
          apply List.ext_getElem?
          intro i
          by_cases hi : i = k
          · subst hi
            rw [List.getElem?_set_self (by rw [fullTo_len xs i hk]; exact hlt)]
            unfold fullTo
            rw [List.getElem?_append_right (by rw [List.length_take, fullOf_len]; omega), List.getElem?_drop]
            have e : i + (i - ((fullOf xs).take i).length) = i := by rw [List.length_take, fullOf_len]; omega
            rw [e]
            unfold zeros128
            rw [List.getElem?_replicate, if_pos hlt]
            congr 1
            simp only [List.getD, fullOf, List.getElem?_map, List.getElem?_range hlt, Option.map_some, Option.getD_some]
            rw [if_pos (by rw [Hln.out]; exact hn0)]
          · rw [List.getElem?_set_ne (fun e => hi e.symm)])
        subst hn0
        go_wp2
        go_roundw
        case rel => exact ⟨k + 1, by omega, by go_num, by rw [Hnext.out]; exact ho, hr, hb⟩
        case measure => simp [intOf]; omega
      · obtain ⟨m, hm⟩ : ∃ m, m = k % n := ⟨_, rfl⟩
        have hmn : m < n := by rw [hm]; exact Nat.mod_lt _ (by omega)
        obtain ⟨ad, u, rfl, hcu, hu⟩ := (hx.below hb).num hmn
        have Hnext := Lib.hid (show (fullTo xs k).set k u = fullTo xs (k + 1) by
          rw [← fullTo_succ xs k hlt]
          congr 1
          simp only [List.getD, fullOf, List.getElem?_map, List.getElem?_range hlt, Option.map_some, Option.getD_some]
          rw [if_neg (by rw [Hln.out]; exact hn0), Hln.out, ← hm, hu]; rfl)
        have hmI : (k : Int).tmod (n : Int) = (m : Int) := by rw [Int.tmod_eq_emod_of_nonneg (by omega), hm]; omega
        have hnz : ¬ (n : Int) = 0 := by omega
        have hnp : (0 : Int) < (n : Int) := by omega
        have hmI2 : (m : Int) < (n : Int) := by omega
        clear hm hu
        go_wp2
        go_roundw
        case rel => exact ⟨k + 1, by omega, by go_num, by rw [← Hnext.out, ← set_u8]; exact ho.set k _, hr.setOther (by show w.heap.size ≠ w.heap.size + 1; omega) _, hb.setCell (by show w.heap.size ≤ w.heap.size + 1; omega) _⟩
        case measure => simp [intOf]; omega
    · obtain rfl : k = 128 := by omega
      have hfin : fullTo xs 128 = fullOf xs := by
        unfold fullTo
        rw [List.take_of_length_le (by rw [fullOf_len]; omega), List.drop_of_length_le (by rw [zeros_len]; omega), List.append_nil]
      rw [hfin] at ho
      have hsize : (Try.prog.info? 52).map (·.size) = some (u8s (fullOf xs)).length := by rw [size_arr, List.length_map, fullOf_len]
      have hsize2 : (Try.prog.info? 52).map (·.size) = some (u8s (fullOf xs)).toArray.size := by rw [size_arr, List.size_toArray, List.length_map, fullOf_len]
      have Hrange := Lib.hid ho.range
      have Hthere := Lib.hid (hr.there (n := (u8s (fullOf xs)).toArray.size) (by rw [List.size_toArray, List.length_map, List.length_map, fullOf_len, zeros_len]; omega))
      go_wp2_with (first
        | (refine wpList_load_mid rfl 52 (.tmp 3) rfl (w.heap.size + 1) 0 rfl (u8s (fullOf xs)) _ Hrange.out Try.underlying52 rfl hsize ?_)
        | (refine wpList_store_mid rfl 52 (.tmp 2) (.tmp 21) rfl w.heap.size 0 (u8s (fullOf xs)).toArray rfl rfl Hthere.out hsize2 (all_oneCell_toArray (one_u8s _)) ?_))
      refine bodyPost_ret (v := .agg (u8s (fullOf xs)).toArray) ?_ rfl ⟨rfl, below_setCells hb (Nat.le_refl _) _ _⟩
      exact results_cell_row rfl _ _ w.heap.size 52 _ (0, 0) _ rfl (setCells_whole hr (by simp [fullOf_len, zeros_len])) Try.underlying52 rfl hsize2
end Go.Proofs.Ythdclncgmhgmfaa
