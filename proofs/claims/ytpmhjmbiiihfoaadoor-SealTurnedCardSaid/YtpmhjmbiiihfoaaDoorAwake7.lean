/- The laws' example: kind 4, number 0, no load. -/
import Derived.Test.YtpmhjmbiiihfoaaDoorPSeal
namespace Go.Proofs.YtpmhjmbiiihfoaaDoor
open Go.RowKit Go.Deep
set_option linter.unusedSimpArgs false
set_option linter.unusedVariables false

set_option maxRecDepth 100000 in
set_option maxHeartbeats 3200000 in
theorem awake7_any (w : World) (ht : Tabs w) : Calls Tryd.prog 8 #[] w fun e w' => e = .returned (.bool true) ∧ Below w.heap.size w w' := by
  obtain ⟨bs, hbs⟩ : ∃ bs, bs = makeOf 4 0 [] := ⟨_, rfl⟩
  have hl : bs.length = 128 := by rw [hbs]; exact makeOf_len _ _ _
  have he : (0 : Int) = makeErr 4 0 0 := by decide
  have hs : bs = sealed 4 0 [] := by rw [hbs, makeOf, if_pos (show makeErr 4 0 ([] : List Int).length = 0 from he.symm)]
  have h0 : bs[0]? = some 4 := by rw [hs]; rfl
  have h127 : bs[127]? = some 215 := by rw [hs]; exact sealed_127 4 0 (by decide)
  have Hbs := Lib.hid hbs; have He := Lib.hid he; have Hl := Lib.hid hl; have H0 := Lib.hid h0; have H127 := Lib.hid h127
  clear hbs hs he hl h0 h127
  go_enter Tryd.func8, Tryd.ntmps8
  go_wp2_with fail
  refine (pmake_is 4 0 (by omega) (by omega) none 0 0 [] w ht (Sl.nil_ _ _) (fun u hu => by simp at hu) (by omega) bs 0 Hbs.out He.out).mono ?_
  rintro e w1 ⟨rfl, hb1⟩
  obtain ⟨w2, hw2, hb2, hB2, hth, hsA, hsL⟩ := arr_new w1 bs Hl.out
  have hc0 : w2.cell? ⟨w1.heap.size, 0, none⟩ = some (.int .u8 4) := hB2.cell (by rw [List.getElem?_map, H0.out]; rfl)
  have hc127 : w2.cell? ⟨w1.heap.size, 127, none⟩ = some (.int .u8 215) := hB2.cell (by rw [List.getElem?_map, H127.out]; rfl)
  have Hw2 := Lib.hid hw2; have Hth := Lib.hid hth
  have hbt : Below w.heap.size w w2 := hb1.trans (hb2.mono hb1.size)
  clear hw2 hth hb2 hB2 hb1
  go_wp2_with (refine wpList_store_mid rfl 24 (.tmp 1) (.tmp 5) rfl w1.heap.size 0 (u8s bs).toArray rfl rfl Hth.out hsA (all_oneCell_toArray (one_u8s _)) ?_; rw [show (u8s bs).toArray.toList = u8s bs from rfl, ← Hw2.out])
  go_ret
  exact ⟨rfl, hbt⟩
end Go.Proofs.YtpmhjmbiiihfoaaDoor
