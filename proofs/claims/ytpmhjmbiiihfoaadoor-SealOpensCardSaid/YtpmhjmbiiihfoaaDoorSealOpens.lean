/- The law SealOpens, walked. -/
import Derived.Test.YtpmhjmbiiihfoaaDoorAwake7
namespace Go.Proofs.YtpmhjmbiiihfoaaDoor
open Go.RowKit Go.Deep
set_option linter.unusedSimpArgs false
set_option linter.unusedVariables false

set_option maxRecDepth 100000 in
set_option maxHeartbeats 6400000 in
theorem sealOpens_walk (w : World) (ht : Tabs w) (bs : List Int) (hl : bs.length = 128) (hbb : Bytes bs) (kind : Int) (hkb : -9223372036854775808 ≤ kind ∧ kind ≤ 9223372036854775807) :
    Calls Tryd.prog 4 #[.agg (u8s bs).toArray, .int .i64 kind] w fun e w' => e = .returned (.bool true) ∧ Below w.heap.size w w' := by
  obtain ⟨wa, hwa⟩ : ∃ wa, wa = w.alloc (.cells (u8s bs).toArray 24) := ⟨_, rfl⟩
  have hBa : Blk wa w.heap.size 24 (u8s bs) := by rw [hwa]; exact Blk.new w 24 (u8s bs)
  have hba : Below w.heap.size w wa := by rw [hwa]; exact below_alloc _ _
  have Hta := Lib.hid (ht.below hba)
  have hsL : (Tryd.prog.info? 24).map (·.size) = some (u8s bs).length := by rw [size_arr, List.length_map, hl]
  have Hwa := Lib.hid hwa; have Hl := Lib.hid hl; have Hbb := Lib.hid hbb
  clear hwa hl hbb ht
  go_enter Tryd.func4, Tryd.ntmps4
  go_wp2_with fail
  rw [← Hwa.out]
  refine (awake7_any wa Hta.out).mono ?_
  rintro e w1 ⟨rfl, hb1⟩
  have hbt1 : Below w.heap.size w w1 := hba.trans (hb1.mono hba.size)
  have hB1 := hBa.kept (hb1.block _ hBa.lt)
  have Ht1 := Lib.hid (Hta.out.below hb1)
  obtain ⟨bb, hbbe⟩ : ∃ bb, bb = w.heap.size := ⟨_, rfl⟩
  have hbbl : w.heap.size ≤ bb := by omega
  rw [← hbbe] at hB1 ⊢
  have Hbbe := Lib.hid hbbe
  have Hrange1 := Lib.hid hB1.range
  clear hbbe hba hb1 hBa Hwa Hta
  go_wp2_with (refine wpList_load_mid rfl 24 (.tmp 2) rfl bb 0 rfl (u8s bs) _ Hrange1.out Tryd.underlying24 rfl hsL ?_)
  refine (popen_is bs Hl.out Hbb.out w1 Ht1.out kind hkb).mono ?_
  rintro e w2 ⟨n, l, B, c, er, rfl, hs2, hsay, hb2⟩
  have hbt2 : Below w.heap.size w w2 := hbt1.trans (hb2.mono hbt1.size)
  have hB2 := hB1.kept (hb2.block _ hB1.lt)
  have Ht2 := Lib.hid (Ht1.out.below hb2)
  have Hsay := Lib.hid hsay
  have hbd := hsay.bounds
  clear hb2 hsay hbt1 hB1 Hrange1 Ht1
  go_wp2_with fail
  refine (ropen_any bb 24 bs Hl.out Hbb.out w2 hB2 kind hkb).mono ?_
  rintro e w3 ⟨n2, l2, B2, c2, er2, rfl, hs3, hsay2, hb3⟩
  obtain ⟨e1, e2, e3⟩ := hsay2.one Hsay.out
  subst e1 e2 e3
  have hbt3 : Below w.heap.size w w3 := hbt2.trans (hb3.mono hbt2.size)
  have hB3 := hB2.kept (hb3.block _ hB2.lt)
  have Ht3 := Lib.hid (Ht2.out.below hb3)
  have hs23 := hs2.below hb3
  obtain ⟨ll, hll⟩ : ∃ ll, ll = l2.length := ⟨_, rfl⟩
  have hll113 : ll ≤ 113 := by rw [hll]; exact hbd.2.1
  have hnb := hbd.1
  have hlb := Lib.hid hbd.2.2.1
  rw [← hll] at hs3 hs23 ⊢
  have Hll := Lib.hid hll
  clear hb3 hsay2 hbt2 hB2 Ht2 hs2 hll hbd
  go_wp2_with fail
  refine (same_is7 true B B2 ll ll c c2 l2 l2 w3 hs23 hs3 (by omega) (by omega) (by simp)).mono ?_
  rintro e w4 ⟨rfl, hb4⟩
  have hbt4 : Below w.heap.size w w4 := hbt3.trans (hb4.mono hbt3.size)
  have hB4 := hB3.kept (hb4.block _ hB3.lt)
  have Ht4 := Lib.hid (Ht3.out.below hb4)
  have hs4 := hs23.below hb4
  clear hb4 hbt3 hB3 Ht3 hs23 hs3
  by_cases he : ¬ er2 = 0
  · have hne : (er2 != 0) = true := by simpa using he
    clear he
    go_wp2_with fail
    go_ret
    exact ⟨rfl, hbt4⟩
  replace he := Classical.not_not.1 he
  subst he
  have Hsb := Lib.hid (show SealedBy bs kind n2 l2 by
    rcases Hsay.out with ⟨_, h⟩ | ⟨h, _⟩
    · exact h
    · exact absurd h (by decide))
  have hzero : makeErr kind n2 ll = 0 := makeErr_zero.2 ⟨Hsb.out.2.1, Hsb.out.2.2.1, Hsb.out.2.2.2.1, hll113⟩
  have Hmk := Lib.hid (show bs = makeOf kind n2 l2 by rw [makeOf, if_pos (by rw [← Hll.out]; exact hzero)]; exact Hsb.out.1)
  have Hz := Lib.hid hzero.symm
  clear hzero
  have Hrange4 := Lib.hid hB4.range
  go_wp2_with fail
  refine (pmake_is kind n2 hkb (by omega) B ll c l2 w4 Ht4.out hs4 hlb.out (by omega) bs 0 Hmk.out Hz.out).mono ?_
  rintro e w5 ⟨rfl, hb5⟩
  obtain ⟨w6, hw6, hb6, hB6, hth, hsA, _⟩ := arr_new w5 bs Hl.out
  have hbt6 : Below w.heap.size w w6 := hbt4.trans ((hb5.trans (hb6.mono hb5.size)).mono hbt4.size)
  have hB46 := (hB4.kept (hb5.block _ hB4.lt))
  have hB46 := hB46.kept (hb6.block _ hB46.lt)
  have Hw6 := Lib.hid hw6; have Hth := Lib.hid hth
  have Hr6 := Lib.hid hB6.range; have Hr46 := Lib.hid hB46.range
  have Heq := Lib.hid (show (Op.equalIn 10000 24 (.agg (u8s bs).toArray) (.agg (u8s bs).toArray)).run Tryd.prog w6 = .ok true w6 by
    have := arr128_eq bs bs Hl.out Hl.out w6
    rw [decide_eq_true rfl] at this
    exact this)
  clear hw6 hth hb5 hb6 hB46 hB6 hB4 hbt4 hs4 Hsay Hsb Hmk Hz Hrange4
  have heq := Heq.out
  go_wp2_with (first
    | (refine wpList_store_mid rfl 24 (.tmp 11) (.tmp 50) rfl w5.heap.size 0 (u8s bs).toArray rfl rfl Hth.out hsA (all_oneCell_toArray (one_u8s _)) ?_; rw [show (u8s bs).toArray.toList = u8s bs from rfl, ← Hw6.out])
    | (refine wpList_load_want (by rfl) 24 (.tmp 11) rfl w5.heap.size 0 rfl (u8s bs) _ Hr6.out Tryd.underlying24 rfl hsL ?_)
    | (refine wpList_load_want (by rfl) 24 (.tmp 2) rfl bb 0 rfl (u8s bs) _ Hr46.out Tryd.underlying24 rfl hsL ?_))
  go_ret
  exact ⟨rfl, hbt6⟩
end Go.Proofs.YtpmhjmbiiihfoaaDoor
