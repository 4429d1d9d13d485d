/- The law SealMakes, walked. -/
import Derived.Test.YtpmhjmbiiihfoaaDoorAwake7
namespace Go.Proofs.YtpmhjmbiiihfoaaDoor
open Go.RowKit Go.Deep
set_option linter.unusedSimpArgs false
set_option linter.unusedVariables false

theorem zeros_bytes : Bytes zeros128 := fun u hu => by have := List.eq_of_mem_replicate hu; omega

set_option maxRecDepth 100000 in
set_option maxHeartbeats 6400000 in
theorem sealMakes_walk (w : World) (ht : Tabs w) (kind : Int) (hkb : -9223372036854775808 ≤ kind ∧ kind ≤ 9223372036854775807) (n : Int) (hnb : -9223372036854775808 ≤ n ∧ n ≤ 9223372036854775807)
    (A : Option Addr) (m c : Nat) (load : List Int) (hx : Sl w A m (u8s load)) (hb : ∀ x ∈ load, 0 ≤ x ∧ x < 256) (hm : m ≤ 9223372036854775807) :
    Calls Tryd.prog 3 #[.int .i64 kind, .int .i64 n, .slice A m c] w fun e w' => e = .returned (.bool true) ∧ Below w.heap.size w w' := by
  have hlen : load.length = m := by simpa using hx.1
  have Hb := Lib.hid hb
  obtain ⟨bs, hbs⟩ : ∃ bs, bs = makeOf kind n load := ⟨_, rfl⟩
  obtain ⟨er, her⟩ : ∃ er, er = makeErr kind n m := ⟨_, rfl⟩
  have hl : bs.length = 128 := by rw [hbs]; exact makeOf_len _ _ _
  have hbb : Bytes bs := by rw [hbs]; exact makeOf_bytes Hb.out
  obtain ⟨q, hq⟩ : ∃ q, q = decide (bs = zeros128) := ⟨_, rfl⟩
  have hqe : (er != 0) = q := by
    rw [hq, hbs, makeOf_blank, hlen, ← her]
    by_cases h : er = 0
    · simp [h]
    · simp [h]
  have Hbs := Lib.hid hbs; have Her := Lib.hid her; have Hl := Lib.hid hl; have Hbb := Lib.hid hbb; have Hq := Lib.hid hq
  clear hlen hb hbs her hl hbb hq
  go_enter Tryd.func3, Tryd.ntmps3
  go_wp2_with fail
  refine (awake7_any w ht).mono ?_
  rintro e w1 ⟨rfl, hb1⟩
  have ht1 := ht.below hb1
  have hx1 := hx.below hb1
  by_cases h3 : 300 < m
  · have hd : decide (300 < (m : Int)) = true := decide_eq_true (by omega)
    go_wp2_with fail
    go_ret
    exact ⟨rfl, hb1⟩
  have hd : decide (300 < (m : Int)) = false := decide_eq_false (by omega)
  go_wp2_with fail
  refine (pmake_is kind n hkb hnb A m c load w1 ht1 hx1 Hb.out hm bs er Hbs.out Her.out).mono ?_
  rintro e w2 ⟨rfl, hb2⟩
  obtain ⟨w3, hw3, hb3, hB3, hth, hsA, hsL⟩ := arr_new w2 bs Hl.out
  have hbt3 : Below w.heap.size w w3 := hb1.trans ((hb2.trans (hb3.mono hb2.size)).mono hb1.size)
  have hx3 := hx.below hbt3
  have Hw3 := Lib.hid hw3; have Hth := Lib.hid hth
  obtain ⟨bb, hbb⟩ : ∃ bb, bb = w2.heap.size := ⟨_, rfl⟩
  rw [← hbb] at hB3
  have Hbb2 := Lib.hid hbb
  clear hw3 hth hbb hb1 hb2 hb3 ht1 hx1 hx ht
  go_wp2_with (refine wpList_store_mid rfl 24 (.tmp 7) (.tmp 21) rfl w2.heap.size 0 (u8s bs).toArray rfl rfl Hth.out hsA (all_oneCell_toArray (one_u8s _)) ?_; rw [show (u8s bs).toArray.toList = u8s bs from rfl, ← Hw3.out, ← Hbb2.out])
  refine (rmake_is kind n hkb hnb A m c load w3 hx3 Hb.out hm bs er Hbs.out Her.out).mono ?_
  rintro e w4 ⟨B, cc, rfl, hs4, hb4⟩
  have hbt4 := hbt3.trans (hb4.mono hbt3.size)
  have hB4 := hB3.kept (hb4.block _ hB3.lt)
  have hsl4 := hB4.cut8 0 128 (by rw [Hl.out]; omega)
  rw [List.drop_zero, List.take_of_length_le (by rw [Hl.out]; omega)] at hsl4
  clear hb4 Hw3 Hth hbt3 hB3 hx3
  go_wp2_with fail
  refine (same_is7 true (some ⟨bb, 0, none⟩) B 128 128 128 cc bs bs w4 hsl4 hs4 (by omega) (by omega) (by simp)).mono ?_
  rintro e w5 ⟨rfl, hb5⟩
  have hbt5 := hbt4.trans (hb5.mono hbt4.size)
  have hB5 := hB4.kept (hb5.block _ hB4.lt)
  clear hb5 hB4 hbt4 hsl4 hs4
  go_wp2_with fail
  rw [zero_arr]
  refine (pblank_is zeros128 zeros_len zeros_bytes w5 true (by simp)).mono ?_
  rintro e w6 ⟨rfl, hb6⟩
  have hbt6 := hbt5.trans (hb6.mono hbt5.size)
  have hB6 := hB5.kept (hb6.block _ hB5.lt)
  have Hrange := Lib.hid hB6.range
  clear hb6 hB5 hbt5 hB6
  go_wp2_with fail
  refine wp_load_mid 24 (.tmp 7) rfl bb 0 rfl (u8s bs) _ Hrange.out Tryd.underlying24 rfl hsL ?_
  go_wp2_with fail
  refine (pblank_is bs Hl.out Hbb.out w6 q Hq.out).mono ?_
  rintro e w7 ⟨rfl, hb7⟩
  have hbt7 := hbt6.trans (hb7.mono hbt6.size)
  go_wp2_with fail
  go_ret
  exact ⟨rfl, hbt7⟩
end Go.Proofs.YtpmhjmbiiihfoaaDoor
