/- The law SealBack, walked. -/
import Derived.Test.YtpmhjmbiiihfoaaDoorAwake7
namespace Go.Proofs.YtpmhjmbiiihfoaaDoor
open Go.RowKit Go.Deep
set_option linter.unusedSimpArgs false
set_option linter.unusedVariables false

set_option maxRecDepth 100000 in
set_option maxHeartbeats 6400000 in
theorem sealBack_walk (w : World) (ht : Tabs w) (kind : Int) (hkb : -9223372036854775808 ≤ kind ∧ kind ≤ 9223372036854775807) (n : Int) (hnb : -9223372036854775808 ≤ n ∧ n ≤ 9223372036854775807)
    (A : Option Addr) (m c : Nat) (load : List Int) (hx : Sl w A m (u8s load)) (hb : ∀ x ∈ load, 0 ≤ x ∧ x < 256) (hm : m ≤ 9223372036854775807) :
    Calls Tryd.prog 5 #[.int .i64 kind, .int .i64 n, .slice A m c] w fun e w' => e = .returned (.bool true) ∧ Below w.heap.size w w' := by
  have hlen : load.length = m := by simpa using hx.1
  have Hb := Lib.hid hb
  have Ht := Lib.hid ht
  obtain ⟨bs, hbs⟩ : ∃ bs, bs = makeOf kind n load := ⟨_, rfl⟩
  obtain ⟨er, her⟩ : ∃ er, er = makeErr kind n m := ⟨_, rfl⟩
  have hl : bs.length = 128 := by rw [hbs]; exact makeOf_len _ _ _
  have hbb : Bytes bs := by rw [hbs]; exact makeOf_bytes Hb.out
  have hgood : er = 0 → SealedBy bs kind n load := by
    intro h0
    rw [hbs]
    exact makeOf_sealed hnb.2 Hb.out (by rw [hlen, ← her, h0])
  have hno : er ≠ 0 → kind < 1 ∨ 255 < kind ∨ n < 0 ∨ 113 < m := by
    intro h0
    have := (not_congr (makeErr_zero (kind := kind) (n := n) (m := m))).1 (by rw [← her]; exact h0)
    omega
  have Hbs := Lib.hid hbs; have Her := Lib.hid her; have Hl := Lib.hid hl; have Hbb := Lib.hid hbb; have Hgood := Lib.hid hgood; have Hno := Lib.hid hno
  clear hlen hb hbs her hl hbb hgood hno
  go_enter Tryd.func5, Tryd.ntmps5
  go_wp2_with fail
  refine (awake7_any w ht).mono ?_
  rintro e w1 ⟨rfl, hb1⟩
  have ht1 := ht.below hb1
  have hx1 := hx.below hb1
  by_cases h3 : 300 < m
  · have hd : decide (300 < (m : Int)) = true := decide_eq_true (by omega)
    go_wp2_with fail
    go_ret
    exact ⟨rfl, hb1⟩
  have hd : decide (300 < (m : Int)) = false := decide_eq_false (by omega)
  go_wp2_with fail
  refine (pmake_is kind n hkb hnb A m c load w1 ht1 hx1 Hb.out hm bs er Hbs.out Her.out).mono ?_
  rintro e w2 ⟨rfl, hb2⟩
  obtain ⟨w3, hw3, hb3, hB3, hth, hsA, hsL⟩ := arr_new w2 bs Hl.out
  have hbt3 : Below w.heap.size w w3 := hb1.trans ((hb2.trans (hb3.mono hb2.size)).mono hb1.size)
  have hx3 := hx.below hbt3
  have Hw3 := Lib.hid hw3; have Hth := Lib.hid hth
  obtain ⟨bb, hbb⟩ : ∃ bb, bb = w2.heap.size := ⟨_, rfl⟩
  rw [← hbb] at hB3
  have Hbb2 := Lib.hid hbb
  clear hw3 hth hbb hb1 hb2 hb3 ht1 hx1 hx ht
  have Ht3 := Lib.hid (Ht.out.below hbt3)
  by_cases he : ¬ er = 0
  · have hne : (er != 0) = true := by simpa using he
    have Hwhy := Lib.hid (Hno.out he)
    clear he
    by_cases k1 : kind < 1
    · go_wp2_with (refine wpList_store_mid rfl 24 (.tmp 7) (.tmp 25) rfl w2.heap.size 0 (u8s bs).toArray rfl rfl Hth.out hsA (all_oneCell_toArray (one_u8s _)) ?_; rw [show (u8s bs).toArray.toList = u8s bs from rfl, ← Hw3.out, ← Hbb2.out])
      go_ret
      exact ⟨rfl, hbt3⟩
    by_cases k2 : 255 < kind
    · go_wp2_with (refine wpList_store_mid rfl 24 (.tmp 7) (.tmp 25) rfl w2.heap.size 0 (u8s bs).toArray rfl rfl Hth.out hsA (all_oneCell_toArray (one_u8s _)) ?_; rw [show (u8s bs).toArray.toList = u8s bs from rfl, ← Hw3.out, ← Hbb2.out])
      go_ret
      exact ⟨rfl, hbt3⟩
    by_cases k3 : n < 0
    · go_wp2_with (refine wpList_store_mid rfl 24 (.tmp 7) (.tmp 25) rfl w2.heap.size 0 (u8s bs).toArray rfl rfl Hth.out hsA (all_oneCell_toArray (one_u8s _)) ?_; rw [show (u8s bs).toArray.toList = u8s bs from rfl, ← Hw3.out, ← Hbb2.out])
      go_ret
      exact ⟨rfl, hbt3⟩
    have k4 : decide (113 < (m : Int)) = true := decide_eq_true (by have := Hwhy.out; omega)
    go_wp2_with (refine wpList_store_mid rfl 24 (.tmp 7) (.tmp 25) rfl w2.heap.size 0 (u8s bs).toArray rfl rfl Hth.out hsA (all_oneCell_toArray (one_u8s _)) ?_; rw [show (u8s bs).toArray.toList = u8s bs from rfl, ← Hw3.out, ← Hbb2.out])
    go_ret
    exact ⟨rfl, hbt3⟩
  replace he := Classical.not_not.1 he
  have Hgd := Lib.hid (Hgood.out he)
  subst he
  have hk := And.intro Hgd.out.2.1 Hgd.out.2.2.1
  obtain ⟨k2, hk2, hk3⟩ : ∃ k2, Int.tmod kind 255 + 1 = k2 ∧ k2 ≠ kind ∧ 1 ≤ k2 ∧ k2 ≤ 255 := by
    refine ⟨_, rfl, ?_⟩
    rw [Int.tmod_eq_emod_of_nonneg (by omega)]
    omega
  obtain ⟨km, hkm, hkm2⟩ : ∃ km, Int.tmod kind 255 = km ∧ 0 ≤ km ∧ km < 255 := by
    refine ⟨_, rfl, ?_⟩
    rw [Int.tmod_eq_emod_of_nonneg (by omega)]
    omega
  have hkm' : kind % 255 = km := by rw [← hkm, Int.tmod_eq_emod_of_nonneg (by omega)]
  rw [hkm] at hk2
  have hkw : IntKind.i64.wrap (km + 1) = k2 := by rw [IntKind.wrap_i64]; omega
  have Hrange3 := Lib.hid hB3.range
  have Hhk := Lib.hid hk; have Hk3 := Lib.hid hk3
  clear hk
  go_wp2_with (first | (refine wpList_store_mid rfl 24 (.tmp 7) (.tmp 25) rfl w2.heap.size 0 (u8s bs).toArray rfl rfl Hth.out hsA (all_oneCell_toArray (one_u8s _)) ?_; rw [show (u8s bs).toArray.toList = u8s bs from rfl, ← Hw3.out, ← Hbb2.out]) | (refine wpList_load_mid rfl 24 (.tmp 7) rfl bb 0 rfl (u8s bs) _ Hrange3.out Tryd.underlying24 rfl hsL ?_))
  refine (popen_is bs Hl.out Hbb.out w3 Ht3.out kind hkb).mono ?_
  rintro e w4 ⟨n', l, B, c', er', rfl, hs4, hsay, hb4⟩
  obtain ⟨e1, e2, e3⟩ := hsay.one (Or.inl ⟨rfl, Hgd.out⟩)
  subst e1 e2 e3
  have hbt4 := hbt3.trans (hb4.mono hbt3.size)
  have hB4 := hB3.kept (hb4.block _ hB3.lt)
  have Ht4 := Lib.hid (Ht.out.below hbt4)
  have Hrange4 := Lib.hid hB4.range
  have hx4 := hx3.below hb4
  clear Hrange3 hB3 hb4 hbt3 hx3 Hw3 Hth hsay
  go_wp2_with (refine wpList_load_mid rfl 24 (.tmp 7) rfl bb 0 rfl (u8s bs) _ Hrange4.out Tryd.underlying24 rfl hsL ?_)
  refine (popen_is bs Hl.out Hbb.out w4 Ht4.out k2 ⟨by have := Hk3.out; omega, by have := Hk3.out; omega⟩).mono ?_
  rintro e w5 ⟨n2, l2, B2, c2, er2, rfl, hs5, hsay2, hb5⟩
  have her2 : er2 = 53 := by
    rcases hsay2 with ⟨_, h2⟩ | ⟨h2, _⟩
    · exact absurd (h2.not0 (by rw [Hgd.out.1]; rfl)).symm Hk3.out.1
    · exact h2
  subst her2
  have hbt5 := hbt4.trans (hb5.mono hbt4.size)
  have hs45 := hs4.below hb5
  have hx5 := hx4.below hb5
  have hl113 : l.length ≤ 113 := Hgd.out.2.2.2.2.2.1
  obtain ⟨ll, hll⟩ : ∃ ll, ll = l.length := ⟨_, rfl⟩
  rw [← hll] at hs45 hl113 ⊢
  obtain ⟨l2l, hl2l⟩ : ∃ ll, ll = l2.length := ⟨_, rfl⟩
  rw [← hl2l]
  clear hll hl2l hs5 hsay2 Hrange4 hB4 hb5 hbt4 hx4 hs4
  go_wp2_with fail
  refine (same_is7 true B A ll m c' c l l w5 hs45 hx5 (by omega) hm (by simp)).mono ?_
  rintro e w6 ⟨rfl, hb6⟩
  have hbt6 := hbt5.trans (hb6.mono hbt5.size)
  go_wp2_with fail
  go_ret
  exact ⟨rfl, hbt6⟩
end Go.Proofs.YtpmhjmbiiihfoaaDoor
