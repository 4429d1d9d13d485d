/- The program's seal by contract: Make and Open. -/
import Derived.Test.YtpmhjmbiiihfoaaDoorPSeal2
import Derived.Test.YtpmhjmbiiihfoaaDoorGet2
namespace Go.Proofs.YtpmhjmbiiihfoaaDoor
open Go.RowKit Go.Deep
set_option linter.unusedSimpArgs false
set_option linter.unusedVariables false

theorem pmake_is (kind n : Int) (hkb : -9223372036854775808 ≤ kind ∧ kind ≤ 9223372036854775807) (hnb : -9223372036854775808 ≤ n ∧ n ≤ 9223372036854775807) (A : Option Addr) (m c : Nat) (load : List Int) (w : World) (ht : Tabs w) (hx : Sl w A m (u8s load)) (hb : Bytes load) (hm : m ≤ 9223372036854775807)
    (bs : List Int) (er : Int) (hbs : bs = makeOf kind n load) (her : er = makeErr kind n m) :
    Calls Tryd.prog 9 #[.int .i64 kind, .int .i64 n, .slice A m c] w fun e w' => e = .returned (.tuple #[.agg (u8s bs).toArray, .int .i64 er]) ∧ Below w.heap.size w w' := by
  have hlen : load.length = m := by simpa using hx.1
  by_cases h : er = 0
  · have h2 := makeErr_zero.1 (her.symm.trans h)
    rw [hbs, makeOf, if_pos (by rw [hlen, ← her, h]), h]
    exact pmake_good kind n ⟨h2.1, h2.2.1⟩ ⟨h2.2.2.1, hnb.2⟩ A m c load w ht hx hb h2.2.2.2
  · rw [hbs, makeOf, if_neg (by rw [hlen, ← her]; exact h)]
    exact pmake_bad kind n A m c w hm er her h

/-- The load's part of an array, cut with its end (where it is nothing, it begins elsewhere). -/
theorem cut_three (bb z s : Nat) (hz : z = 10 + s) (hs : s ≤ 118) : ∃ p : Addr, (∀ (w : World) (xs : List Value), Sl w (some ⟨bb, 10, none⟩) s xs → Sl w (some p) s xs) ∧
    ∀ w : World, (Instr.sliceAt 24 (.pointer (some ⟨bb, 0, none⟩)) (some (.int .i64 10)) (some (.int .i64 (z : Int))) (some (.int .i64 (z : Int)))).run Tryd.prog w = .ok (.slice (some p) s s) w := by
  have hu := Tryd.underlying24
  have hlen : Tryd.prog.arrayLen 24 = 128 := by simp [Program.arrayLen, hu]
  have hel : Tryd.prog.elem 24 = 5 := by simp [Program.elem, hu]
  have hsz : ∀ w : World, (sizeOf 5).run Tryd.prog w = .ok 1 w := fun w => by kernel_rfl
  have hr : ∀ w : World, (Instr.sliceAt 24 (.pointer (some ⟨bb, 0, none⟩)) (some (.int .i64 10)) (some (.int .i64 (z : Int))) (some (.int .i64 (z : Int)))).run Tryd.prog w = .ok (slicedAt ⟨bb, 0, none⟩ 10 z z 1) w := fun w => by
    have h := run_sliceAt_array_lhm (P := Tryd.prog) w 24 ⟨bb, 0, none⟩ (by rw [hlen, hel]; exact hu) .i64 .i64 .i64 10 (z : Int) (z : Int) (by omega) (by omega) (by omega) (by rw [hlen]; omega)
    rw [h, hel, hsz]
    rfl
  by_cases h0 : s = 0
  · subst h0
    refine ⟨⟨bb, 0, none⟩, fun w xs h => ⟨h.1, fun j u hu => ?_⟩, fun w => ?_⟩
    · have := (List.getElem?_eq_some_iff.1 hu).1; have := h.1; omega
    · rw [hr w, hz]; rfl
  · refine ⟨⟨bb, 10, none⟩, fun w xs h => h, fun w => ?_⟩
    rw [hr w]
    unfold slicedAt
    rw [if_neg (by omega), hz, Nat.add_sub_cancel_left]
    rfl

set_option maxRecDepth 100000 in
set_option maxHeartbeats 6400000 in
theorem popen_is (bs : List Int) (hl : bs.length = 128) (hb : Bytes bs) (w : World) (ht : Tabs w) (kind : Int) (hkb : -9223372036854775808 ≤ kind ∧ kind ≤ 9223372036854775807) :
    Calls Tryd.prog 13 #[.agg (u8s bs).toArray, .int .i64 kind] w fun e w' => OpenEnd bs kind w e w' := by
  obtain ⟨x9, hx9⟩ : ∃ x, bs[9]? = some x := ⟨_, List.getElem?_eq_getElem (by omega)⟩
  obtain ⟨w1, hw1, hB1, hb1, hsz⟩ := box_new7 w bs hl
  have hc9 : w1.cell? ⟨w.heap.size, 9, none⟩ = some (.int .u8 x9) := hB1.cell (by rw [List.getElem?_map, hx9]; rfl)
  have hb9 := hb x9 (List.mem_of_getElem? hx9)
  have hs8 := hB1.cut8 1 8 (by omega)
  have hb8 : Bytes ((bs.drop 1).take 8) := fun u hu => hb u (List.mem_of_mem_drop (List.mem_of_mem_take hu))
  have hw9 : IntKind.i64.wrap x9 = x9 := by rw [IntKind.wrap_i64]; omega
  obtain ⟨g, hgv⟩ : ∃ g, g = getVal ((bs.drop 1).take 8) := ⟨_, rfl⟩
  have hg : -9223372036854775808 ≤ g ∧ g ≤ 9223372036854775807 := by rw [hgv]; exact getVal_bounds _
  have Hgv := Lib.hid hgv; have Hx9 := Lib.hid hx9; have Hb := Lib.hid hb; have Hl := Lib.hid hl; have Hw1 := Lib.hid hw1; have Ht := Lib.hid ht
  obtain ⟨bb, hbb⟩ : ∃ bb, bb = w.heap.size := ⟨_, rfl⟩
  rw [← hbb] at hB1 hc9 hs8
  have Hbb := Lib.hid hbb
  clear hgv hx9 hb hl hw1 ht hbb
  by_cases k4 : 113 < x9
  · have Hno := Lib.hid (show ∀ n l, ¬ SealedBy bs kind n l from fun n l hs => by have h2 := hs.not9 Hx9.out; omega)
    go_enter Tryd.func13, Tryd.ntmps13
    go_upto_region 1 with fail
    rw [← Hw1.out, ← Hbb.out]
    go_wp2_with fail
    go_ret3
    exact OpenEnd.not Hno.out hb1
  obtain ⟨s, rfl⟩ := Int.eq_ofNat_of_zero_le hb9.1
  have hs113 : s ≤ 113 := by omega
  have k4I : decide (113 < (s : Int)) = false := decide_eq_false (by omega)
  obtain ⟨z, hz⟩ : ∃ z : Nat, z = 10 + s := ⟨_, rfl⟩
  have hwr : IntKind.i64.wrap (10 + (s : Int)) = (z : Int) := by rw [IntKind.wrap_i64, hz]; omega
  obtain ⟨p, hp, hcut⟩ := cut_three bb z s hz (by omega)
  clear hz
  obtain ⟨l, hll⟩ : ∃ l, l = (bs.drop 10).take s := ⟨_, rfl⟩
  have hlen : l.length = s := by rw [hll, List.length_take, List.length_drop, Hl.out]; omega
  have hlb : Bytes l := by rw [hll]; exact fun u hu => Hb.out u (List.mem_of_mem_drop (List.mem_of_mem_take hu))
  have Hll := Lib.hid hll
  have Hlen := Lib.hid hlen
  obtain ⟨er, her⟩ : ∃ er, er = makeErr kind g s := ⟨_, rfl⟩
  obtain ⟨ms, hms⟩ : ∃ ms, ms = makeOf kind g l := ⟨_, rfl⟩
  have hml : ms.length = 128 := by rw [hms]; exact makeOf_len _ _ _
  have Her := Lib.hid her; have Hms := Lib.hid hms; have Hlb := Lib.hid hlb; have Hml := Lib.hid hml
  have hsz1 := hb1.size
  clear hll hlen her hms hlb hml
  -- what there is, if anything is
  have Hone := Lib.hid (show ∀ n' l', SealedBy bs kind n' l' → n' = g ∧ l' = l ∧ er = 0 ∧ ms = bs from fun n' l' hs => by
    have h2 := hs.num
    have h9 := hs.not9 Hx9.out
    have h3 := hs.load
    have e1 : l'.length = s := by omega
    rw [e1, ← Hll.out] at h3
    rw [← Hgv.out] at h2
    subst h2
    subst h3
    have he : er = 0 := by rw [Her.out, ← Hlen.out]; exact makeErr_zero.2 ⟨hs.2.1, hs.2.2.1, hs.2.2.2.1, hs.2.2.2.2.2.1⟩
    exact ⟨rfl, rfl, he, by rw [Hms.out, makeOf, if_pos (by rw [Hlen.out, ← Her.out, he])]; exact hs.1.symm⟩)
  go_enter Tryd.func13, Tryd.ntmps13
  go_upto_region 1 with fail
  rw [← Hw1.out, ← Hbb.out]
  clear Hw1
  go_wp2_with fail
  refine (get_any (some ⟨bb, 1, none⟩) 8 8 _ w1 hs8 hb8 (by omega)).mono ?_
  rintro e w2 ⟨hb2, rfl⟩
  rw [← Hgv.out]
  have hB2 := hB1.kept (hb2.block _ hB1.lt)
  have hb2t : Below w.heap.size w w2 := hb1.trans (hb2.mono hsz1)
  have hsl := hB2.cut8 10 s (by rw [Hl.out]; omega)
  rw [← Hll.out] at hsl
  have hsl := hp _ _ hsl
  have hcut2 := hcut w2
  clear hcut hp
  have Ht2 := Lib.hid (Ht.out.below hb2t)
  clear hB1 hb2 hs8 hc9
  go_wp2_with fail
  refine (pmake_is kind g hkb hg (some p) s s l w2 Ht2.out hsl Hlb.out (by omega) ms er Hms.out Her.out).mono ?_
  rintro e w3 ⟨rfl, hb3⟩
  obtain ⟨w4, hw4, hb4, hB4, hth, hsA, hsL⟩ := arr_new w3 ms Hml.out
  have hB24 := hB2.kept (hb3.block _ hB2.lt)
  have hB24 := hB24.kept (hb4.block _ hB24.lt)
  have hs4 := (hsl.below hb3).below hb4
  have hb4t : Below w.heap.size w w4 := hb2t.trans ((hb3.trans (hb4.mono hb3.size)).mono hb2t.size)
  have Hw4 := Lib.hid hw4; have Hth := Lib.hid hth
  have HrM := Lib.hid hB4.range; have HrB := Lib.hid hB24.range
  clear hw4 hth hB2 hB4 hB24 hb3 hb4 hb2t hsl Ht2
  by_cases he : ¬ er = 0
  · have hne : (er != 0) = true := by simpa using he
    have Hno := Lib.hid (show ∀ n l, ¬ SealedBy bs kind n l from fun n l hs => he (Hone.out n l hs).2.2.1)
    clear he
    go_wp2_with (refine wpList_store_mid rfl 24 (.tmp 9) (.tmp 30) rfl w3.heap.size 0 (u8s ms).toArray rfl rfl Hth.out hsA (all_oneCell_toArray (one_u8s _)) ?_; rw [show (u8s ms).toArray.toList = u8s ms from rfl, ← Hw4.out])
    go_ret3
    exact OpenEnd.not Hno.out hb4t
  replace he := Classical.not_not.1 he
  subst he
  obtain ⟨q, hq⟩ : ∃ q, q = decide (ms = bs) := ⟨_, rfl⟩
  have heq : (Op.equalIn 10000 24 (.agg (u8s ms).toArray) (.agg (u8s bs).toArray)).run Tryd.prog w4 = .ok q w4 := by
    rw [hq]; exact arr128_eq ms bs Hml.out Hl.out w4
  have Hq := Lib.hid hq
  clear hq
  cases q with
  | false =>
    have Hno := Lib.hid (show ∀ n l, ¬ SealedBy bs kind n l from fun n l hs => of_decide_eq_false Hq.out.symm (Hone.out n l hs).2.2.2)
    go_wp2_with (first
      | (refine wpList_store_mid rfl 24 (.tmp 9) (.tmp 30) rfl w3.heap.size 0 (u8s ms).toArray rfl rfl Hth.out hsA (all_oneCell_toArray (one_u8s _)) ?_; rw [show (u8s ms).toArray.toList = u8s ms from rfl, ← Hw4.out])
      | (refine wpList_load_want (by rfl) 24 (.tmp 9) rfl w3.heap.size 0 rfl (u8s ms) _ HrM.out Tryd.underlying24 rfl hsL ?_)
      | (refine wpList_load_want (by rfl) 24 (.tmp 2) rfl bb 0 rfl (u8s bs) _ HrB.out Tryd.underlying24 rfl hsz ?_))
    go_ret3
    exact OpenEnd.not Hno.out hb4t
  | true =>
    have Hyes := Lib.hid (show SealedBy bs kind g l from by
      have h := makeOf_sealed (kind := kind) (n := g) hg.2 Hlb.out (by rw [Hlen.out]; exact Her.out.symm)
      rw [← Hms.out, of_decide_eq_true Hq.out.symm] at h
      exact h)
    go_wp2_with (first
      | (refine wpList_store_mid rfl 24 (.tmp 9) (.tmp 30) rfl w3.heap.size 0 (u8s ms).toArray rfl rfl Hth.out hsA (all_oneCell_toArray (one_u8s _)) ?_; rw [show (u8s ms).toArray.toList = u8s ms from rfl, ← Hw4.out])
      | (refine wpList_load_want (by rfl) 24 (.tmp 9) rfl w3.heap.size 0 rfl (u8s ms) _ HrM.out Tryd.underlying24 rfl hsL ?_)
      | (refine wpList_load_want (by rfl) 24 (.tmp 2) rfl bb 0 rfl (u8s bs) _ HrB.out Tryd.underlying24 rfl hsz ?_))
    go_ret3
    exact OpenEnd.has Hyes.out Hlen.out hs4 hb4t
end Go.Proofs.YtpmhjmbiiihfoaaDoor
