/- The law SealTurned, walked. -/
import Derived.Test.YtpmhjmbiiihfoaaDoorAwake7
import Derived.StillTailTactics
namespace Go.Proofs.YtpmhjmbiiihfoaaDoor
open Go.RowKit Go.Deep
set_option linter.unusedSimpArgs false
set_option linter.unusedVariables false

set_option maxRecDepth 100000 in
set_option maxHeartbeats 6400000 in
theorem sealTurned_walk (w : World) (ht : Tabs w) (A : Option Addr) (m c : Nat) (load : List Int) (hx : Sl w A m (u8s load)) (hb : ∀ x ∈ load, 0 ≤ x ∧ x < 256) (hm : m ≤ 9223372036854775807)
    (at_ : Int) (hat : 0 ≤ at_ ∧ at_ ≤ 255) (a b c' d : Int) (hy : (0 ≤ a ∧ a < 256) ∧ (0 ≤ b ∧ b < 256) ∧ (0 ≤ c' ∧ c' < 256) ∧ (0 ≤ d ∧ d < 256)) :
    Calls Tryd.prog 7 #[.slice A m c, .int .u8 at_, .agg #[.int .u8 a, .int .u8 b, .int .u8 c', .int .u8 d]] w fun e w' => e = .returned (.bool true) ∧ Below w.heap.size w w' := by
  obtain ⟨at_, rfl⟩ := Int.eq_ofNat_of_zero_le hat.1
  have hat2 : at_ ≤ 255 := by omega
  have hlen : load.length = m := by simpa using hx.1
  have Hb := Lib.hid hb
  have Hyb := Lib.hid (show Bytes [a, b, c', d] by intro u hu; simp at hu; rcases hu with rfl | rfl | rfl | rfl; exact hy.1; exact hy.2.1; exact hy.2.2.1; exact hy.2.2.2)
  obtain ⟨bs, hbs⟩ : ∃ bs, bs = makeOf 3 (m : Int) load := ⟨_, rfl⟩
  obtain ⟨er, her⟩ : ∃ er, er = makeErr 3 (m : Int) m := ⟨_, rfl⟩
  have hl : bs.length = 128 := by rw [hbs]; exact makeOf_len _ _ _
  have hbb : Bytes bs := by rw [hbs]; exact makeOf_bytes Hb.out
  have hgood : er = 0 → bs = sealed 3 (m : Int) load ∧ load.length ≤ 113 := by
    intro h0
    have hz : makeErr 3 (m : Int) load.length = 0 := by rw [hlen, ← her, h0]
    rw [hbs, makeOf, if_pos hz]
    exact ⟨rfl, (makeErr_zero.1 hz).2.2.2⟩
  have Hbs := Lib.hid hbs; have Her := Lib.hid her; have Hl := Lib.hid hl; have Hbb := Lib.hid hbb; have Hgood := Lib.hid hgood
  clear hlen hb hbs her hl hbb hgood
  obtain ⟨wa, hwa⟩ : ∃ wa, wa = w.alloc (.cells #[.int .u8 a, .int .u8 b, .int .u8 c', .int .u8 d] 39) := ⟨_, rfl⟩
  have hYa : Blk wa w.heap.size 39 (u8s [a, b, c', d]) := by rw [hwa]; exact Blk.new w 39 (u8s [a, b, c', d])
  have hba : Below w.heap.size w wa := by rw [hwa]; exact below_alloc _ _
  have Hta := Lib.hid (ht.below hba)
  have hxa := hx.below hba
  have Hwa := Lib.hid hwa
  have Ht := Lib.hid ht
  obtain ⟨ys, hys⟩ : ∃ ys, ys = [a, b, c', d] := ⟨_, rfl⟩
  have hyl : ys.length = 4 := by rw [hys]; rfl
  rw [← hys] at hYa Hyb
  clear hwa ht hx hy hys hat
  go_enter Tryd.func7, Tryd.ntmps7
  go_wp2_with fail
  rw [← Hwa.out]
  refine (awake7_any wa Hta.out).mono ?_
  rintro e w1 ⟨rfl, hb1⟩
  have hbt1 : Below w.heap.size w w1 := hba.trans (hb1.mono hba.size)
  have hY1 := hYa.kept (hb1.block _ hYa.lt)
  have Ht1 := Lib.hid (Hta.out.below hb1)
  have hx1 := hxa.below hb1
  obtain ⟨aa, haae⟩ : ∃ aa, aa = w.heap.size := ⟨_, rfl⟩
  have haal : w.heap.size ≤ aa := by omega
  rw [← haae] at hY1 ⊢
  have Haae := Lib.hid haae
  clear haae hba hb1 hYa Hwa Hta hxa
  go_wp2_with fail
  refine (pmake_is 3 (m : Int) (by omega) (by omega) A m c load w1 Ht1.out hx1 Hb.out hm bs er Hbs.out Her.out).mono ?_
  rintro e w2 ⟨rfl, hb2⟩
  obtain ⟨w3, hw3, hb3, hB3, hth, hsA, hsL⟩ := arr_new w2 bs Hl.out
  have hbt3 : Below w.heap.size w w3 := hbt1.trans ((hb2.trans (hb3.mono hb2.size)).mono hbt1.size)
  have hY2 := hY1.kept (hb2.block _ hY1.lt)
  have hY3 := hY2.kept (hb3.block _ hY2.lt)
  have Hw3 := Lib.hid hw3; have Hth := Lib.hid hth
  obtain ⟨bb, hbb⟩ : ∃ bb, bb = w2.heap.size := ⟨_, rfl⟩
  have hbbl : w.heap.size ≤ bb := by rw [hbb]; exact Nat.le_trans hbt1.size hb2.size
  rw [← hbb] at hB3
  have Hbb2 := Lib.hid hbb
  clear hw3 hth hbb hb2 hb3 hY1 hY2 hx1 hbt1
  by_cases he : ¬ er = 0
  · have hne : (er != 0) = true := by simpa using he
    clear he
    go_wp2_with (refine wpList_store_mid rfl 24 (.tmp 7) (.tmp 22) rfl w2.heap.size 0 (u8s bs).toArray rfl rfl Hth.out hsA (all_oneCell_toArray (one_u8s _)) ?_; rw [show (u8s bs).toArray.toList = u8s bs from rfl, ← Hw3.out, ← Hbb2.out])
    go_ret
    exact ⟨rfl, hbt3⟩
  replace he := Classical.not_not.1 he
  have Hgd := Lib.hid (Hgood.out he)
  subst he
  clear Hgood
  -- the copy
  obtain ⟨w4, hw4, hb4, hC4, hth4, _, _⟩ := arr_new w3 bs Hl.out
  have hbt4 : Below w.heap.size w w4 := hbt3.trans (hb4.mono hbt3.size)
  have hB4 := hB3.kept (hb4.block _ hB3.lt)
  have hY4 := hY3.kept (hb4.block _ hY3.lt)
  have Hrange3 := Lib.hid hB3.range
  obtain ⟨cb, hcb⟩ : ∃ cb, cb = w3.heap.size := ⟨_, rfl⟩
  have hbc : bb < cb := by rw [hcb]; exact hB3.lt
  rw [← hcb] at hC4
  have Hcb := Lib.hid hcb
  have Hw4 := Lib.hid hw4; have Hth4 := Lib.hid hth4
  clear hcb hw4 hth4 hb4 hB3 hY3
  obtain ⟨k, hk', hk2⟩ : ∃ k, k = at_ % 120 ∧ k + 4 ≤ 123 := ⟨_, rfl, by omega⟩
  have hkm : Int.tmod (at_ : Int) 120 = (k : Int) := by rw [Int.tmod_eq_emod_of_nonneg (by omega), hk']; rfl
  have hkm2 : (at_ : Int) % 120 = (k : Int) := by omega
  have hkw : IntKind.i64.wrap (at_ : Int) = (at_ : Int) := by rw [IntKind.wrap_i64]; omega
  clear hk'
  have hset := Lib.hid (show Blk w4 bb 24 (u8s (flipTo bs k ys 0)) by rw [flip_zero]; exact hB4)
  have Ht4 := Lib.hid (Ht.out.below hbt4)
  clear hB4
  go_wp2_with (first
    | (refine wpList_store_mid rfl 24 (.tmp 7) (.tmp 22) rfl w2.heap.size 0 (u8s bs).toArray rfl rfl Hth.out hsA (all_oneCell_toArray (one_u8s _)) ?_; rw [show (u8s bs).toArray.toList = u8s bs from rfl, ← Hw3.out, ← Hbb2.out])
    | (refine wpList_load_mid rfl 24 (.tmp 7) rfl bb 0 rfl (u8s bs) _ Hrange3.out Tryd.underlying24 rfl hsL ?_)
    | (refine wpList_store_mid rfl 24 (.tmp 9) (.tmp 26) rfl w3.heap.size 0 (u8s bs).toArray rfl rfl Hth4.out hsA (all_oneCell_toArray (one_u8s _)) ?_; rw [show (u8s bs).toArray.toList = u8s bs from rfl, ← Hw4.out, ← Hcb.out]))
  have Hgl := Lib.hid (show k + 4 ≤ bs.length by rw [Hl.out]; omega)
  go_loopw [30] (fun i wr => ∃ (j : Nat), j ≤ 4 ∧ i = .int .i64 j ∧ Blk wr bb 24 (u8s (flipTo bs k ys j)) ∧ Blk wr cb 24 (u8s bs) ∧ Blk wr aa 39 (u8s ys) ∧ Below w.heap.size w wr) (fun i _ => 4 - (intOf i).toNat)
  case atStart => exact ⟨0, Nat.zero_le _, rfl, hset.out, hC4, hY4, hbt4⟩
  case round =>
    clear hset hC4 hY4 Ht4 hbt4 hbt3 Hrange3
    obtain ⟨j, hj, rfl, hB, hC, hY, hbw⟩ := hrel
    by_cases hlt : j < 4
    · obtain ⟨x, hxk⟩ : ∃ x, bs[k + j]? = some x := ⟨_, List.getElem?_eq_getElem (by have := Hgl.out; omega)⟩
      obtain ⟨kj, hkj⟩ : ∃ kj, kj = k + j := ⟨_, rfl⟩
      have hkjn : kj < 128 := by omega
      have hkjI : (kj : Int) < 128 := by omega
      have hkj0 : (0 : Int) ≤ (kj : Int) := by omega
      have hj0 : (0 : Int) ≤ (j : Int) := by omega
      have hjI : (j : Int) < 4 := by omega
      have hkw2 : IntKind.i64.wrap ((k : Int) + (j : Int)) = (kj : Int) := by rw [IntKind.wrap_i64]; omega
      obtain ⟨y, hyj⟩ : ∃ y, ys[j]? = some y := ⟨_, List.getElem?_eq_getElem (by omega)⟩
      have hc : wr.cell? ⟨bb, kj, none⟩ = some (.int .u8 x) := hB.cell (by rw [hkj, List.getElem?_map, flip_at hxk (by omega)]; rfl)
      have hf := hB.frozen kj
      have hbox : wr.cell? ⟨aa, j, none⟩ = some (.int .u8 y) := hY.cell (by rw [List.getElem?_map, hyj]; rfl)
      have hx2 := Hbb.out x (List.mem_of_getElem? hxk)
      have hy2 := Hyb.out y (List.mem_of_getElem? hyj)
      have Hset := Lib.hid (flip_set hxk hyj)
      obtain ⟨x, rfl⟩ := Int.eq_ofNat_of_zero_le hx2.1
      obtain ⟨y, rfl⟩ := Int.eq_ofNat_of_zero_le hy2.1
      simp only [Int.toNat_natCast] at Hset
      obtain ⟨z, hz, hz1⟩ : ∃ z : Nat, z = x ^^^ y ∧ z < 256 := ⟨_, rfl, Nat.xor_lt_two_pow (n := 8) (by omega) (by omega)⟩
      have hzx : bits .xor .u8 (x : Int) (y : Int) = (z : Int) := by rw [u8_xor_nat _ _ (by omega) (by omega), hz]
      rw [← hz, ← hkj] at Hset
      have hst := hB.set kj (.int .u8 (z : Int))
      rw [← List.map_set, Hset.out] at hst
      have hC' := hC.setOther (a := ⟨bb, kj, none⟩) (by show cb ≠ bb; omega) (.int .u8 (z : Int))
      have hY' := hY.setOther (a := ⟨bb, kj, none⟩) (by show aa ≠ bb; exact hY.ne hB (by decide)) (.int .u8 (z : Int))
      have hbw' := (hbw.setCell (p := ⟨bb, kj, none⟩) hbbl (.int .u8 (z : Int))).drew
      have hd : decide ((j : Int) < 4) = true := decide_eq_true hjI
      clear hz hxk hyj hkj Hset hB hC hY hbw
      go_wp2
      go_region
      all_goals
        go_wp2
        go_roundw
      case rel => exact ⟨j + 1, by omega, by go_num, hst.drew, hC'.drew, hY'.drew, hbw'⟩
      case measure => simp [intOf] <;> omega
    · obtain rfl : 4 = j := by omega
      have Hout := Lib.hid (show ∀ i, ¬ (k ≤ i ∧ i < k + 4) → (flipTo bs k ys 4)[i]? = bs[i]? from fun i hi => flip_out hi)
      have Hfb := Lib.hid (flip_bytes (k := k) (j := 4) Hbb.out Hyb.out)
      have Hfl := Lib.hid (show (flipTo bs k ys 4).length = 128 by rw [flip_length]; exact Hl.out)
      obtain ⟨fl, hfl⟩ : ∃ fl, fl = flipTo bs k ys 4 := ⟨_, rfl⟩
      rw [← hfl] at Hout Hfb Hfl hB
      clear hfl
      obtain ⟨x0, hx0⟩ : ∃ x, fl[0]? = some x := ⟨_, List.getElem?_eq_getElem (by rw [Hfl.out]; omega)⟩
      have hc0 : wr.cell? ⟨bb, 0, none⟩ = some (.int .u8 x0) := hB.cell (by rw [List.getElem?_map, hx0]; rfl)
      have hx0b := Hfb.out x0 (List.mem_of_getElem? hx0)
      have hx0w : IntKind.i64.wrap x0 = x0 := by rw [IntKind.wrap_i64]; omega
      have hsF : (Tryd.prog.info? 24).map (·.size) = some (u8s fl).length := by rw [size_arr, List.length_map, Hfl.out]
      have HrB := Lib.hid hB.range
      have Htr := Lib.hid (Ht.out.below hbw)
      clear hx0
      go_wp2_with (refine wpList_load_mid rfl 24 (.tmp 7) rfl bb 0 rfl (u8s fl) _ HrB.out Tryd.underlying24 rfl hsF ?_)
      refine (popen_is fl Hfl.out Hfb.out wr Htr.out x0 (by omega)).mono ?_
      rintro e w5 ⟨n5, l5, B5, c5, er5, rfl, hs5, hsay, hb5⟩
      have Hend := Lib.hid (show fl = bs ∨ er5 = 53 by
        rcases hsay with ⟨_, hs⟩ | ⟨h, _⟩
        · left
          have := sealed_turned (k := k) (bs := fl) (k0 := 3) (n := (m : Int)) (load := load) (by omega) Hgd.out.2 Hb.out hk2 (by intro i hi; rw [Hout.out i hi, Hgd.out.1]) hs
          rw [this, Hgd.out.1]
        · exact Or.inr h)
      have hb5t := hbw.trans (hb5.mono hbw.size)
      have hB5 := hB.kept (hb5.block _ hB.lt)
      have hC5 := hC.kept (hb5.block _ hC.lt)
      have HrB5 := Lib.hid hB5.range
      have HrC5 := Lib.hid hC5.range
      obtain ⟨ll, hll⟩ : ∃ ll, ll = l5.length := ⟨_, rfl⟩
      rw [← hll]
      obtain ⟨q, hq⟩ : ∃ q, q = decide (fl = bs) := ⟨_, rfl⟩
      have Heq := Lib.hid (show (Op.equalIn 10000 24 (.agg (u8s fl).toArray) (.agg (u8s bs).toArray)).run Tryd.prog w5 = .ok q w5 by
        rw [hq]; exact arr128_eq fl bs Hfl.out Hl.out w5)
      have Hq := Lib.hid hq
      clear hll hq hs5 hsay hb5 hB5 hC5 hB hC hY hbw HrB Htr hc0
      go_wp2_with fail
      refine wp_load_mid 24 (.tmp 7) rfl bb 0 rfl (u8s fl) _ HrB5.out Tryd.underlying24 rfl hsF ?_
      by_cases hfb : fl = bs
      · obtain rfl : q = true := by rw [Hq.out, decide_eq_true hfb]
        clear hfb Hend Hq
        have heq := Heq.out
        go_wp2_with (refine wpList_load_mid rfl 24 (.tmp 9) rfl cb 0 rfl (u8s bs) _ HrC5.out Tryd.underlying24 rfl hsL ?_)
        go_ret
        exact ⟨rfl, hb5t⟩
      · have h53 : er5 = 53 := by
          rcases Hend.out with h | h
          · exact absurd h hfb
          · exact h
        obtain rfl : q = false := by rw [Hq.out, decide_eq_false hfb]
        subst h53
        clear hfb Hend Hq
        have heq := Heq.out
        go_wp2_with (refine wpList_load_mid rfl 24 (.tmp 9) rfl cb 0 rfl (u8s bs) _ HrC5.out Tryd.underlying24 rfl hsL ?_)
        go_ret
        exact ⟨rfl, hb5t⟩
end Go.Proofs.YtpmhjmbiiihfoaaDoor
