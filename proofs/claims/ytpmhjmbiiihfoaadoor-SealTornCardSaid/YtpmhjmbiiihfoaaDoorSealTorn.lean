/- The law SealTorn, walked. -/
import Derived.Test.YtpmhjmbiiihfoaaDoorAwake7
import Derived.Laws.IdiomCopy
namespace Go.Proofs.YtpmhjmbiiihfoaaDoor
open Go.RowKit Go.Deep
set_option linter.unusedSimpArgs false
set_option linter.unusedVariables false

set_option maxRecDepth 100000 in
set_option maxHeartbeats 6400000 in
theorem sealTorn_walk (w : World) (ht : Tabs w) (A : Option Addr) (m c : Nat) (load : List Int) (hx : Sl w A m (u8s load)) (hb : ∀ x ∈ load, 0 ≤ x ∧ x < 256) (hm : m ≤ 9223372036854775807)
    (ws : List Int) (hwl : ws.length = 128) (hwb : Bytes ws) (k : Int) (hk : 0 ≤ k ∧ k ≤ 255) :
    Calls Tryd.prog 6 #[.slice A m c, .agg (u8s ws).toArray, .int .u8 k] w fun e w' => e = .returned (.bool true) ∧ Below w.heap.size w w' := by
  obtain ⟨k, rfl⟩ := Int.eq_ofNat_of_zero_le hk.1
  have hk255 : k ≤ 255 := by omega
  have hlen : load.length = m := by simpa using hx.1
  have Hb := Lib.hid hb
  obtain ⟨bs, hbs⟩ : ∃ bs, bs = makeOf 3 (m : Int) load := ⟨_, rfl⟩
  obtain ⟨er, her⟩ : ∃ er, er = makeErr 3 (m : Int) m := ⟨_, rfl⟩
  have hl : bs.length = 128 := by rw [hbs]; exact makeOf_len _ _ _
  have hbb : Bytes bs := by rw [hbs]; exact makeOf_bytes Hb.out
  have Hbs := Lib.hid hbs; have Her := Lib.hid her; have Hl := Lib.hid hl; have Hbb := Lib.hid hbb
  clear hlen hb hbs her hl hbb
  obtain ⟨x127, hx127⟩ : ∃ x, ws[127]? = some x := ⟨_, List.getElem?_eq_getElem (by omega)⟩
  have Hx127 := Lib.hid hx127
  have Hwl := Lib.hid hwl; have Hwb := Lib.hid hwb
  obtain ⟨wa, hwa⟩ : ∃ wa, wa = w.alloc (.cells (u8s ws).toArray 24) := ⟨_, rfl⟩
  have hBa : Blk wa w.heap.size 24 (u8s ws) := by rw [hwa]; exact Blk.new w 24 (u8s ws)
  have hba : Below w.heap.size w wa := by rw [hwa]; exact below_alloc _ _
  have Hta := Lib.hid (ht.below hba)
  have hxa := hx.below hba
  have Hwa := Lib.hid hwa
  have Ht := Lib.hid ht
  clear hwa hwl hwb ht hx127 hx
  go_enter Tryd.func6, Tryd.ntmps6
  go_wp2_with fail
  rw [← Hwa.out]
  refine (awake7_any wa Hta.out).mono ?_
  rintro e w1 ⟨rfl, hb1⟩
  have hbt1 : Below w.heap.size w w1 := hba.trans (hb1.mono hba.size)
  have hB1 := hBa.kept (hb1.block _ hBa.lt)
  have Ht1 := Lib.hid (Hta.out.below hb1)
  have hx1 := hxa.below hb1
  obtain ⟨aa, haae⟩ : ∃ aa, aa = w.heap.size := ⟨_, rfl⟩
  have haal : w.heap.size ≤ aa := by omega
  rw [← haae] at hB1 ⊢
  have Haae := Lib.hid haae
  clear haae hba hb1 hBa Hwa Hta hxa
  go_wp2_with fail
  refine (pmake_is 3 (m : Int) (by omega) (by omega) A m c load w1 Ht1.out hx1 Hb.out hm bs er Hbs.out Her.out).mono ?_
  rintro e w2 ⟨rfl, hb2⟩
  obtain ⟨w3, hw3, hb3, hB3, hth, hsA, hsL⟩ := arr_new w2 bs Hl.out
  have hbt3 : Below w.heap.size w w3 := hbt1.trans ((hb2.trans (hb3.mono hb2.size)).mono hbt1.size)
  have hB2 := hB1.kept (hb2.block _ hB1.lt)
  have hba3 : aa < w2.heap.size := hB2.lt
  have hA3 := hB2.kept (hb3.block _ hB2.lt)
  have hc127 : w3.cell? ⟨aa, 127, none⟩ = some (.int .u8 x127) := hA3.cell (by rw [List.getElem?_map, Hx127.out]; rfl)
  have Hw3 := Lib.hid hw3; have Hth := Lib.hid hth
  obtain ⟨bb, hbb⟩ : ∃ bb, bb = w2.heap.size := ⟨_, rfl⟩
  rw [← hbb] at hB3 hba3
  have Hbb2 := Lib.hid hbb
  clear hw3 hth hbb hb2 hb3 hB1 hB2 hx1 hbt1
  by_cases he : ¬ er = 0
  · have hne : (er != 0) = true := by simpa using he
    clear he
    go_wp2_with (refine wpList_store_mid rfl 24 (.tmp 7) (.tmp 20) rfl w2.heap.size 0 (u8s bs).toArray rfl rfl Hth.out hsA (all_oneCell_toArray (one_u8s _)) ?_; rw [show (u8s bs).toArray.toList = u8s bs from rfl, ← Hw3.out, ← Hbb2.out])
    go_ret
    exact ⟨rfl, hbt3⟩
  replace he := Classical.not_not.1 he
  subst he
  by_cases h215 : x127 = 215
  · subst h215
    go_wp2_with (refine wpList_store_mid rfl 24 (.tmp 7) (.tmp 20) rfl w2.heap.size 0 (u8s bs).toArray rfl rfl Hth.out hsA (all_oneCell_toArray (one_u8s _)) ?_; rw [show (u8s bs).toArray.toList = u8s bs from rfl, ← Hw3.out, ← Hbb2.out])
    go_ret
    exact ⟨rfl, hbt3⟩
  obtain ⟨k', hk', hk2⟩ : ∃ k', k' = k % 128 ∧ k' ≤ 127 := ⟨_, rfl, by omega⟩
  have hkm : Int.tmod (k : Int) 128 = (k' : Int) := by rw [Int.tmod_eq_emod_of_nonneg (by omega), hk']; rfl
  have hkm2 : (k : Int) % 128 = (k' : Int) := by omega
  have hkw : IntKind.i64.wrap (k : Int) = (k : Int) := by rw [IntKind.wrap_i64]; omega
  have hk0 : (0 : Int) ≤ (k' : Int) := by omega
  have hk128 : (k' : Int) ≤ 128 := by omega
  have hcl : (u8s (bs.take k')).length = k' := by rw [List.length_map, List.length_take, Hl.out]; omega
  have hcopy : (Builtin.copy_ #[22, 22] 3 #[.slice (some ⟨aa, 0, none⟩) k' 128, .slice (some ⟨bb, 0, none⟩) 128 128]).run Tryd.prog w3.drew = .ok (.int .i64 (k' : Int)) (w3.drew.setCells aa 0 (u8s (bs.take k'))) := by
    rw [show (Value.int .i64 (k' : Int)) = goInt (u8s (bs.take k')).length by rw [hcl]; rfl]
    refine run_copy_cells w3.drew _ _ _ 5 _ _ _ _ _ _ _ _ Tryd.underlying22 (by kernel_rfl) (by rw [hcl]; show k' = min 128 k'; omega) ?_ ?_ (fun j _ => hA3.frozen _) (one_u8s _)
    · intro j v hj
      rw [List.getElem?_map, List.getElem?_take] at hj
      split at hj
      · obtain ⟨u, hu, rfl⟩ := Option.map_eq_some_iff.1 hj
        rw [Addr.add_mid, Nat.zero_add]
        exact hB3.cell (by rw [List.getElem?_map, hu]; rfl)
      · simp at hj
    · intro j hj
      rw [hcl] at hj
      rw [show w3.drew.cell? ⟨aa, 0 + j, none⟩ = some _ from hA3.cell (List.getElem?_eq_getElem (show 0 + j < (u8s ws).length by rw [List.length_map, Hwl.out]; omega))]; rfl
  obtain ⟨w4, hw4⟩ : ∃ w4, w4 = w3.drew.setCells aa 0 (u8s (bs.take k')) := ⟨_, rfl⟩
  obtain ⟨ts, hts⟩ : ∃ ts, ts = bs.take k' ++ ws.drop k' := ⟨_, rfl⟩
  have htl : ts.length = 128 := by rw [hts, List.length_append, List.length_take, List.length_drop, Hl.out, Hwl.out]; omega
  have htb : Bytes ts := by
    rw [hts]; intro u hu
    rcases List.mem_append.1 hu with hu | hu
    · exact Hbb.out u (List.mem_of_mem_take hu)
    · exact Hwb.out u (List.mem_of_mem_drop hu)
  have ht127 : ts[127]? ≠ some 215 := by
    rw [hts, List.getElem?_append_right (by rw [List.length_take, Hl.out]; omega), List.getElem?_drop, List.length_take, Hl.out, show k' + (127 - min k' 128) = 127 by omega, Hx127.out]
    intro e
    exact h215 (Option.some.inj e)
  have hA4 : Blk w4 aa 24 (u8s ts) := by
    have := setCells_blk (u8s (bs.take k')) 0 w3.drew (u8s ws) hA3 (by rw [hcl, List.length_map, Hwl.out]; omega)
    rw [hcl, List.take_zero, List.nil_append, Nat.zero_add] at this
    rw [hw4, hts]
    unfold u8s
    rw [List.map_append, List.map_drop]
    exact this
  have hb34 : Below w.heap.size w w4 := by rw [hw4]; exact below_setCells hbt3.drew haal _ _
  rw [← hw4] at hcopy
  have hsT : (Tryd.prog.info? 24).map (·.size) = some (u8s ts).length := by rw [size_arr, List.length_map, htl]
  have Hcopy := Lib.hid hcopy
  have Htl := Lib.hid htl; have Htb := Lib.hid htb; have Ht127 := Lib.hid ht127
  have hne : (x127 == 215) = false := by simpa using h215
  clear hcopy htl htb ht127 hts hw4 hcl hk' hB3 hA3
  go_upto_region 6 with (refine wpList_store_mid rfl 24 (.tmp 7) (.tmp 20) rfl w2.heap.size 0 (u8s bs).toArray rfl rfl Hth.out hsA (all_oneCell_toArray (one_u8s _)) ?_; rw [show (u8s bs).toArray.toList = u8s bs from rfl, ← Hw3.out, ← Hbb2.out])
  refine wp_region_any (by kernel_rfl) ?_
  try (change wpAny _ _ _ _ _ _ _ (World.drew _))
  refine wpAny_take (i := 0) (oi := ?oiy1) (v := ?vy1) ?hiy1 ?hay1 ?hby1 ?hcy1 ?hqy1 ?hyy1 ?resty1
  case hiy1 => (simp only [List.getElem?_toArray, List.getElem?_cons_zero, List.getElem?_cons_succ]; rfl)
  case hay1 => kernel_rfl
  case hby1 => kernel_rfl
  case hcy1 => kernel_rfl
  case hyy1 => exact Or.inl ⟨by rfl, by (intro w; go_simp; (try with_reducible rfl))⟩
  case hqy1 => exact fun _ _ _ h => h
  try simp only [Act.put, List.setIfInBounds_toArray, List.set_cons_zero, List.set_cons_succ]
  refine wpAny_take (i := 1) (oi := ?oiy2) (v := ?vy2) ?hiy2 ?hay2 ?hby2 ?hcy2 ?hqy2 ?hyy2 ?resty2
  case hiy2 => (simp only [List.getElem?_toArray, List.getElem?_cons_zero, List.getElem?_cons_succ]; rfl)
  case hay2 => kernel_rfl
  case hby2 => kernel_rfl
  case hcy2 => kernel_rfl
  case hyy2 => exact Or.inl ⟨by rfl, by (intro w; go_simp; (try with_reducible rfl))⟩
  case hqy2 => exact fun _ _ _ h => h
  try simp only [Act.put, List.setIfInBounds_toArray, List.set_cons_zero, List.set_cons_succ]
  refine wpAny_take (i := 2) (oi := ?oiy3) (v := ?vy3) ?hiy3 ?hay3 ?hby3 ?hcy3 ?hqy3 ?hyy3 ?resty3
  case hiy3 => (simp only [List.getElem?_toArray, List.getElem?_cons_zero, List.getElem?_cons_succ]; rfl)
  case hay3 => kernel_rfl
  case hby3 => kernel_rfl
  case hcy3 => kernel_rfl
  case hyy3 => exact Or.inl ⟨by rfl, by (intro w; go_simp; (try with_reducible rfl))⟩
  case hqy3 => exact fun _ _ _ h => h
  try simp only [Act.put, List.setIfInBounds_toArray, List.set_cons_zero, List.set_cons_succ]
  refine wpAny_take (i := 3) (oi := ?oiy4) (v := ?vy4) ?hiy4 ?hay4 ?hby4 ?hcy4 ?hqy4 ?hyy4 ?resty4
  case hiy4 => (simp only [List.getElem?_toArray, List.getElem?_cons_zero, List.getElem?_cons_succ]; rfl)
  case hay4 => kernel_rfl
  case hby4 => kernel_rfl
  case hcy4 => kernel_rfl
  case hyy4 => exact Or.inl ⟨by rfl, by (intro w; go_simp; (try with_reducible rfl))⟩
  case hqy4 => exact fun _ _ _ h => h
  try simp only [Act.put, List.setIfInBounds_toArray, List.set_cons_zero, List.set_cons_succ]
  refine wpAny_take (i := 4) (oi := ?oiy5) (v := ?vy5) ?hiy5 ?hay5 ?hby5 ?hcy5 ?hqy5 ?hyy5 ?resty5
  case hiy5 => (simp only [List.getElem?_toArray, List.getElem?_cons_zero, List.getElem?_cons_succ]; rfl)
  case hay5 => kernel_rfl
  case hby5 => kernel_rfl
  case hcy5 => kernel_rfl
  case hyy5 => exact Or.inl ⟨by rfl, by (intro w; go_simp; (try with_reducible rfl))⟩
  case hqy5 => exact fun _ _ _ h => h
  try simp only [Act.put, List.setIfInBounds_toArray, List.set_cons_zero, List.set_cons_succ]
  refine wpAny_ready (rs := [5]) (by kernel_rfl) (by simp) ?_
  refine AllReady.cons (o := ?oiy6f0) ?hiy6f0 (fun K hK => ?stepy6f0) ?morey6f0
  case hiy6f0 => (simp only [List.getElem?_toArray, List.getElem?_cons_zero, List.getElem?_cons_succ]; rfl)
  case stepy6f0 =>
    refine step_copy rfl (.tmp 32) (.tmp 33) 22 22 rfl _ _ (by simp [Act.eval]) (by simp [Act.eval]) Hcopy.out ?_
    refine hK _ _ ?_
    clear hK K
    try simp only [Act.put, List.setIfInBounds_toArray, List.set_cons_zero, List.set_cons_succ]
    refine wpAny_done (by kernel_rfl) ?_ _
    have Ht4 := Lib.hid (Ht.out.below hb34)
    clear Hcopy Hw3 Hth hbt3 hc127 Ht1 Ht
    go_wp2_with fail
    go_loopw [35] (fun i wr => ∃ (j : Nat), j ≤ 5 ∧ i = .int .i64 j ∧ Blk wr aa 24 (u8s ts) ∧ Tabs wr ∧ Below w.heap.size w wr) (fun i _ => 5 - (intOf i).toNat)
    case atStart => exact ⟨0, Nat.zero_le _, rfl, hA4, Ht4.out, hb34⟩
    case round =>
      clear hA4 Ht4 hb34
      obtain ⟨j, hj, rfl, hA, ht, hbw⟩ := hrel
      by_cases hlt : j < 5
      · have hjI : (j : Int) < 5 := by omega
        have Hrange := Lib.hid hA.range
        have Htr := Lib.hid ht
        clear ht
        go_wp2_with (refine wpList_load_mid rfl 24 (.tmp 4) rfl aa 0 rfl (u8s ts) _ Hrange.out Tryd.underlying24 rfl hsT ?_)
        refine (popen_is ts Htl.out Htb.out wr Htr.out (j : Int) (by omega)).mono ?_
        rintro e w5 ⟨n5, l5, B5, c5, er5, rfl, hs5, hsay, hb5⟩
        have her5 : er5 = 53 := hsay.torn Ht127.out
        subst her5
        have hA5 := hA.kept (hb5.block _ hA.lt)
        have Ht5 := Lib.hid (Htr.out.below hb5)
        have hb5t := hbw.trans (hb5.mono hbw.size)
        obtain ⟨ll, hll⟩ : ∃ ll, ll = l5.length := ⟨_, rfl⟩
        rw [← hll]
        clear hll hs5 hsay Hrange hA Htr hb5 hbw
        go_wp2_with fail
        go_roundw
        case rel => exact ⟨j + 1, by omega, by go_num, hA5, Ht5.out, hb5t⟩
        case measure => simp [intOf]; omega
      · obtain rfl : 5 = j := by omega
        go_wp2_with fail
        go_ret
        exact ⟨rfl, hbw⟩
  case morey6f0 => exact AllReady.nil
end Go.Proofs.YtpmhjmbiiihfoaaDoor
