/- The program's seal: Make, where there is a sector. -/
import Derived.Test.YtpmhjmbiiihfoaaDoorPSeal1
namespace Go.Proofs.YtpmhjmbiiihfoaaDoor
open Go.RowKit Go.Deep
set_option linter.unusedSimpArgs false
set_option linter.unusedVariables false

/-- A block of bytes with one byte set. -/
theorem Blk.set8 {w : World} {b : Nat} {t : TypeId} {xs : List Int} (h : Blk w b t (u8s xs)) (i : Nat) (v : Int) : Blk (w.setCell ⟨b, i, none⟩ (.int .u8 v)) b t (u8s (xs.set i v)) := by
  have := h.set i (.int .u8 v)
  rw [← List.map_set] at this
  exact this

set_option maxRecDepth 100000 in
set_option maxHeartbeats 6400000 in
theorem pmake_good (kind n : Int) (hk : 1 ≤ kind ∧ kind ≤ 255) (hn : 0 ≤ n ∧ n ≤ 9223372036854775807) (A : Option Addr) (m c : Nat) (load : List Int) (w : World) (ht : Tabs w) (hx : Sl w A m (u8s load)) (hb : Bytes load) (hm : m ≤ 113) :
    Calls Tryd.prog 9 #[.int .i64 kind, .int .i64 n, .slice A m c] w fun e w' => e = .returned (.tuple #[.agg (u8s (sealed kind n load)).toArray, .int .i64 0]) ∧ Below w.heap.size w w' := by
  have hlen : load.length = m := by simpa using hx.1
  have hk8 : kind % 256 = kind := by omega
  have hm8 : (m : Int) % 256 = (m : Int) := by omega
  have h1 : ¬ kind < 1 := by omega
  have h2 : ¬ 255 < kind := by omega
  have h3 : ¬ n < 0 := by omega
  have h4I : decide (113 < (m : Int)) = false := decide_eq_false (by omega)
  have hm113 : m ≤ 113 := hm
  have Hlen := Lib.hid hlen; have Hb := Lib.hid hb; have Hk := Lib.hid hk; have Hn := Lib.hid hn; have Ht := Lib.hid ht; have Hx := Lib.hid hx
  clear hlen hb hk hn ht hx
  obtain ⟨w1, hw1, hB1, hB2, hb1⟩ := two_new w
  have hc0 : w1.cell? ⟨w.heap.size + 1, 0, none⟩ = some (.int .u8 0) := hB2.cell (by rw [List.getElem?_map, zeros128, List.getElem?_replicate, if_pos (by omega)]; rfl)
  have hf0 := hB2.frozen 0
  have hR2 := hB2.set8 0 kind
  have hr1 := hB1.setOther (a := ⟨w.heap.size + 1, 0, none⟩) (by show w.heap.size ≠ w.heap.size + 1; omega) (.int .u8 kind)
  have hb2 := hb1.setCell (p := ⟨w.heap.size + 1, 0, none⟩) (by show w.heap.size ≤ w.heap.size + 1; omega) (.int .u8 kind)
  obtain ⟨w2, hw2⟩ : ∃ w2, w2 = w1.setCell ⟨w.heap.size + 1, 0, none⟩ (.int .u8 kind) := ⟨_, rfl⟩
  rw [← hw2] at hR2 hr1 hb2
  have Hw1 := Lib.hid hw1; have Hw2 := Lib.hid hw2
  obtain ⟨bb, hbb⟩ : ∃ bb, bb = w.heap.size + 1 := ⟨_, rfl⟩
  have Hbb := Lib.hid hbb
  clear hw1 hw2 hB1 hB2 hb1 hbb
  go_enter Tryd.func9, Tryd.ntmps9
  go_upto_region 6 with fail
  rw [← Hw1.out]
  go_upto_region 7 with fail
  rw [← Hw2.out, ← Hbb.out]
  rw [← Hbb.out] at hR2
  have hbbl : w.heap.size ≤ bb := by have := Hbb.out; omega
  have hne : w.heap.size ≠ bb := by have := Hbb.out; omega
  clear hc0 hf0 Hw1 Hw2 Hbb
  refine wp_region_any (by kernel_rfl) ?_
  try (change wpAny _ _ _ _ _ _ _ (World.drew _))
  refine wpAny_take (i := 0) (oi := ?oiy6) (v := ?vy6) ?hiy6 ?hay6 ?hby6 ?hcy6 ?hqy6 ?hyy6 ?resty6
  case hiy6 => (simp only [List.getElem?_toArray, List.getElem?_cons_zero, List.getElem?_cons_succ]; rfl)
  case hay6 => kernel_rfl
  case hby6 => kernel_rfl
  case hcy6 => kernel_rfl
  case hyy6 => exact Or.inl ⟨by rfl, by (intro w; go_simp; (try with_reducible rfl))⟩
  case hqy6 => exact fun _ _ _ h => h
  try simp only [Act.put, List.setIfInBounds_toArray, List.set_cons_zero, List.set_cons_succ]
  refine wpAny_take (i := 1) (oi := ?oiy7) (v := ?vy7) ?hiy7 ?hay7 ?hby7 ?hcy7 ?hqy7 ?hyy7 ?resty7
  case hiy7 => (simp only [List.getElem?_toArray, List.getElem?_cons_zero, List.getElem?_cons_succ]; rfl)
  case hay7 => kernel_rfl
  case hby7 => kernel_rfl
  case hcy7 => kernel_rfl
  case hyy7 => exact Or.inl ⟨by rfl, by (intro w; go_simp; (try with_reducible rfl))⟩
  case hqy7 => exact fun _ _ _ h => h
  try simp only [Act.put, List.setIfInBounds_toArray, List.set_cons_zero, List.set_cons_succ]
  refine wpAny_ready (rs := [2]) (by kernel_rfl) (by simp) ?_
  refine AllReady.cons (o := ?oiy8f0) ?hiy8f0 (fun K hK => ?stepy8f0) ?morey8f0
  case hiy8f0 => (simp only [List.getElem?_toArray, List.getElem?_cons_zero, List.getElem?_cons_succ]; rfl)
  case stepy8f0 =>
    go_simp
    refine (put_any n _).mono ?_
    rintro e w3 ⟨v3, rfl, hown3, hb3⟩
    obtain ⟨A3, c3, rfl, hs3⟩ := own_form hown3
    have hB3 : Blk w3 bb 24 (u8s (zeros128.set 0 kind)) := hR2.drew.kept (hb3.block _ hR2.lt)
    have hr3 : Blk w3 w.heap.size 24 (u8s zeros128) := hr1.drew.kept (hb3.block _ hr1.lt)
    have hb3t : Below w.heap.size w w3 := hb2.drew.trans (hb3.mono hb2.size)
    have hcp := copy_into (o := 1) (c := c3) (cap := 8) (m := 8) hB3 hs3 (Nat.le_refl _) (by rw [List.length_set, zeros_len]; omega)
    have hr4 : Blk (w3.setCells bb 1 (u8s (bytesOf n))) w.heap.size 24 (u8s zeros128) := hr3.kept (setCells_other _ _ _ _ _ hne)
    have hb4 := below_setCells hb3t hbbl (u8s (bytesOf n)) 1
    obtain ⟨w4, hw4⟩ : ∃ w4, w4 = w3.setCells bb 1 (u8s (bytesOf n)) := ⟨_, rfl⟩
    rw [← hw4] at hcp hr4 hb4
    obtain ⟨hcp, hB4⟩ := hcp
    have Hcp := Lib.hid hcp
    clear hcp hw4 hb3t hr3 hB3 hb3 hown3 hs3
    refine hK _ _ ?_
    clear hK K
    try simp only [Act.put, List.setIfInBounds_toArray, List.set_cons_zero, List.set_cons_succ]
    refine wpAny_ready (rs := [3]) (by kernel_rfl) (by simp) ?_
    refine AllReady.cons (o := ?oiy9f0) ?hiy9f0 (fun K hK => ?stepy9f0) ?morey9f0
    case hiy9f0 => (simp only [List.getElem?_toArray, List.getElem?_cons_zero, List.getElem?_cons_succ]; rfl)
    case stepy9f0 =>
      refine step_copy rfl (.tmp 30) (.tmp 32) 22 22 rfl _ _ (by simp [Act.eval]) (by simp [Act.eval]) Hcp.out ?_
      refine hK _ _ ?_
      clear hK K
      try simp only [Act.put, List.setIfInBounds_toArray, List.set_cons_zero, List.set_cons_succ]
      refine wpAny_done (by kernel_rfl) ?_ _
      obtain ⟨x9, hx9⟩ : ∃ x, (over 1 (bytesOf n) (zeros128.set 0 kind))[9]? = some x := ⟨_, List.getElem?_eq_getElem (by rw [over_len (by rw [bytesOf_len, List.length_set, zeros_len]; omega), List.length_set, zeros_len]; omega)⟩
      have hc9 : w4.cell? ⟨bb, 9, none⟩ = some (.int .u8 x9) := hB4.cell (by rw [List.getElem?_map, hx9]; rfl)
      have hf9 := hB4.frozen 9
      have hB5 := hB4.set8 9 (m : Int)
      have hr5 := hr4.setOther (a := ⟨bb, 9, none⟩) (by show w.heap.size ≠ bb; exact hne) (.int .u8 (m : Int))
      have hb5 := hb4.setCell (p := ⟨bb, 9, none⟩) hbbl (.int .u8 (m : Int))
      obtain ⟨w5, hw5⟩ : ∃ w5, w5 = w4.setCell ⟨bb, 9, none⟩ (.int .u8 (m : Int)) := ⟨_, rfl⟩
      rw [← hw5] at hB5 hr5 hb5
      have Hw5 := Lib.hid hw5
      have hcp9 := copy_into (o := 10) (c := c) (cap := 113) (m := 113) hB5 (Hx.out.below hb5) hm113 (by rw [List.length_set, over_len (by rw [bytesOf_len, List.length_set, zeros_len]; omega), List.length_set, zeros_len]; omega)
      have hr6 : Blk (w5.setCells bb 10 (u8s load)) w.heap.size 24 (u8s zeros128) := hr5.kept (setCells_other _ _ _ _ _ hne)
      have hb6 := below_setCells hb5 hbbl (u8s load) 10
      obtain ⟨w6, hw6⟩ : ∃ w6, w6 = w5.setCells bb 10 (u8s load) := ⟨_, rfl⟩
      rw [← hw6] at hcp9 hr6 hb6
      obtain ⟨hcp9, hB6⟩ := hcp9
      have hbu : over 10 load ((over 1 (bytesOf n) (zeros128.set 0 kind)).set 9 (m : Int)) = built kind n load := by rw [built, Hlen.out]
      rw [hbu] at hB6
      have hs6 := hB6.cut8 0 123 (by rw [built_len kind n (by rw [Hlen.out]; exact hm113)]; omega)
      rw [List.drop_zero, built_head kind n (by rw [Hlen.out]; exact hm113)] at hs6
      have Hcp9 := Lib.hid hcp9
      have Hhb := Lib.hid (head_bytes (n := n) Hk.out (by rw [Hlen.out]; exact hm113) Hb.out)
      obtain ⟨s, hs⟩ : ∃ s, s = sumOf (headOf kind n load) := ⟨_, rfl⟩
      have hs32 : s < 4294967296 := by rw [hs]; exact sum_lt Hhb.out
      have Hs := Lib.hid hs
      have Ht6 := Lib.hid (Ht.out.below hb6)
      clear hcp9 hw5 hw6 hB4 hB5 hr4 hr5 hb4 hb5 hbu hx9 hs hR2 hr1 hb2 Hcp
      go_wp2_with (first
        | (rw [← Hw5.out]; refine wpList_copy rfl (.tmp 38) (.tmp 39) 22 22 rfl _ _ rfl rfl Hcp9.out ?_))
      refine (sum_one_is s (some ⟨bb, 0, none⟩) 123 123 (headOf kind n load) w6 _ Ht6.out hs6 Hhb.out (by omega) Hs.out).mono ?_
      rintro e w7 ⟨rfl, hb7⟩
      have hB7 := hB6.kept (hb7.block _ hB6.lt)
      have hr7 := hr6.kept (hb7.block _ hr6.lt)
      have hb7t := hb6.trans (hb7.mono hb6.size)
      go_wp2_with fail
      refine (bytes_any s hs32 w7).mono ?_
      rintro e w8 ⟨⟨b0, b1, b2, b3, rfl, hb0, hb1, hb2, hb3, hsum⟩, hb8⟩
      have hB8 := hB7.kept (hb8.block _ hB7.lt)
      have hr8 := hr7.kept (hb8.block _ hr7.lt)
      have hb8t := hb7t.trans (hb8.mono hb7t.size)
      have Hfour := Lib.hid (show four s = [(b0 : Int), (b1 : Int), (b2 : Int), (b3 : Int)] from four_of hb0 hb1 hb2 hb3 hsum)
      clear hB6 hB7 hr6 hr7 hb6 hb7 hb7t hb8 hs6 Hcp9 Hw5 hc9 hf9 Ht6 hsum hb0 hb1 hb2 hb3 hs32
      go_upto_region 11 with fail
      have hb9 := hb8t.trans ((below_alloc w8 (.cells #[.int .u8 (b0 : Int), .int .u8 (b1 : Int), .int .u8 (b2 : Int), .int .u8 (b3 : Int)] 39)).mono hb8t.size)
      have hB9 := hB8.alloc (.cells #[.int .u8 (b0 : Int), .int .u8 (b1 : Int), .int .u8 (b2 : Int), .int .u8 (b3 : Int)] 39)
      have hr9 := hr8.alloc (.cells #[.int .u8 (b0 : Int), .int .u8 (b1 : Int), .int .u8 (b2 : Int), .int .u8 (b3 : Int)] 39)
      have hs9 : Sl (w8.alloc (.cells #[.int .u8 (b0 : Int), .int .u8 (b1 : Int), .int .u8 (b2 : Int), .int .u8 (b3 : Int)] 39)) (some ⟨w8.heap.size, 0, none⟩) 4 (u8s (four s)) := by
        rw [Hfour.out]
        exact Sl.new_ w8 39 [.int .u8 (b0 : Int), .int .u8 (b1 : Int), .int .u8 (b2 : Int), .int .u8 (b3 : Int)] 4 rfl
      obtain ⟨w9, hw9⟩ : ∃ w9, w9 = w8.alloc (.cells #[.int .u8 (b0 : Int), .int .u8 (b1 : Int), .int .u8 (b2 : Int), .int .u8 (b3 : Int)] 39) := ⟨_, rfl⟩
      rw [← hw9] at hb9 hB9 hr9 hs9 ⊢
      have hul := built_len kind n (load := load) (by rw [Hlen.out]; exact hm113)
      have hcp8 := copy_into (w := w9.drew) (o := 123) (c := 4) (cap := 4) (m := 4) hB9.drew hs9 (Nat.le_refl _) (by rw [hul]; omega)
      have hr10 : Blk (w9.drew.setCells bb 123 (u8s (four s))) w.heap.size 24 (u8s zeros128) := hr9.drew.kept (setCells_other _ _ _ _ _ hne)
      have hb10 := below_setCells hb9.drew hbbl (u8s (four s)) 123
      obtain ⟨w10, hw10⟩ : ∃ w10, w10 = w9.drew.setCells bb 123 (u8s (four s)) := ⟨_, rfl⟩
      rw [← hw10] at hcp8 hr10 hb10
      obtain ⟨hcp8, hB10⟩ := hcp8
      obtain ⟨x127, hx127⟩ : ∃ x, (over 123 (four s) (built kind n load))[127]? = some x := ⟨_, List.getElem?_eq_getElem (by rw [over_len (by rw [four_len, hul]; omega), hul]; omega)⟩
      have hc127 : w10.cell? ⟨bb, 127, none⟩ = some (.int .u8 x127) := hB10.cell (by rw [List.getElem?_map, hx127]; rfl)
      have hf127 := hB10.frozen 127
      have hB11 := hB10.set8 127 215
      rw [Hs.out, built_all kind n (by rw [Hlen.out]; exact hm113)] at hB11
      have hr11 := hr10.setOther (a := ⟨bb, 127, none⟩) (by show w.heap.size ≠ bb; exact hne) (.int .u8 215)
      have hb11 := hb10.setCell (p := ⟨bb, 127, none⟩) hbbl (.int .u8 215)
      obtain ⟨bs, hbs⟩ : ∃ bs, bs = sealed kind n load := ⟨_, rfl⟩
      have hl : bs.length = 128 := by rw [hbs]; exact sealed_len kind n (by rw [Hlen.out]; exact hm113)
      rw [← hbs] at hB11
      obtain ⟨w11, hw11⟩ : ∃ w11, w11 = w10.setCell ⟨bb, 127, none⟩ (.int .u8 215) := ⟨_, rfl⟩
      rw [← hw11] at hB11 hr11 hb11
      have Hw11 := Lib.hid hw11
      have Hcp8 := Lib.hid hcp8
      have Hr11 := Lib.hid hB11.range
      have Hth11 := Lib.hid (hr11.there (n := (u8s bs).toArray.size) (by rw [List.size_toArray, List.length_map, List.length_map, hl, zeros_len]; omega))
      have hsL : (Tryd.prog.info? 24).map (·.size) = some (u8s bs).length := by rw [size_arr, List.length_map, hl]
      have hsA : (Tryd.prog.info? 24).map (·.size) = some (u8s bs).toArray.size := by rw [size_arr, List.size_toArray, List.length_map, hl]
      have hB12 : Blk (w11.setCells w.heap.size 0 (u8s bs)) w.heap.size 24 (u8s bs) := setCells_whole hr11 (by rw [List.length_map, List.length_map, hl, zeros_len])
      have hb12 := below_setCells hb11 (Nat.le_refl _) (u8s bs) 0
      have Hbs := Lib.hid hbs
      clear hw9 hw10 hw11 hcp8 hB8 hB9 hB10 hr8 hr9 hr10 hb8t hb9 hb10 hs9 hx127 hbs hl hul hB11 hr11 hb11 Hfour
      refine wp_region_any (by kernel_rfl) ?_
      try (change wpAny _ _ _ _ _ _ _ (World.drew _))
      refine wpAny_take (i := 0) (oi := ?oiy1) (v := ?vy1) ?hiy1 ?hay1 ?hby1 ?hcy1 ?hqy1 ?hyy1 ?resty1
      case hiy1 => (simp only [List.getElem?_toArray, List.getElem?_cons_zero, List.getElem?_cons_succ]; rfl)
      case hay1 => kernel_rfl
      case hby1 => kernel_rfl
      case hcy1 => kernel_rfl
      case hyy1 => exact Or.inl ⟨by rfl, by (intro w; go_simp; (try with_reducible rfl))⟩
      case hqy1 => exact fun _ _ _ h => h
      try simp only [Act.put, List.setIfInBounds_toArray, List.set_cons_zero, List.set_cons_succ]
      refine wpAny_take (i := 1) (oi := ?oiy2) (v := ?vy2) ?hiy2 ?hay2 ?hby2 ?hcy2 ?hqy2 ?hyy2 ?resty2
      case hiy2 => (simp only [List.getElem?_toArray, List.getElem?_cons_zero, List.getElem?_cons_succ]; rfl)
      case hay2 => kernel_rfl
      case hby2 => kernel_rfl
      case hcy2 => kernel_rfl
      case hyy2 => exact Or.inl ⟨by rfl, by (intro w; go_simp; (try with_reducible rfl))⟩
      case hqy2 => exact fun _ _ _ h => h
      try simp only [Act.put, List.setIfInBounds_toArray, List.set_cons_zero, List.set_cons_succ]
      refine wpAny_ready (rs := [2]) (by kernel_rfl) (by simp) ?_
      refine AllReady.cons (o := ?oiy3f0) ?hiy3f0 (fun K hK => ?stepy3f0) ?morey3f0
      case hiy3f0 => (simp only [List.getElem?_toArray, List.getElem?_cons_zero, List.getElem?_cons_succ]; rfl)
      case stepy3f0 =>
        refine step_copy rfl (.tmp 45) (.tmp 46) 22 22 rfl _ _ (by simp [Act.eval]) (by simp [Act.eval]) Hcp8.out ?_
        refine hK _ _ ?_
        clear hK K
        try simp only [Act.put, List.setIfInBounds_toArray, List.set_cons_zero, List.set_cons_succ]
        refine wpAny_done (by kernel_rfl) ?_ _
        go_wp2_with (first
          | (rw [← Hw11.out]; refine wpList_load_mid rfl 24 (.tmp 8) rfl bb 0 rfl (u8s bs) _ Hr11.out Tryd.underlying24 rfl hsL ?_)
          | (refine wpList_store_mid rfl 24 (.tmp 6) (.tmp 49) rfl w.heap.size 0 (u8s bs).toArray rfl rfl Hth11.out hsA (all_oneCell_toArray (one_u8s _)) ?_; rw [show (u8s bs).toArray.toList = u8s bs from rfl]))
        rw [← Hbs.out]
        refine bodyPost_ret (v := .tuple #[.agg (u8s bs).toArray, .int .i64 0]) ?_ rfl ⟨rfl, hb12⟩
        exact results_arr_int rfl _ _ w.heap.size 24 _ (0, 0) _ rfl hB12 Tryd.underlying24 rfl hsA _ rfl
      case morey3f0 => exact AllReady.nil
    case morey9f0 => exact AllReady.nil
  case morey8f0 => exact AllReady.nil
end Go.Proofs.YtpmhjmbiiihfoaaDoor
