/- One of stage 8: what is wiped. -/
import Derived.Test.YtflaikjciachaaaDoorBothA
import Derived.Test.YtflaikjciachaaaDoorAwake8
namespace Go.Proofs.YtflaikjciachaaaDoor
set_option maxRecDepth 100000
open Go.RowKit Go.Deep
set_option linter.unusedSimpArgs false
set_option linter.unusedVariables false
attribute [local irreducible] Tryd.zeroCells52

theorem made128 : madeCells (Value.int .u8 0).cells (128 * 1) = (u8s zeros128).toArray := by kernel_rfl

set_option maxHeartbeats 6400000 in
theorem oneA_wipe (B : Nat) (K : Nat → Prop) (w : World) (a d c : Nat) (S : DS) (f m : Int) (h : BothA B K w a d c S f m) (hs : Spot f m) (hm1 : 1 ≤ m) (hB : B ≤ w.heap.size) (ht : Tabs w) (hTB : NoTabs (fun k => B ≤ k)) (n k mm : Int)
    (hn : -9223372036854775808 ≤ n ∧ n ≤ 9223372036854775807) (hk : -9223372036854775808 ≤ k ∧ k ≤ 9223372036854775807) (hmm : -9223372036854775808 ≤ mm ∧ mm ≤ 9223372036854775807)
    (A : Option Addr) (q cc : Nat) (xs : List Int) (hx : Sl w A q (u8s xs)) (hxb : ∀ x ∈ xs, 0 ≤ x ∧ x < 256) (hq : q ≤ 9223372036854775807) (hA : ∀ ad, A = some ad → 0 < q → ad.block < B) (hmany : S.waits.length ≤ 1000000) :
    Calls Tryd.prog 15 #[.pointer (some ⟨a, 0, none⟩), .agg #[.pointer (some ⟨c, 0, none⟩), .int .i64 f, .int .i64 m], .pointer (some ⟨d, 0, none⟩), .agg #[.int .i64 4, .int .i64 n, .int .i64 k, .int .i64 mm, .slice A q cc]] w (OnePostA B K w a d c S f m) := by
  obtain ⟨F, G, hF, hG, hFG, hFB, hGB, hK, ha, hKa⟩ := h
  have hFa := (hK a hKa).1
  obtain ⟨w1, hw1⟩ : ∃ w1, w1 = (w.alloc (.cells #[.pointer (some ⟨c, 0, none⟩), .int .i64 f, .int .i64 m] 44)).alloc (.cells #[.int .i64 4, .int .i64 n, .int .i64 k, .int .i64 mm, .slice A q cc] 46) := ⟨_, rfl⟩
  have hb1 : Below w.heap.size w w1 := by rw [hw1]; exact (below_alloc _ _).trans ((below_alloc _ _).mono (by rw [nblk_alloc]; omega))
  have hP : Blk w1 w.heap.size 44 [.pointer (some ⟨c, 0, none⟩), .int .i64 f, .int .i64 m] := by rw [hw1]; exact (Blk.new _ _ _).alloc _
  obtain ⟨pd, hpd⟩ : ∃ pd, pd = w.heap.size + 1 := ⟨_, rfl⟩
  have hD : Blk w1 pd 46 [.int .i64 4, .int .i64 n, .int .i64 k, .int .i64 mm, .slice A q cc] := by
    have := Blk.new (w.alloc (.cells #[.pointer (some ⟨c, 0, none⟩), .int .i64 f, .int .i64 m] 44)) 46 [.int .i64 4, .int .i64 n, .int .i64 k, .int .i64 mm, .slice A q cc]
    rw [nblk_alloc, ← hpd] at this
    rw [hw1]; exact this
  obtain ⟨bs, hbs⟩ : ∃ bs, bs = fullOf xs := ⟨_, rfl⟩
  have hbB : Byte128 bs := by rw [hbs]; exact fullOf_byte hxb
  have hx1 := hx.below hb1
  have Hfull := Lib.hid (show Calls Tryd.prog 20 #[.slice A q cc] w1 fun e w' => e = .returned (.agg (u8s bs).toArray) ∧ Below w1.heap.size w1 w' by rw [hbs]; exact full_is w1 A q cc xs hx1 hq)
  have HbB := Lib.hid hbB
  have Hxb := Lib.hid hxb
  have Hw1 := Lib.hid hw1
  have Hpd := Lib.hid hpd
  have Ht := Lib.hid ht
  have hcB := hD.cell (i := 4) rfl
  have hcK := hD.cell (i := 0) rfl
  clear hw1 hbs hbB hpd ht hxb
  go_enter Tryd.func15, Tryd.ntmps15
  go_upto_region 1 with fail
  rw [← Hw1.out, ← Hpd.out]
  go_wp2_with fail
  refine Hfull.out.mono ?_
  rintro e w2 ⟨rfl, hb2⟩
  obtain ⟨w3, hw3, hb3, hR3, hth, hsA, hsL⟩ := arr_new w2 bs HbB.out.1
  have hb13 : Below w.heap.size w w3 := hb1.trans ((hb2.trans (hb3.mono hb2.size)).mono hb1.size)
  have hP3 := (hP.kept (hb2.block _ hP.lt))
  have hD3 := (hD.kept (hb2.block _ hD.lt))
  have hP3 := hP3.kept (hb3.block _ hP3.lt)
  have hD3 := hD3.kept (hb3.block _ hD3.lt)
  obtain ⟨bb, hbb⟩ : ∃ bb, bb = w2.heap.size := ⟨_, rfl⟩
  rw [← hbb] at hR3
  have hbbl : w.heap.size ≤ bb := by rw [hbb]; exact Nat.le_trans hb1.size hb2.size
  obtain ⟨pa, hpa⟩ : ∃ pa, pa = w.heap.size := ⟨_, rfl⟩
  rw [← hpa] at hP3 ⊢
  have hpal : w.heap.size ≤ pa := by rw [hpa]; exact Nat.le_refl _
  have hpdl : w.heap.size ≤ pd := by rw [Hpd.out]; omega
  have hF3 := hF.only (Only.of_below (F := Nothing) hb13) (fun _ _ hk => hk)
  have hG3 := hG.only (Only.of_below (F := Nothing) hb13) (fun _ _ hk => hk)
  have ha3 : PArea w3 a d f m := ha.kept (hb13.block _ ha.lt)
  have hnF : ∀ p, w.heap.size ≤ p → ¬ F p := fun p hp hk => by have := hF.fin hk; omega
  have hnG : ∀ p, w.heap.size ≤ p → ¬ G p := fun p hp hk => by have := hG.fin hk; omega
  have hB3 : B ≤ w3.heap.size := Nat.le_trans hB hb13.size
  have hx3 := hx.below hb13
  have HFT := Lib.hid (show NoTabs F from hTB.mono hFB)
  have HGT := Lib.hid (show NoTabs G from hTB.mono hGB)
  have Ht3 := Lib.hid (show Tabs w3 from Ht.out.below hb13)
  have hb0 : Below B w w3 := hb13.mono hB
  have hk0 : Kept K w w3 := Kept.of_below (fun k hk => (hK k hk).2.2) hb13
  have hK3 : ∀ k, K k → ¬ F k ∧ ¬ G k ∧ k < w3.heap.size := fun k hk => ⟨(hK k hk).1, (hK k hk).2.1, Nat.lt_of_lt_of_le (hK k hk).2.2 hb13.size⟩
  have hAF : ∀ ad, A = some ad → 0 < q → ¬ F ad.block := fun ad e h0 hf => by have := hA ad e h0; have := hFB _ hf; omega
  have hAG : ∀ ad, A = some ad → 0 < q → ¬ G ad.block := fun ad e h0 hf => by have := hA ad e h0; have := hGB _ hf; omega
  have Hw3 := Lib.hid hw3; have Hth := Lib.hid hth; have Hbb := Lib.hid hbb
  have Hpa := Lib.hid hpa
  have hone := one_u8s bs
  have hcK3 := hD3.cell (i := 0) rfl
  clear hw3 hth hbb hpa hb1 hb2 hb3 hP hD hcB hcK hx hx1 Hfull hA hF hG ha
  obtain ⟨r, hr⟩ : ∃ r, r = S.arWrite f m n zeros128 := ⟨_, rfl⟩
  have Hr := Lib.hid hr
  clear hr
  obtain ⟨i0, hi0, hz0, hz1, hz2⟩ := info_parts info_u8
  go_wp2_with (refine wpList_store_mid rfl 52 (.tmp 9) (.tmp 22) rfl w2.heap.size 0 (u8s bs).toArray rfl rfl Hth.out hsA (all_oneCell_toArray (one_u8s _)) ?_; rw [show (u8s bs).toArray.toList = u8s bs from rfl, ← Hw3.out, ← Hbb.out])
  clear Hth Hw3 Hbb hsA
  replace hP3 := hP3.drew
  replace hD3 := hD3.drew
  replace hR3 := hR3.drew
  replace hF3 := hF3.drew
  replace hG3 : RD G w3.drew c S := hG3.only ((Only.refl Nothing w3).drew) (fun _ _ hk => hk)
  replace ha3 : PArea w3.drew a d f m := ha3
  replace hB3 : B ≤ w3.drew.heap.size := hB3
  replace hx3 : Sl w3.drew A q (u8s xs) := hx3
  replace Ht3 := Lib.hid (show Tabs w3.drew from Ht3.out)
  replace hb0 : Below B w w3.drew := hb0.drew
  replace hk0 : Kept K w w3.drew := hk0
  replace hK3 : ∀ k, K k → ¬ F k ∧ ¬ G k ∧ k < w3.drew.heap.size := hK3
  refine wp_region_held_drew (S := fun w0 => w0.cell? ⟨pd, 1, none⟩ = some (.int .i64 n) ∧ w0.cell? ⟨pa, 0, none⟩ = some (.pointer (some ⟨c, 0, none⟩)) ∧ w0.cell? ⟨pa, 1, none⟩ = some (.int .i64 f) ∧ w0.cell? ⟨pa, 2, none⟩ = some (.int .i64 m)) (by kernel_rfl) (⟨hD3.cell (i := 1) rfl, hP3.cell (i := 0) rfl, hP3.cell (i := 1) rfl, hP3.cell (i := 2) rfl⟩ : _ ∧ _ ∧ _ ∧ _) (fun hHeld => ?_)
  refine wpAnyH_take (i := 0) (oi := ?oiz45) (v := ?vz45) ?hiz45 ?haz45 ?hbz45 ?hcz45 ?hqz45 ?hyz45 (by assumption) ?restz45
  case hiz45 => (simp only [List.getElem?_toArray, List.getElem?_cons_zero, List.getElem?_cons_succ]; rfl)
  case haz45 => kernel_rfl
  case hbz45 => kernel_rfl
  case hcz45 => kernel_rfl
  case hyz45 => exact Or.inl ⟨by rfl, by (intro w hSw; (try dsimp only at hSw); go_split_ands; go_simp; (try with_reducible rfl))⟩
  case hqz45 => exact fun _ _ _ h => h
  try simp only [Act.put, List.setIfInBounds_toArray, List.set_cons_zero, List.set_cons_succ]
  refine wpAnyH_take (i := 1) (oi := ?oiz46) (v := ?vz46) ?hiz46 ?haz46 ?hbz46 ?hcz46 ?hqz46 ?hyz46 (by assumption) ?restz46
  case hiz46 => (simp only [List.getElem?_toArray, List.getElem?_cons_zero, List.getElem?_cons_succ]; rfl)
  case haz46 => kernel_rfl
  case hbz46 => kernel_rfl
  case hcz46 => kernel_rfl
  case hyz46 => exact Or.inl ⟨by rfl, by (intro w hSw; (try dsimp only at hSw); go_split_ands; go_simp; (try with_reducible rfl))⟩
  case hqz46 => exact fun _ _ _ h => h
  try simp only [Act.put, List.setIfInBounds_toArray, List.set_cons_zero, List.set_cons_succ]
  refine wpAnyH_take (i := 2) (oi := ?oiz47) (v := ?vz47) ?hiz47 ?haz47 ?hbz47 ?hcz47 ?hqz47 ?hyz47 (by assumption) ?restz47
  case hiz47 => (simp only [List.getElem?_toArray, List.getElem?_cons_zero, List.getElem?_cons_succ]; rfl)
  case haz47 => kernel_rfl
  case hbz47 => kernel_rfl
  case hcz47 => kernel_rfl
  case hyz47 => exact Or.inl ⟨by rfl, by (intro w hSw; (try dsimp only at hSw); go_split_ands; go_simp; (try with_reducible rfl))⟩
  case hqz47 => exact fun _ _ _ h => h
  try simp only [Act.put, List.setIfInBounds_toArray, List.set_cons_zero, List.set_cons_succ]
  refine wpAnyH_take (i := 4) (oi := ?oiz48) (v := ?vz48) ?hiz48 ?haz48 ?hbz48 ?hcz48 ?hqz48 ?hyz48 (by assumption) ?restz48
  case hiz48 => (simp only [List.getElem?_toArray, List.getElem?_cons_zero, List.getElem?_cons_succ]; rfl)
  case haz48 => kernel_rfl
  case hbz48 => kernel_rfl
  case hcz48 => kernel_rfl
  case hyz48 => exact Or.inl ⟨by rfl, by (intro w hSw; (try dsimp only at hSw); go_split_ands; go_simp; (try with_reducible rfl))⟩
  case hqz48 => exact fun _ _ _ h => h
  try simp only [Act.put, List.setIfInBounds_toArray, List.set_cons_zero, List.set_cons_succ]
  refine wpAnyH_take (i := 5) (oi := ?oiz49) (v := ?vz49) ?hiz49 ?haz49 ?hbz49 ?hcz49 ?hqz49 ?hyz49 (by assumption) ?restz49
  case hiz49 => (simp only [List.getElem?_toArray, List.getElem?_cons_zero, List.getElem?_cons_succ]; rfl)
  case haz49 => kernel_rfl
  case hbz49 => kernel_rfl
  case hcz49 => kernel_rfl
  case hyz49 => exact Or.inl ⟨by rfl, by (intro w hSw; (try dsimp only at hSw); go_split_ands; go_simp; (try with_reducible rfl))⟩
  case hqz49 => exact fun _ _ _ h => h
  try simp only [Act.put, List.setIfInBounds_toArray, List.set_cons_zero, List.set_cons_succ]
  refine wpAnyH_take (i := 6) (oi := ?oiz50) (v := ?vz50) ?hiz50 ?haz50 ?hbz50 ?hcz50 ?hqz50 ?hyz50 (by assumption) ?restz50
  case hiz50 => (simp only [List.getElem?_toArray, List.getElem?_cons_zero, List.getElem?_cons_succ]; rfl)
  case haz50 => kernel_rfl
  case hbz50 => kernel_rfl
  case hcz50 => kernel_rfl
  case hyz50 => exact Or.inl ⟨by rfl, by (intro w hSw; (try dsimp only at hSw); go_split_ands; go_simp; (try with_reducible rfl))⟩
  case hqz50 => exact fun _ _ _ h => h
  try simp only [Act.put, List.setIfInBounds_toArray, List.set_cons_zero, List.set_cons_succ]
  refine wpAnyH_ready (rs := [3, 7]) (by kernel_rfl) (by simp) ?_
  refine AllReadyH.cons (o := ?oiz51g0) ?hiz51g0 (fun K hK => ?stepz51g0) ?morez51g0
  case hiz51g0 => (simp only [List.getElem?_toArray, List.getElem?_cons_zero, List.getElem?_cons_succ]; rfl)
  case stepz51g0 =>
    go_simp
    refine (parea_wipe F w3.drew a d S f m hF3 ha3 hFa hs hm1 n hn hmany r Hr.out).mono ?_
    rintro e w4 ⟨rfl, hF4, hO4⟩
    have hP4 := hO4.blk hP3 (hnF pa hpal)
    have hD4 := hO4.blk hD3 (hnF pd hpdl)
    have hG4 := hG3.only hO4 (fun k hg hf => hFG k hf hg)
    refine hK.out _ _ (⟨hD4.cell (i := 1) rfl, hP4.cell (i := 0) rfl, hP4.cell (i := 1) rfl, hP4.cell (i := 2) rfl⟩ : _ ∧ _ ∧ _ ∧ _) (fun hHeld => ?_)
    clear hK K
    try simp only [Act.put, List.setIfInBounds_toArray, List.set_cons_zero, List.set_cons_succ]
    refine wpAnyH_ready (rs := [7]) (by kernel_rfl) (by simp) ?_
    refine AllReadyH.cons (o := ?oiz52g0) ?hiz52g0 (fun K hK => ?stepz52g0) ?morez52g0
    case hiz52g0 => (simp only [List.getElem?_toArray, List.getElem?_cons_zero, List.getElem?_cons_succ]; rfl)
    case stepz52g0 =>
      refine step_make rfl (.const (.int .i64 128)) (.const (.int .i64 128)) 30 rfl 5 i0 (.int .u8 0) 1 Tryd.underlying30 hi0 hz0 hz1 128 (by simp [Act.eval]) (by simp [Act.eval]) (by rw [hz2]; omega) (by omega) ?_
      obtain ⟨w5, hw5⟩ : ∃ x, x = w4.alloc (.cells (madeCells (Value.int .u8 0).cells (128 * 1)) 5) := ⟨_, rfl⟩
      rw [← hw5]
      have hb5 : Below w4.heap.size w4 w5 := by rw [hw5]; exact below_alloc _ _
      have hM5 : Blk w5 w4.heap.size 5 (u8s zeros128) := by rw [hw5, made128]; exact Blk.new _ _ _
      have hP5 := hP4.kept (hb5.block _ hP4.lt)
      have hD5 := hD4.kept (hb5.block _ hD4.lt)
      clear hw5
      have hG5 := hG4.only (Only.of_below (F := Nothing) hb5) (fun _ _ hk => hk)
      have hsl5 := hM5.sl8
      rw [zeros_len] at hsl5
      refine hK.out _ _ (⟨hD5.cell (i := 1) rfl, hP5.cell (i := 0) rfl, hP5.cell (i := 1) rfl, hP5.cell (i := 2) rfl⟩ : _ ∧ _ ∧ _ ∧ _) (fun hHeld => ?_)
      clear hK K
      try simp only [Act.put, List.setIfInBounds_toArray, List.set_cons_zero, List.set_cons_succ]
      refine wpAnyH_ready (rs := [8]) (by kernel_rfl) (by simp) ?_
      refine AllReadyH.cons (o := ?oiz53g0) ?hiz53g0 (fun K hK => ?stepz53g0) ?morez53g0
      case hiz53g0 => (simp only [List.getElem?_toArray, List.getElem?_cons_zero, List.getElem?_cons_succ]; rfl)
      case stepz53g0 =>
        go_simp
        refine (rarea_write G w5 c S hG5 f m hs n hn _ 128 zeros128 hsl5 zeros_byte hmany r Hr.out).mono ?_
        rintro e w6 ⟨rfl, hG6, hO6⟩
        have hP6 := hO6.blk hP5 (hnG pa hpal)
        have hD6 := hO6.blk hD5 (hnG pd hpdl)
        refine hK.out _ _ (⟨hD6.cell (i := 1) rfl, hP6.cell (i := 0) rfl, hP6.cell (i := 1) rfl, hP6.cell (i := 2) rfl⟩ : _ ∧ _ ∧ _ ∧ _) (fun hHeld => ?_)
        clear hK K
        try simp only [Act.put, List.setIfInBounds_toArray, List.set_cons_zero, List.set_cons_succ]
        refine wpAnyH_take (i := 9) (oi := ?oiz54) (v := ?vz54) ?hiz54 ?haz54 ?hbz54 ?hcz54 ?hqz54 ?hyz54 (by assumption) ?restz54
        case hiz54 => (simp only [List.getElem?_toArray, List.getElem?_cons_zero, List.getElem?_cons_succ]; rfl)
        case haz54 => kernel_rfl
        case hbz54 => kernel_rfl
        case hcz54 => kernel_rfl
        case hyz54 => exact Or.inl ⟨by rfl, by (intro w hSw; (try dsimp only at hSw); go_split_ands; go_simp; (try with_reducible rfl))⟩
        case hqz54 => exact fun _ _ _ h => h
        try simp only [Act.put, List.setIfInBounds_toArray, List.set_cons_zero, List.set_cons_succ]
        refine wpAnyH_take (i := 10) (oi := ?oiz55) (v := ?vz55) ?hiz55 ?haz55 ?hbz55 ?hcz55 ?hqz55 ?hyz55 (by assumption) ?restz55
        case hiz55 => (simp only [List.getElem?_toArray, List.getElem?_cons_zero, List.getElem?_cons_succ]; rfl)
        case haz55 => kernel_rfl
        case hbz55 => kernel_rfl
        case hcz55 => kernel_rfl
        case hyz55 => exact Or.inl ⟨by rfl, by (intro w hSw; (try dsimp only at hSw); go_split_ands; go_simp; (try with_reducible rfl))⟩
        case hqz55 => exact fun _ _ _ h => h
        try simp only [Act.put, List.setIfInBounds_toArray, List.set_cons_zero, List.set_cons_succ]
        refine wpAnyH_done (by kernel_rfl) ?_ _
        clear hHeld
        try go_wp2_with fail
        try go_ret
        obtain ⟨hboth, hbel, hkp⟩ := bothA_step hF3 hG3 hFG hFB hGB hK3 ha3 hKa hB3 hF4 hO4 (rd_wide hG6 hb5.size) ((Only.of_below (F := G) hb5).trans hO6 (fun _ _ hk => hk))
        exact ⟨rfl, _, hboth, hb0.trans hbel, hk0.trans hkp, by rw [Hr.out]; exact (arWrite_same S f m n zeros128).1, by rw [Hr.out, (arWrite_same S f m n zeros128).2]⟩
      case morez53g0 => exact AllReadyH.nil
    case morez52g0 => exact AllReadyH.nil
  case morez51g0 =>
    refine AllReadyH.cons (o := ?oiz51g1) ?hiz51g1 (fun K hK => ?stepz51g1) ?morez51g1
    case hiz51g1 => (simp only [List.getElem?_toArray, List.getElem?_cons_zero, List.getElem?_cons_succ]; rfl)
    case stepz51g1 =>
      refine step_make rfl (.const (.int .i64 128)) (.const (.int .i64 128)) 30 rfl 5 i0 (.int .u8 0) 1 Tryd.underlying30 hi0 hz0 hz1 128 (by simp [Act.eval]) (by simp [Act.eval]) (by rw [hz2]; omega) (by omega) ?_
      obtain ⟨w4, hw4⟩ : ∃ x, x = w3.drew.alloc (.cells (madeCells (Value.int .u8 0).cells (128 * 1)) 5) := ⟨_, rfl⟩
      rw [← hw4]
      have hb4 : Below w3.drew.heap.size w3.drew w4 := by rw [hw4]; exact below_alloc _ _
      have hM4 : Blk w4 w3.drew.heap.size 5 (u8s zeros128) := by rw [hw4, made128]; exact Blk.new _ _ _
      have hP4 := hP3.kept (hb4.block _ hP3.lt)
      have hD4 := hD3.kept (hb4.block _ hD3.lt)
      clear hw4
      have hF4 := hF3.only (Only.of_below (F := Nothing) hb4) (fun _ _ hk => hk)
      have hG4 := hG3.only (Only.of_below (F := Nothing) hb4) (fun _ _ hk => hk)
      have ha4 := ha3.kept (hb4.block _ ha3.lt)
      refine hK.out _ _ (⟨hD4.cell (i := 1) rfl, hP4.cell (i := 0) rfl, hP4.cell (i := 1) rfl, hP4.cell (i := 2) rfl⟩ : _ ∧ _ ∧ _ ∧ _) (fun hHeld => ?_)
      clear hK K
      try simp only [Act.put, List.setIfInBounds_toArray, List.set_cons_zero, List.set_cons_succ]
      refine wpAnyH_ready (rs := [3]) (by kernel_rfl) (by simp) ?_
      refine AllReadyH.cons (o := ?oiz57g0) ?hiz57g0 (fun K hK => ?stepz57g0) ?morez57g0
      case hiz57g0 => (simp only [List.getElem?_toArray, List.getElem?_cons_zero, List.getElem?_cons_succ]; rfl)
      case stepz57g0 =>
        go_simp
        refine (parea_wipe F w4 a d S f m hF4 ha4 hFa hs hm1 n hn hmany r Hr.out).mono ?_
        rintro e w5 ⟨rfl, hF5, hO5⟩
        have hP5 := hO5.blk hP4 (hnF pa hpal)
        have hD5 := hO5.blk hD4 (hnF pd hpdl)
        have hM5 := hO5.blk hM4 (hnF _ hb13.size)
        have hG5 := hG4.only hO5 (fun k hg hf => hFG k hf hg)
        have hsl5 := hM5.sl8
        rw [zeros_len] at hsl5
        refine hK.out _ _ (⟨hD5.cell (i := 1) rfl, hP5.cell (i := 0) rfl, hP5.cell (i := 1) rfl, hP5.cell (i := 2) rfl⟩ : _ ∧ _ ∧ _ ∧ _) (fun hHeld => ?_)
        clear hK K
        try simp only [Act.put, List.setIfInBounds_toArray, List.set_cons_zero, List.set_cons_succ]
        refine wpAnyH_ready (rs := [8]) (by kernel_rfl) (by simp) ?_
        refine AllReadyH.cons (o := ?oiz58g0) ?hiz58g0 (fun K hK => ?stepz58g0) ?morez58g0
        case hiz58g0 => (simp only [List.getElem?_toArray, List.getElem?_cons_zero, List.getElem?_cons_succ]; rfl)
        case stepz58g0 =>
          go_simp
          refine (rarea_write G w5 c S hG5 f m hs n hn _ 128 zeros128 hsl5 zeros_byte hmany r Hr.out).mono ?_
          rintro e w6 ⟨rfl, hG6, hO6⟩
          have hP6 := hO6.blk hP5 (hnG pa hpal)
          have hD6 := hO6.blk hD5 (hnG pd hpdl)
          refine hK.out _ _ (⟨hD6.cell (i := 1) rfl, hP6.cell (i := 0) rfl, hP6.cell (i := 1) rfl, hP6.cell (i := 2) rfl⟩ : _ ∧ _ ∧ _ ∧ _) (fun hHeld => ?_)
          clear hK K
          try simp only [Act.put, List.setIfInBounds_toArray, List.set_cons_zero, List.set_cons_succ]
          refine wpAnyH_take (i := 9) (oi := ?oiz59) (v := ?vz59) ?hiz59 ?haz59 ?hbz59 ?hcz59 ?hqz59 ?hyz59 (by assumption) ?restz59
          case hiz59 => (simp only [List.getElem?_toArray, List.getElem?_cons_zero, List.getElem?_cons_succ]; rfl)
          case haz59 => kernel_rfl
          case hbz59 => kernel_rfl
          case hcz59 => kernel_rfl
          case hyz59 => exact Or.inl ⟨by rfl, by (intro w hSw; (try dsimp only at hSw); go_split_ands; go_simp; (try with_reducible rfl))⟩
          case hqz59 => exact fun _ _ _ h => h
          try simp only [Act.put, List.setIfInBounds_toArray, List.set_cons_zero, List.set_cons_succ]
          refine wpAnyH_take (i := 10) (oi := ?oiz60) (v := ?vz60) ?hiz60 ?haz60 ?hbz60 ?hcz60 ?hqz60 ?hyz60 (by assumption) ?restz60
          case hiz60 => (simp only [List.getElem?_toArray, List.getElem?_cons_zero, List.getElem?_cons_succ]; rfl)
          case haz60 => kernel_rfl
          case hbz60 => kernel_rfl
          case hcz60 => kernel_rfl
          case hyz60 => exact Or.inl ⟨by rfl, by (intro w hSw; (try dsimp only at hSw); go_split_ands; go_simp; (try with_reducible rfl))⟩
          case hqz60 => exact fun _ _ _ h => h
          try simp only [Act.put, List.setIfInBounds_toArray, List.set_cons_zero, List.set_cons_succ]
          refine wpAnyH_done (by kernel_rfl) ?_ _
          clear hHeld
          try go_wp2_with fail
          try go_ret
          obtain ⟨hboth, hbel, hkp⟩ := bothA_step hF4 hG4 hFG hFB hGB (fun k hk => ⟨(hK3 k hk).1, (hK3 k hk).2.1, Nat.lt_of_lt_of_le (hK3 k hk).2.2 hb4.size⟩) ha4 hKa (Nat.le_trans hB3 hb4.size) hF5 hO5 hG6 hO6
          exact ⟨rfl, _, hboth, (hb0.trans (hb4.mono hB3)).trans hbel, (hk0.trans (Kept.of_below (fun k hk => (hK3 k hk).2.2) hb4)).trans hkp, by rw [Hr.out]; exact (arWrite_same S f m n zeros128).1, by rw [Hr.out, (arWrite_same S f m n zeros128).2]⟩
        case morez58g0 => exact AllReadyH.nil
      case morez57g0 => exact AllReadyH.nil
    case morez51g1 => exact AllReadyH.nil
end Go.Proofs.YtflaikjciachaaaDoor
