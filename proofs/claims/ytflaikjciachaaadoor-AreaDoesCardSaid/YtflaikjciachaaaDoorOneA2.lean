/- One of stage 8: what is flushed. -/
import Derived.Test.YtflaikjciachaaaDoorBothA
import Derived.Test.YtflaikjciachaaaDoorAwake8
namespace Go.Proofs.YtflaikjciachaaaDoor
set_option maxRecDepth 100000
open Go.RowKit Go.Deep
set_option linter.unusedSimpArgs false
set_option linter.unusedVariables false
attribute [local irreducible] Tryd.zeroCells52

set_option maxHeartbeats 6400000 in
theorem oneA_flush (B : Nat) (K : Nat → Prop) (w : World) (a d c : Nat) (S : DS) (f m : Int) (h : BothA B K w a d c S f m) (hs : Spot f m) (hm1 : 1 ≤ m) (hB : B ≤ w.heap.size) (ht : Tabs w) (hTB : NoTabs (fun k => B ≤ k)) (n k mm : Int)
    (hn : -9223372036854775808 ≤ n ∧ n ≤ 9223372036854775807) (hk : -9223372036854775808 ≤ k ∧ k ≤ 9223372036854775807) (hmm : -9223372036854775808 ≤ mm ∧ mm ≤ 9223372036854775807)
    (A : Option Addr) (q cc : Nat) (xs : List Int) (hx : Sl w A q (u8s xs)) (hxb : ∀ x ∈ xs, 0 ≤ x ∧ x < 256) (hq : q ≤ 9223372036854775807) (hA : ∀ ad, A = some ad → 0 < q → ad.block < B) (hmany : S.waits.length ≤ 1000000) :
    Calls Tryd.prog 15 #[.pointer (some ⟨a, 0, none⟩), .agg #[.pointer (some ⟨c, 0, none⟩), .int .i64 f, .int .i64 m], .pointer (some ⟨d, 0, none⟩), .agg #[.int .i64 2, .int .i64 n, .int .i64 k, .int .i64 mm, .slice A q cc]] w (OnePostA B K w a d c S f m) := by
  obtain ⟨F, G, hF, hG, hFG, hFB, hGB, hK, ha, hKa⟩ := h
  have hFa := (hK a hKa).1
  obtain ⟨w1, hw1⟩ : ∃ w1, w1 = (w.alloc (.cells #[.pointer (some ⟨c, 0, none⟩), .int .i64 f, .int .i64 m] 44)).alloc (.cells #[.int .i64 2, .int .i64 n, .int .i64 k, .int .i64 mm, .slice A q cc] 46) := ⟨_, rfl⟩
  have hb1 : Below w.heap.size w w1 := by rw [hw1]; exact (below_alloc _ _).trans ((below_alloc _ _).mono (by rw [nblk_alloc]; omega))
  have hP : Blk w1 w.heap.size 44 [.pointer (some ⟨c, 0, none⟩), .int .i64 f, .int .i64 m] := by rw [hw1]; exact (Blk.new _ _ _).alloc _
  obtain ⟨pd, hpd⟩ : ∃ pd, pd = w.heap.size + 1 := ⟨_, rfl⟩
  have hD : Blk w1 pd 46 [.int .i64 2, .int .i64 n, .int .i64 k, .int .i64 mm, .slice A q cc] := by
    have := Blk.new (w.alloc (.cells #[.pointer (some ⟨c, 0, none⟩), .int .i64 f, .int .i64 m] 44)) 46 [.int .i64 2, .int .i64 n, .int .i64 k, .int .i64 mm, .slice A q cc]
    rw [nblk_alloc, ← hpd] at this
    rw [hw1]; exact this
  obtain ⟨bs, hbs⟩ : ∃ bs, bs = fullOf xs := ⟨_, rfl⟩
  have hbB : Byte128 bs := by rw [hbs]; exact fullOf_byte hxb
  have hx1 := hx.below hb1
  have Hfull := Lib.hid (show Calls Tryd.prog 20 #[.slice A q cc] w1 fun e w' => e = .returned (.agg (u8s bs).toArray) ∧ Below w1.heap.size w1 w' by rw [hbs]; exact full_is w1 A q cc xs hx1 hq)
  have HbB := Lib.hid hbB
  have Hxb := Lib.hid hxb
  have Hw1 := Lib.hid hw1
  have Hpd := Lib.hid hpd
  have Ht := Lib.hid ht
  have hcB := hD.cell (i := 4) rfl
  have hcK := hD.cell (i := 0) rfl
  clear hw1 hbs hbB hpd ht hxb
  go_enter Tryd.func15, Tryd.ntmps15
  go_upto_region 1 with fail
  rw [← Hw1.out, ← Hpd.out]
  go_wp2_with fail
  refine Hfull.out.mono ?_
  rintro e w2 ⟨rfl, hb2⟩
  obtain ⟨w3, hw3, hb3, hR3, hth, hsA, hsL⟩ := arr_new w2 bs HbB.out.1
  have hb13 : Below w.heap.size w w3 := hb1.trans ((hb2.trans (hb3.mono hb2.size)).mono hb1.size)
  have hP3 := (hP.kept (hb2.block _ hP.lt))
  have hD3 := (hD.kept (hb2.block _ hD.lt))
  have hP3 := hP3.kept (hb3.block _ hP3.lt)
  have hD3 := hD3.kept (hb3.block _ hD3.lt)
  obtain ⟨bb, hbb⟩ : ∃ bb, bb = w2.heap.size := ⟨_, rfl⟩
  rw [← hbb] at hR3
  have hbbl : w.heap.size ≤ bb := by rw [hbb]; exact Nat.le_trans hb1.size hb2.size
  obtain ⟨pa, hpa⟩ : ∃ pa, pa = w.heap.size := ⟨_, rfl⟩
  rw [← hpa] at hP3 ⊢
  have hpal : w.heap.size ≤ pa := by rw [hpa]; exact Nat.le_refl _
  have hpdl : w.heap.size ≤ pd := by rw [Hpd.out]; omega
  have hF3 := hF.only (Only.of_below (F := Nothing) hb13) (fun _ _ hk => hk)
  have hG3 := hG.only (Only.of_below (F := Nothing) hb13) (fun _ _ hk => hk)
  have ha3 : PArea w3 a d f m := ha.kept (hb13.block _ ha.lt)
  have hnF : ∀ p, w.heap.size ≤ p → ¬ F p := fun p hp hk => by have := hF.fin hk; omega
  have hnG : ∀ p, w.heap.size ≤ p → ¬ G p := fun p hp hk => by have := hG.fin hk; omega
  have hB3 : B ≤ w3.heap.size := Nat.le_trans hB hb13.size
  have hx3 := hx.below hb13
  have HFT := Lib.hid (show NoTabs F from hTB.mono hFB)
  have HGT := Lib.hid (show NoTabs G from hTB.mono hGB)
  have Ht3 := Lib.hid (show Tabs w3 from Ht.out.below hb13)
  have hb0 : Below B w w3 := hb13.mono hB
  have hk0 : Kept K w w3 := Kept.of_below (fun k hk => (hK k hk).2.2) hb13
  have hK3 : ∀ k, K k → ¬ F k ∧ ¬ G k ∧ k < w3.heap.size := fun k hk => ⟨(hK k hk).1, (hK k hk).2.1, Nat.lt_of_lt_of_le (hK k hk).2.2 hb13.size⟩
  have hAF : ∀ ad, A = some ad → 0 < q → ¬ F ad.block := fun ad e h0 hf => by have := hA ad e h0; have := hFB _ hf; omega
  have hAG : ∀ ad, A = some ad → 0 < q → ¬ G ad.block := fun ad e h0 hf => by have := hA ad e h0; have := hGB _ hf; omega
  have Hw3 := Lib.hid hw3; have Hth := Lib.hid hth; have Hbb := Lib.hid hbb
  have Hpa := Lib.hid hpa
  have hone := one_u8s bs
  have hcK3 := hD3.cell (i := 0) rfl
  clear hw3 hth hbb hpa hb1 hb2 hb3 hP hD hcB hcK hx hx1 Hfull hA hF hG ha
  obtain ⟨r, hr⟩ : ∃ r, r = S.flushOf := ⟨_, rfl⟩
  have Hr := Lib.hid hr
  clear hr
  go_wp2_with (refine wpList_store_mid rfl 52 (.tmp 9) (.tmp 22) rfl w2.heap.size 0 (u8s bs).toArray rfl rfl Hth.out hsA (all_oneCell_toArray (one_u8s _)) ?_; rw [show (u8s bs).toArray.toList = u8s bs from rfl, ← Hw3.out, ← Hbb.out])
  clear Hth Hw3 Hbb hsA
  replace hP3 := hP3.drew
  replace hD3 := hD3.drew
  replace hR3 := hR3.drew
  replace hF3 := hF3.drew
  replace hG3 : RD G w3.drew c S := hG3.only ((Only.refl Nothing w3).drew) (fun _ _ hk => hk)
  replace ha3 : PArea w3.drew a d f m := ha3
  replace hB3 : B ≤ w3.drew.heap.size := hB3
  replace hx3 : Sl w3.drew A q (u8s xs) := hx3
  replace Ht3 := Lib.hid (show Tabs w3.drew from Ht3.out)
  replace hb0 : Below B w w3.drew := hb0.drew
  replace hk0 : Kept K w w3.drew := hk0
  replace hK3 : ∀ k, K k → ¬ F k ∧ ¬ G k ∧ k < w3.drew.heap.size := hK3
  refine wp_region_held_drew (S := fun w0 => w0.cell? ⟨pa, 0, none⟩ = some (.pointer (some ⟨c, 0, none⟩))) (by kernel_rfl) (hP3.cell (i := 0) rfl) (fun hHeld => ?_)
  refine wpAnyH_take (i := 0) (oi := ?oiz14) (v := ?vz14) ?hiz14 ?haz14 ?hbz14 ?hcz14 ?hqz14 ?hyz14 (by assumption) ?restz14
  case hiz14 => (simp only [List.getElem?_toArray, List.getElem?_cons_zero, List.getElem?_cons_succ]; rfl)
  case haz14 => kernel_rfl
  case hbz14 => kernel_rfl
  case hcz14 => kernel_rfl
  case hyz14 => exact Or.inl ⟨by rfl, by (intro w hSw; (try dsimp only at hSw); go_split_ands; go_simp; (try with_reducible rfl))⟩
  case hqz14 => exact fun _ _ _ h => h
  try simp only [Act.put, List.setIfInBounds_toArray, List.set_cons_zero, List.set_cons_succ]
  refine wpAnyH_take (i := 2) (oi := ?oiz15) (v := ?vz15) ?hiz15 ?haz15 ?hbz15 ?hcz15 ?hqz15 ?hyz15 (by assumption) ?restz15
  case hiz15 => (simp only [List.getElem?_toArray, List.getElem?_cons_zero, List.getElem?_cons_succ]; rfl)
  case haz15 => kernel_rfl
  case hbz15 => kernel_rfl
  case hcz15 => kernel_rfl
  case hyz15 => exact Or.inl ⟨by rfl, by (intro w hSw; (try dsimp only at hSw); go_split_ands; go_simp; (try with_reducible rfl))⟩
  case hqz15 => exact fun _ _ _ h => h
  try simp only [Act.put, List.setIfInBounds_toArray, List.set_cons_zero, List.set_cons_succ]
  refine wpAnyH_take (i := 3) (oi := ?oiz16) (v := ?vz16) ?hiz16 ?haz16 ?hbz16 ?hcz16 ?hqz16 ?hyz16 (by assumption) ?restz16
  case hiz16 => (simp only [List.getElem?_toArray, List.getElem?_cons_zero, List.getElem?_cons_succ]; rfl)
  case haz16 => kernel_rfl
  case hbz16 => kernel_rfl
  case hcz16 => kernel_rfl
  case hyz16 => exact Or.inl ⟨by rfl, by (intro w hSw; (try dsimp only at hSw); go_split_ands; go_simp; (try with_reducible rfl))⟩
  case hqz16 => exact fun _ _ _ h => h
  try simp only [Act.put, List.setIfInBounds_toArray, List.set_cons_zero, List.set_cons_succ]
  refine wpAnyH_ready (rs := [1]) (by kernel_rfl) (by simp) ?_
  refine AllReadyH.cons (o := ?oiz17) ?hiz17 (fun K hK => ?stepz17) AllReadyH.nil
  case hiz17 => (simp only [List.getElem?_toArray, List.getElem?_cons_zero, List.getElem?_cons_succ]; rfl)
  go_simp
  refine (parea_flush F w3.drew a d S f m hF3 ha3 hFa hs hm1 r Hr.out).mono ?_
  rintro e w4 ⟨rfl, hF4, hO4⟩
  have hP4 := hO4.blk hP3 (hnF pa hpal)
  have hD4 := hO4.blk hD3 (hnF pd hpdl)
  have hR4 := hO4.blk hR3 (hnF bb hbbl)
  have hG4 := hG3.only hO4 (fun k hg hf => hFG k hf hg)
  refine hK.out _ _ (hP4.cell (i := 0) rfl) (fun hHeld => ?_)
  clear hK K
  try simp only [Act.put, List.setIfInBounds_toArray, List.set_cons_zero, List.set_cons_succ]
  refine wpAnyH_ready (rs := [4]) (by kernel_rfl) (by simp) ?_
  refine AllReadyH.cons (o := ?oiz18) ?hiz18 (fun K hK => ?stepz18) AllReadyH.nil
  case hiz18 => (simp only [List.getElem?_toArray, List.getElem?_cons_zero, List.getElem?_cons_succ]; rfl)
  go_simp
  refine (rflush_any G w4 c S hG4 r Hr.out).mono ?_
  rintro e w5 ⟨rfl, hG5, hO5⟩
  have hP5 := hO5.blk hP4 (hnG pa hpal)
  have hD5 := hO5.blk hD4 (hnG pd hpdl)
  have hR5 := hO5.blk hR4 (hnG bb hbbl)
  refine hK.out _ _ (hP5.cell (i := 0) rfl) (fun hHeld => ?_)
  clear hK K
  try simp only [Act.put, List.setIfInBounds_toArray, List.set_cons_zero, List.set_cons_succ]
  refine wpAnyH_take (i := 5) (oi := ?oiz19) (v := ?vz19) ?hiz19 ?haz19 ?hbz19 ?hcz19 ?hqz19 ?hyz19 (by assumption) ?restz19
  case hiz19 => (simp only [List.getElem?_toArray, List.getElem?_cons_zero, List.getElem?_cons_succ]; rfl)
  case haz19 => kernel_rfl
  case hbz19 => kernel_rfl
  case hcz19 => kernel_rfl
  case hyz19 => exact Or.inl ⟨by rfl, by (intro w hSw; (try dsimp only at hSw); go_split_ands; go_simp; (try with_reducible rfl))⟩
  case hqz19 => exact fun _ _ _ h => h
  try simp only [Act.put, List.setIfInBounds_toArray, List.set_cons_zero, List.set_cons_succ]
  refine wpAnyH_take (i := 6) (oi := ?oiz20) (v := ?vz20) ?hiz20 ?haz20 ?hbz20 ?hcz20 ?hqz20 ?hyz20 (by assumption) ?restz20
  case hiz20 => (simp only [List.getElem?_toArray, List.getElem?_cons_zero, List.getElem?_cons_succ]; rfl)
  case haz20 => kernel_rfl
  case hbz20 => kernel_rfl
  case hcz20 => kernel_rfl
  case hyz20 => exact Or.inl ⟨by rfl, by (intro w hSw; (try dsimp only at hSw); go_split_ands; go_simp; (try with_reducible rfl))⟩
  case hqz20 => exact fun _ _ _ h => h
  try simp only [Act.put, List.setIfInBounds_toArray, List.set_cons_zero, List.set_cons_succ]
  refine wpAnyH_done (by kernel_rfl) ?_ _
  clear hHeld
  try go_wp2_with fail
  try go_ret
  obtain ⟨hboth, hbel, hkp⟩ := bothA_step hF3 hG3 hFG hFB hGB hK3 ha3 hKa hB3 hF4 hO4 hG5 hO5
  exact ⟨rfl, _, hboth, hb0.trans hbel, hk0.trans hkp, by rw [Hr.out]; exact Nat.le_succ_of_le (flushOf_waits S), by rw [Hr.out]; exact flushOf_len S⟩
end Go.Proofs.YtflaikjciachaaaDoor
