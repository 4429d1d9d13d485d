/- One of stage 8: what is written. -/
import Derived.Test.YtflaikjciachaaaDoorBothA
import Derived.Test.YtflaikjciachaaaDoorAwake8
namespace Go.Proofs.YtflaikjciachaaaDoor
set_option maxRecDepth 100000
open Go.RowKit Go.Deep
set_option linter.unusedSimpArgs false
set_option linter.unusedVariables false
attribute [local irreducible] Tryd.zeroCells52

set_option maxHeartbeats 6400000 in
theorem oneA_write (B : Nat) (K : Nat → Prop) (w : World) (a d c : Nat) (S : DS) (f m : Int) (h : BothA B K w a d c S f m) (hs : Spot f m) (hm1 : 1 ≤ m) (hB : B ≤ w.heap.size) (ht : Tabs w) (hTB : NoTabs (fun k => B ≤ k)) (n k mm : Int)
    (hn : -9223372036854775808 ≤ n ∧ n ≤ 9223372036854775807) (hk : -9223372036854775808 ≤ k ∧ k ≤ 9223372036854775807) (hmm : -9223372036854775808 ≤ mm ∧ mm ≤ 9223372036854775807)
    (A : Option Addr) (q cc : Nat) (xs : List Int) (hx : Sl w A q (u8s xs)) (hxb : ∀ x ∈ xs, 0 ≤ x ∧ x < 256) (hq : q ≤ 9223372036854775807) (hA : ∀ ad, A = some ad → 0 < q → ad.block < B) (hmany : S.waits.length ≤ 1000000) :
    Calls Tryd.prog 15 #[.pointer (some ⟨a, 0, none⟩), .agg #[.pointer (some ⟨c, 0, none⟩), .int .i64 f, .int .i64 m], .pointer (some ⟨d, 0, none⟩), .agg #[.int .i64 1, .int .i64 n, .int .i64 k, .int .i64 mm, .slice A q cc]] w (OnePostA B K w a d c S f m) := by
  obtain ⟨F, G, hF, hG, hFG, hFB, hGB, hK, ha, hKa⟩ := h
  have hFa := (hK a hKa).1
  obtain ⟨w1, hw1⟩ : ∃ w1, w1 = (w.alloc (.cells #[.pointer (some ⟨c, 0, none⟩), .int .i64 f, .int .i64 m] 44)).alloc (.cells #[.int .i64 1, .int .i64 n, .int .i64 k, .int .i64 mm, .slice A q cc] 46) := ⟨_, rfl⟩
  have hb1 : Below w.heap.size w w1 := by rw [hw1]; exact (below_alloc _ _).trans ((below_alloc _ _).mono (by rw [nblk_alloc]; omega))
  have hP : Blk w1 w.heap.size 44 [.pointer (some ⟨c, 0, none⟩), .int .i64 f, .int .i64 m] := by rw [hw1]; exact (Blk.new _ _ _).alloc _
  obtain ⟨pd, hpd⟩ : ∃ pd, pd = w.heap.size + 1 := ⟨_, rfl⟩
  have hD : Blk w1 pd 46 [.int .i64 1, .int .i64 n, .int .i64 k, .int .i64 mm, .slice A q cc] := by
    have := Blk.new (w.alloc (.cells #[.pointer (some ⟨c, 0, none⟩), .int .i64 f, .int .i64 m] 44)) 46 [.int .i64 1, .int .i64 n, .int .i64 k, .int .i64 mm, .slice A q cc]
    rw [nblk_alloc, ← hpd] at this
    rw [hw1]; exact this
  obtain ⟨bs, hbs⟩ : ∃ bs, bs = fullOf xs := ⟨_, rfl⟩
  have hbB : Byte128 bs := by rw [hbs]; exact fullOf_byte hxb
  have hx1 := hx.below hb1
  have Hfull := Lib.hid (show Calls Tryd.prog 20 #[.slice A q cc] w1 fun e w' => e = .returned (.agg (u8s bs).toArray) ∧ Below w1.heap.size w1 w' by rw [hbs]; exact full_is w1 A q cc xs hx1 hq)
  have HbB := Lib.hid hbB
  have Hxb := Lib.hid hxb
  have Hw1 := Lib.hid hw1
  have Hpd := Lib.hid hpd
  have Ht := Lib.hid ht
  have hcB := hD.cell (i := 4) rfl
  have hcK := hD.cell (i := 0) rfl
  clear hw1 hbs hbB hpd ht hxb
  go_enter Tryd.func15, Tryd.ntmps15
  go_upto_region 1 with fail
  rw [← Hw1.out, ← Hpd.out]
  go_wp2_with fail
  refine Hfull.out.mono ?_
  rintro e w2 ⟨rfl, hb2⟩
  obtain ⟨w3, hw3, hb3, hR3, hth, hsA, hsL⟩ := arr_new w2 bs HbB.out.1
  have hb13 : Below w.heap.size w w3 := hb1.trans ((hb2.trans (hb3.mono hb2.size)).mono hb1.size)
  have hP3 := (hP.kept (hb2.block _ hP.lt))
  have hD3 := (hD.kept (hb2.block _ hD.lt))
  have hP3 := hP3.kept (hb3.block _ hP3.lt)
  have hD3 := hD3.kept (hb3.block _ hD3.lt)
  obtain ⟨bb, hbb⟩ : ∃ bb, bb = w2.heap.size := ⟨_, rfl⟩
  rw [← hbb] at hR3
  have hbbl : w.heap.size ≤ bb := by rw [hbb]; exact Nat.le_trans hb1.size hb2.size
  obtain ⟨pa, hpa⟩ : ∃ pa, pa = w.heap.size := ⟨_, rfl⟩
  rw [← hpa] at hP3 ⊢
  have hpal : w.heap.size ≤ pa := by rw [hpa]; exact Nat.le_refl _
  have hpdl : w.heap.size ≤ pd := by rw [Hpd.out]; omega
  have hF3 := hF.only (Only.of_below (F := Nothing) hb13) (fun _ _ hk => hk)
  have hG3 := hG.only (Only.of_below (F := Nothing) hb13) (fun _ _ hk => hk)
  have ha3 : PArea w3 a d f m := ha.kept (hb13.block _ ha.lt)
  have hnF : ∀ p, w.heap.size ≤ p → ¬ F p := fun p hp hk => by have := hF.fin hk; omega
  have hnG : ∀ p, w.heap.size ≤ p → ¬ G p := fun p hp hk => by have := hG.fin hk; omega
  have hB3 : B ≤ w3.heap.size := Nat.le_trans hB hb13.size
  have hx3 := hx.below hb13
  have HFT := Lib.hid (show NoTabs F from hTB.mono hFB)
  have HGT := Lib.hid (show NoTabs G from hTB.mono hGB)
  have Ht3 := Lib.hid (show Tabs w3 from Ht.out.below hb13)
  have hb0 : Below B w w3 := hb13.mono hB
  have hk0 : Kept K w w3 := Kept.of_below (fun k hk => (hK k hk).2.2) hb13
  have hK3 : ∀ k, K k → ¬ F k ∧ ¬ G k ∧ k < w3.heap.size := fun k hk => ⟨(hK k hk).1, (hK k hk).2.1, Nat.lt_of_lt_of_le (hK k hk).2.2 hb13.size⟩
  have hAF : ∀ ad, A = some ad → 0 < q → ¬ F ad.block := fun ad e h0 hf => by have := hA ad e h0; have := hFB _ hf; omega
  have hAG : ∀ ad, A = some ad → 0 < q → ¬ G ad.block := fun ad e h0 hf => by have := hA ad e h0; have := hGB _ hf; omega
  have Hw3 := Lib.hid hw3; have Hth := Lib.hid hth; have Hbb := Lib.hid hbb
  have Hpa := Lib.hid hpa
  have hone := one_u8s bs
  have hcK3 := hD3.cell (i := 0) rfl
  clear hw3 hth hbb hpa hb1 hb2 hb3 hP hD hcB hcK hx hx1 Hfull hA hF hG ha
  obtain ⟨r, hr⟩ : ∃ r, r = S.arWrite f m n bs := ⟨_, rfl⟩
  have Hr := Lib.hid hr
  clear hr
  go_wp2_with (refine wpList_store_mid rfl 52 (.tmp 9) (.tmp 22) rfl w2.heap.size 0 (u8s bs).toArray rfl rfl Hth.out hsA (all_oneCell_toArray (one_u8s _)) ?_; rw [show (u8s bs).toArray.toList = u8s bs from rfl, ← Hw3.out, ← Hbb.out])
  clear Hth Hw3 Hbb hsA
  replace hP3 := hP3.drew
  replace hD3 := hD3.drew
  replace hR3 := hR3.drew
  replace hF3 := hF3.drew
  replace hG3 : RD G w3.drew c S := hG3.only ((Only.refl Nothing w3).drew) (fun _ _ hk => hk)
  replace ha3 : PArea w3.drew a d f m := ha3
  replace hB3 : B ≤ w3.drew.heap.size := hB3
  replace hx3 : Sl w3.drew A q (u8s xs) := hx3
  replace Ht3 := Lib.hid (show Tabs w3.drew from Ht3.out)
  replace hb0 : Below B w w3.drew := hb0.drew
  replace hk0 : Kept K w w3.drew := hk0
  replace hK3 : ∀ k, K k → ¬ F k ∧ ¬ G k ∧ k < w3.drew.heap.size := hK3
  refine wp_region_held_drew (S := fun w0 => w0.cell? ⟨pd, 1, none⟩ = some (.int .i64 n) ∧ w0.rangeAt bb 0 (u8s bs) ∧ w0.cell? ⟨pa, 0, none⟩ = some (.pointer (some ⟨c, 0, none⟩)) ∧ w0.cell? ⟨pa, 1, none⟩ = some (.int .i64 f) ∧ w0.cell? ⟨pa, 2, none⟩ = some (.int .i64 m)) (by kernel_rfl) (⟨hD3.cell (i := 1) rfl, hR3.range, hP3.cell (i := 0) rfl, hP3.cell (i := 1) rfl, hP3.cell (i := 2) rfl⟩ : _ ∧ _ ∧ _ ∧ _ ∧ _) (fun hHeld => ?_)
  refine wpAnyH_take (i := 0) (oi := ?oiz1) (v := ?vz1) ?hiz1 ?haz1 ?hbz1 ?hcz1 ?hqz1 ?hyz1 (by assumption) ?restz1
  case hiz1 => (simp only [List.getElem?_toArray, List.getElem?_cons_zero, List.getElem?_cons_succ]; rfl)
  case haz1 => kernel_rfl
  case hbz1 => kernel_rfl
  case hcz1 => kernel_rfl
  case hyz1 => exact Or.inl ⟨by rfl, by (intro w hSw; (try dsimp only at hSw); go_split_ands; go_simp; (try with_reducible rfl))⟩
  case hqz1 => exact fun _ _ _ h => h
  try simp only [Act.put, List.setIfInBounds_toArray, List.set_cons_zero, List.set_cons_succ]
  refine wpAnyH_take (i := 1) (oi := ?oiz2) (v := ?vz2) ?hiz2 ?haz2 ?hbz2 ?hcz2 ?hqz2 ?hyz2 (by assumption) ?restz2
  case hiz2 => (simp only [List.getElem?_toArray, List.getElem?_cons_zero, List.getElem?_cons_succ]; rfl)
  case haz2 => kernel_rfl
  case hbz2 => kernel_rfl
  case hcz2 => kernel_rfl
  case hyz2 => exact Or.inl ⟨by rfl, by (intro w hSw; (try dsimp only at hSw); go_split_ands; go_simp; (try with_reducible rfl))⟩
  case hqz2 => exact fun _ _ _ h => h
  try simp only [Act.put, List.setIfInBounds_toArray, List.set_cons_zero, List.set_cons_succ]
  refine wpAnyH_take (i := 2) (oi := ?oiz3) (v := ?vz3) ?hiz3 ?haz3 ?hbz3 ?hcz3 ?hqz3 ?hyz3 (by assumption) ?restz3
  case hiz3 => (simp only [List.getElem?_toArray, List.getElem?_cons_zero, List.getElem?_cons_succ]; rfl)
  case haz3 => kernel_rfl
  case hbz3 => kernel_rfl
  case hcz3 => kernel_rfl
  case hyz3 => exact Or.inl ⟨by rfl, by (intro w hSw; (try dsimp only at hSw); go_split_ands; go_simp; (try with_reducible rfl))⟩
  case hqz3 => exact fun _ _ _ h => h
  try simp only [Act.put, List.setIfInBounds_toArray, List.set_cons_zero, List.set_cons_succ]
  refine wpAnyH_take (i := 3) (oi := ?oiz4) (v := .agg (u8s bs).toArray) ?hiz4 ?haz4 ?hbz4 ?hcz4 ?hqz4 ?hyz4 (by assumption) ?restz4
  case hiz4 => (simp only [List.getElem?_toArray, List.getElem?_cons_zero, List.getElem?_cons_succ]; rfl)
  case haz4 => kernel_rfl
  case hbz4 => kernel_rfl
  case hcz4 => kernel_rfl
  case hyz4 => exact Or.inl ⟨by rfl, fun w' hSw => run_load_op 52 (.tmp 9) rfl bb 0 rfl (u8s bs) _ hSw.2.1 Tryd.underlying52 rfl hsL⟩
  case hqz4 => exact fun _ _ _ h => h
  try simp only [Act.put, List.setIfInBounds_toArray, List.set_cons_zero, List.set_cons_succ]
  refine wpAnyH_take (i := 5) (oi := ?oiz5) (v := ?vz5) ?hiz5 ?haz5 ?hbz5 ?hcz5 ?hqz5 ?hyz5 (by assumption) ?restz5
  case hiz5 => (simp only [List.getElem?_toArray, List.getElem?_cons_zero, List.getElem?_cons_succ]; rfl)
  case haz5 => kernel_rfl
  case hbz5 => kernel_rfl
  case hcz5 => kernel_rfl
  case hyz5 => exact Or.inl ⟨by rfl, by (intro w hSw; (try dsimp only at hSw); go_split_ands; go_simp; (try with_reducible rfl))⟩
  case hqz5 => exact fun _ _ _ h => h
  try simp only [Act.put, List.setIfInBounds_toArray, List.set_cons_zero, List.set_cons_succ]
  refine wpAnyH_take (i := 6) (oi := ?oiz6) (v := ?vz6) ?hiz6 ?haz6 ?hbz6 ?hcz6 ?hqz6 ?hyz6 (by assumption) ?restz6
  case hiz6 => (simp only [List.getElem?_toArray, List.getElem?_cons_zero, List.getElem?_cons_succ]; rfl)
  case haz6 => kernel_rfl
  case hbz6 => kernel_rfl
  case hcz6 => kernel_rfl
  case hyz6 => exact Or.inl ⟨by rfl, by (intro w hSw; (try dsimp only at hSw); go_split_ands; go_simp; (try with_reducible rfl))⟩
  case hqz6 => exact fun _ _ _ h => h
  try simp only [Act.put, List.setIfInBounds_toArray, List.set_cons_zero, List.set_cons_succ]
  refine wpAnyH_take (i := 7) (oi := ?oiz7) (v := ?vz7) ?hiz7 ?haz7 ?hbz7 ?hcz7 ?hqz7 ?hyz7 (by assumption) ?restz7
  case hiz7 => (simp only [List.getElem?_toArray, List.getElem?_cons_zero, List.getElem?_cons_succ]; rfl)
  case haz7 => kernel_rfl
  case hbz7 => kernel_rfl
  case hcz7 => kernel_rfl
  case hyz7 => exact Or.inl ⟨by rfl, by (intro w hSw; (try dsimp only at hSw); go_split_ands; go_simp; (try with_reducible rfl))⟩
  case hqz7 => exact fun _ _ _ h => h
  try simp only [Act.put, List.setIfInBounds_toArray, List.set_cons_zero, List.set_cons_succ]
  refine wpAnyH_take (i := 8) (oi := ?oiz8) (v := ?vz8) ?hiz8 ?haz8 ?hbz8 ?hcz8 ?hqz8 ?hyz8 (by assumption) ?restz8
  case hiz8 => (simp only [List.getElem?_toArray, List.getElem?_cons_zero, List.getElem?_cons_succ]; rfl)
  case haz8 => kernel_rfl
  case hbz8 => kernel_rfl
  case hcz8 => kernel_rfl
  case hyz8 => exact Or.inl ⟨by rfl, by (intro w hSw; (try dsimp only at hSw); go_split_ands; go_simp; (try with_reducible rfl))⟩
  case hqz8 => exact fun _ _ _ h => h
  try simp only [Act.put, List.setIfInBounds_toArray, List.set_cons_zero, List.set_cons_succ]
  refine wpAnyH_ready (rs := [4]) (by kernel_rfl) (by simp) ?_
  refine AllReadyH.cons (o := ?oiz9) ?hiz9 (fun K hK => ?stepz9) AllReadyH.nil
  case hiz9 => (simp only [List.getElem?_toArray, List.getElem?_cons_zero, List.getElem?_cons_succ]; rfl)
  go_simp
  refine (parea_write F w3.drew a d S f m hF3 ha3 hFa hs hm1 n hn bs HbB.out hmany r Hr.out).mono ?_
  rintro e w4 ⟨rfl, hF4, hO4⟩
  have hP4 := hO4.blk hP3 (hnF pa hpal)
  have hD4 := hO4.blk hD3 (hnF pd hpdl)
  have hR4 := hO4.blk hR3 (hnF bb hbbl)
  have hG4 := hG3.only hO4 (fun k hg hf => hFG k hf hg)
  have hsl4 := hR4.sl8
  rw [HbB.out.1] at hsl4
  refine hK.out _ _ (⟨hD4.cell (i := 1) rfl, hR4.range, hP4.cell (i := 0) rfl, hP4.cell (i := 1) rfl, hP4.cell (i := 2) rfl⟩ : _ ∧ _ ∧ _ ∧ _ ∧ _) (fun hHeld => ?_)
  clear hK K
  try simp only [Act.put, List.setIfInBounds_toArray, List.set_cons_zero, List.set_cons_succ]
  refine wpAnyH_ready (rs := [9]) (by kernel_rfl) (by simp) ?_
  refine AllReadyH.cons (o := ?oiz10) ?hiz10 (fun K hK => ?stepz10) AllReadyH.nil
  case hiz10 => (simp only [List.getElem?_toArray, List.getElem?_cons_zero, List.getElem?_cons_succ]; rfl)
  go_simp
  refine (rarea_write G w4 c S hG4 f m hs n hn _ 128 bs hsl4 HbB.out hmany r Hr.out).mono ?_
  rintro e w5 ⟨rfl, hG5, hO5⟩
  have hP5 := hO5.blk hP4 (hnG pa hpal)
  have hD5 := hO5.blk hD4 (hnG pd hpdl)
  have hR5 := hO5.blk hR4 (hnG bb hbbl)
  refine hK.out _ _ (⟨hD5.cell (i := 1) rfl, hR5.range, hP5.cell (i := 0) rfl, hP5.cell (i := 1) rfl, hP5.cell (i := 2) rfl⟩ : _ ∧ _ ∧ _ ∧ _ ∧ _) (fun hHeld => ?_)
  clear hK K
  try simp only [Act.put, List.setIfInBounds_toArray, List.set_cons_zero, List.set_cons_succ]
  refine wpAnyH_take (i := 10) (oi := ?oiz11) (v := ?vz11) ?hiz11 ?haz11 ?hbz11 ?hcz11 ?hqz11 ?hyz11 (by assumption) ?restz11
  case hiz11 => (simp only [List.getElem?_toArray, List.getElem?_cons_zero, List.getElem?_cons_succ]; rfl)
  case haz11 => kernel_rfl
  case hbz11 => kernel_rfl
  case hcz11 => kernel_rfl
  case hyz11 => exact Or.inl ⟨by rfl, by (intro w hSw; (try dsimp only at hSw); go_split_ands; go_simp; (try with_reducible rfl))⟩
  case hqz11 => exact fun _ _ _ h => h
  try simp only [Act.put, List.setIfInBounds_toArray, List.set_cons_zero, List.set_cons_succ]
  refine wpAnyH_take (i := 11) (oi := ?oiz12) (v := ?vz12) ?hiz12 ?haz12 ?hbz12 ?hcz12 ?hqz12 ?hyz12 (by assumption) ?restz12
  case hiz12 => (simp only [List.getElem?_toArray, List.getElem?_cons_zero, List.getElem?_cons_succ]; rfl)
  case haz12 => kernel_rfl
  case hbz12 => kernel_rfl
  case hcz12 => kernel_rfl
  case hyz12 => exact Or.inl ⟨by rfl, by (intro w hSw; (try dsimp only at hSw); go_split_ands; go_simp; (try with_reducible rfl))⟩
  case hqz12 => exact fun _ _ _ h => h
  try simp only [Act.put, List.setIfInBounds_toArray, List.set_cons_zero, List.set_cons_succ]
  refine wpAnyH_done (by kernel_rfl) ?_ _
  clear hHeld
  try go_wp2_with fail
  try go_ret
  obtain ⟨hboth, hbel, hkp⟩ := bothA_step hF3 hG3 hFG hFB hGB hK3 ha3 hKa hB3 hF4 hO4 hG5 hO5
  exact ⟨rfl, _, hboth, hb0.trans hbel, hk0.trans hkp, by rw [Hr.out]; exact (arWrite_same S f m n bs).1, by rw [Hr.out, (arWrite_same S f m n bs).2]⟩
end Go.Proofs.YtflaikjciachaaaDoor
