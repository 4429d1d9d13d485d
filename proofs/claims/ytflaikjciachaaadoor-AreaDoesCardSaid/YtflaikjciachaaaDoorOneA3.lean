/- One of stage 8: what is read. -/
import Derived.Test.YtflaikjciachaaaDoorBothA
import Derived.Test.YtflaikjciachaaaDoorAwake8
namespace Go.Proofs.YtflaikjciachaaaDoor
set_option maxRecDepth 100000
open Go.RowKit Go.Deep
set_option linter.unusedSimpArgs false
set_option linter.unusedVariables false
attribute [local irreducible] Tryd.zeroCells52

theorem arRead_zero {S : DS} {f m n : Int} (h : (S.arRead f m n).2.1 ≠ 0) : (S.arRead f m n).1 = zeros128 := by
  unfold DS.arRead at h ⊢
  split
  · rfl
  · next h1 =>
    rw [if_neg h1] at h
    unfold DS.readOf at h ⊢
    split
    · rfl
    · next h2 =>
      rw [if_neg h2] at h
      split
      · rfl
      · next h3 => rw [if_neg h3] at h; exact absurd rfl h

set_option maxHeartbeats 6400000 in
theorem oneA_read (B : Nat) (K : Nat → Prop) (w : World) (a d c : Nat) (S : DS) (f m : Int) (h : BothA B K w a d c S f m) (hs : Spot f m) (hm1 : 1 ≤ m) (hB : B ≤ w.heap.size) (ht : Tabs w) (hTB : NoTabs (fun k => B ≤ k)) (n k mm : Int)
    (hn : -9223372036854775808 ≤ n ∧ n ≤ 9223372036854775807) (hk : -9223372036854775808 ≤ k ∧ k ≤ 9223372036854775807) (hmm : -9223372036854775808 ≤ mm ∧ mm ≤ 9223372036854775807)
    (A : Option Addr) (q cc : Nat) (xs : List Int) (hx : Sl w A q (u8s xs)) (hxb : ∀ x ∈ xs, 0 ≤ x ∧ x < 256) (hq : q ≤ 9223372036854775807) (hA : ∀ ad, A = some ad → 0 < q → ad.block < B) (hmany : S.waits.length ≤ 1000000) :
    Calls Tryd.prog 15 #[.pointer (some ⟨a, 0, none⟩), .agg #[.pointer (some ⟨c, 0, none⟩), .int .i64 f, .int .i64 m], .pointer (some ⟨d, 0, none⟩), .agg #[.int .i64 3, .int .i64 n, .int .i64 k, .int .i64 mm, .slice A q cc]] w (OnePostA B K w a d c S f m) := by
  obtain ⟨F, G, hF, hG, hFG, hFB, hGB, hK, ha, hKa⟩ := h
  have hFa := (hK a hKa).1
  obtain ⟨w1, hw1⟩ : ∃ w1, w1 = (w.alloc (.cells #[.pointer (some ⟨c, 0, none⟩), .int .i64 f, .int .i64 m] 44)).alloc (.cells #[.int .i64 3, .int .i64 n, .int .i64 k, .int .i64 mm, .slice A q cc] 46) := ⟨_, rfl⟩
  have hb1 : Below w.heap.size w w1 := by rw [hw1]; exact (below_alloc _ _).trans ((below_alloc _ _).mono (by rw [nblk_alloc]; omega))
  have hP : Blk w1 w.heap.size 44 [.pointer (some ⟨c, 0, none⟩), .int .i64 f, .int .i64 m] := by rw [hw1]; exact (Blk.new _ _ _).alloc _
  obtain ⟨pd, hpd⟩ : ∃ pd, pd = w.heap.size + 1 := ⟨_, rfl⟩
  have hD : Blk w1 pd 46 [.int .i64 3, .int .i64 n, .int .i64 k, .int .i64 mm, .slice A q cc] := by
    have := Blk.new (w.alloc (.cells #[.pointer (some ⟨c, 0, none⟩), .int .i64 f, .int .i64 m] 44)) 46 [.int .i64 3, .int .i64 n, .int .i64 k, .int .i64 mm, .slice A q cc]
    rw [nblk_alloc, ← hpd] at this
    rw [hw1]; exact this
  obtain ⟨bs, hbs⟩ : ∃ bs, bs = fullOf xs := ⟨_, rfl⟩
  have hbB : Byte128 bs := by rw [hbs]; exact fullOf_byte hxb
  have hx1 := hx.below hb1
  have Hfull := Lib.hid (show Calls Tryd.prog 20 #[.slice A q cc] w1 fun e w' => e = .returned (.agg (u8s bs).toArray) ∧ Below w1.heap.size w1 w' by rw [hbs]; exact full_is w1 A q cc xs hx1 hq)
  have HbB := Lib.hid hbB
  have Hxb := Lib.hid hxb
  have Hw1 := Lib.hid hw1
  have Hpd := Lib.hid hpd
  have Ht := Lib.hid ht
  have hcB := hD.cell (i := 4) rfl
  have hcK := hD.cell (i := 0) rfl
  clear hw1 hbs hbB hpd ht hxb
  go_enter Tryd.func15, Tryd.ntmps15
  go_upto_region 1 with fail
  rw [← Hw1.out, ← Hpd.out]
  go_wp2_with fail
  refine Hfull.out.mono ?_
  rintro e w2 ⟨rfl, hb2⟩
  obtain ⟨w3, hw3, hb3, hR3, hth, hsA, hsL⟩ := arr_new w2 bs HbB.out.1
  have hb13 : Below w.heap.size w w3 := hb1.trans ((hb2.trans (hb3.mono hb2.size)).mono hb1.size)
  have hP3 := (hP.kept (hb2.block _ hP.lt))
  have hD3 := (hD.kept (hb2.block _ hD.lt))
  have hP3 := hP3.kept (hb3.block _ hP3.lt)
  have hD3 := hD3.kept (hb3.block _ hD3.lt)
  obtain ⟨bb, hbb⟩ : ∃ bb, bb = w2.heap.size := ⟨_, rfl⟩
  rw [← hbb] at hR3
  have hbbl : w.heap.size ≤ bb := by rw [hbb]; exact Nat.le_trans hb1.size hb2.size
  obtain ⟨pa, hpa⟩ : ∃ pa, pa = w.heap.size := ⟨_, rfl⟩
  rw [← hpa] at hP3 ⊢
  have hpal : w.heap.size ≤ pa := by rw [hpa]; exact Nat.le_refl _
  have hpdl : w.heap.size ≤ pd := by rw [Hpd.out]; omega
  have hF3 := hF.only (Only.of_below (F := Nothing) hb13) (fun _ _ hk => hk)
  have hG3 := hG.only (Only.of_below (F := Nothing) hb13) (fun _ _ hk => hk)
  have ha3 : PArea w3 a d f m := ha.kept (hb13.block _ ha.lt)
  have hnF : ∀ p, w.heap.size ≤ p → ¬ F p := fun p hp hk => by have := hF.fin hk; omega
  have hnG : ∀ p, w.heap.size ≤ p → ¬ G p := fun p hp hk => by have := hG.fin hk; omega
  have hB3 : B ≤ w3.heap.size := Nat.le_trans hB hb13.size
  have hx3 := hx.below hb13
  have HFT := Lib.hid (show NoTabs F from hTB.mono hFB)
  have HGT := Lib.hid (show NoTabs G from hTB.mono hGB)
  have Ht3 := Lib.hid (show Tabs w3 from Ht.out.below hb13)
  have hb0 : Below B w w3 := hb13.mono hB
  have hk0 : Kept K w w3 := Kept.of_below (fun k hk => (hK k hk).2.2) hb13
  have hK3 : ∀ k, K k → ¬ F k ∧ ¬ G k ∧ k < w3.heap.size := fun k hk => ⟨(hK k hk).1, (hK k hk).2.1, Nat.lt_of_lt_of_le (hK k hk).2.2 hb13.size⟩
  have hAF : ∀ ad, A = some ad → 0 < q → ¬ F ad.block := fun ad e h0 hf => by have := hA ad e h0; have := hFB _ hf; omega
  have hAG : ∀ ad, A = some ad → 0 < q → ¬ G ad.block := fun ad e h0 hf => by have := hA ad e h0; have := hGB _ hf; omega
  have Hw3 := Lib.hid hw3; have Hth := Lib.hid hth; have Hbb := Lib.hid hbb
  have Hpa := Lib.hid hpa
  have hone := one_u8s bs
  have hcK3 := hD3.cell (i := 0) rfl
  clear hw3 hth hbb hpa hb1 hb2 hb3 hP hD hcB hcK hx hx1 Hfull hA hF hG ha
  obtain ⟨r, hr⟩ : ∃ r, r = S.arRead f m n := ⟨_, rfl⟩
  have hrb : Byte128 r.1 := by rw [hr]; exact arRead_byte hF3.wf f m n
  have hrz : r.2.1 ≠ 0 → r.1 = zeros128 := by rw [hr]; exact arRead_zero
  have hrS := (show r.2.2.waits = S.waits ∧ r.2.2.kept = S.kept by rw [hr]; exact arRead_same S f m n)
  have Hr := Lib.hid hr; have Hrb := Lib.hid hrb; have Hrz := Lib.hid hrz; have HrS := Lib.hid hrS
  clear hr hrb hrz hrS
  have hcN3 := hD3.cell (i := 1) rfl
  go_wp2_with (refine wpList_store_mid rfl 52 (.tmp 9) (.tmp 22) rfl w2.heap.size 0 (u8s bs).toArray rfl rfl Hth.out hsA (all_oneCell_toArray (one_u8s _)) ?_; rw [show (u8s bs).toArray.toList = u8s bs from rfl, ← Hw3.out, ← Hbb.out])
  clear Hth Hw3 Hbb hsA
  refine (parea_read F w3 a d S f m hF3 ha3 hFa hs hm1 n hn r Hr.out).mono ?_
  rintro e w4 ⟨rfl, hF4, hO4⟩
  obtain ⟨rb, re, rS⟩ := r
  obtain ⟨w5, hw5, hb5, hR5, hth, hsA, hsR⟩ := arr_new w4 rb Hrb.out.1
  have hP5 := (hO4.blk hP3 (hnF pa hpal))
  have hD5 := (hO4.blk hD3 (hnF pd hpdl))
  have hP5 := hP5.kept (hb5.block _ hP5.lt)
  have hD5 := hD5.kept (hb5.block _ hD5.lt)
  have hG5 := (hG3.only hO4 (fun k hg hf => hFG k hf hg)).only (Only.of_below (F := Nothing) hb5) (fun _ _ hk => hk)
  have hF5 : PD (More F w3 w5) w5 d rS := (hF4.only (Only.of_below (F := Nothing) hb5) (fun _ _ hk => hk)).mono' (fun k hk => by rcases hk with hk | hk; exact Or.inl hk; exact Or.inr ⟨hk.1, Nat.lt_of_lt_of_le hk.2 hb5.size⟩) (fun k hk => by rcases hk with hk | hk; exact Nat.lt_of_lt_of_le (hF4.fin (Or.inl hk)) hb5.size; exact hk.2)
  have hO5 : Only F w3 w5 := hO4.trans (Only.of_below (F := F) hb5) (fun _ _ hk => hk)
  have hcN5 := hD5.cell (i := 1) rfl
  have hp0 := hP5.cell (i := 0) rfl
  have hp1 := hP5.cell (i := 1) rfl
  have hp2 := hP5.cell (i := 2) rfl
  obtain ⟨cb, hcb⟩ : ∃ cb, cb = w4.heap.size := ⟨_, rfl⟩
  rw [← hcb] at hR5
  have hcbl : w.heap.size ≤ cb := by rw [hcb]; exact Nat.le_trans hb13.size hO4.size
  have Hw5 := Lib.hid hw5; have Hth := Lib.hid hth; have Hcb := Lib.hid hcb
  clear hw5 hth hcb hF4 hO4 hb5 hcN3 hcK3
  go_wp2_with (refine wpList_store_mid rfl 52 (.tmp 10) (.tmp 53) rfl w4.heap.size 0 (u8s rb).toArray rfl rfl Hth.out hsA (all_oneCell_toArray (one_u8s _)) ?_; rw [show (u8s rb).toArray.toList = u8s rb from rfl, ← Hw5.out, ← Hcb.out])
  refine (rarea_read G w5 c S hG5 f m hs n hn (rb, re, rS) Hr.out).mono ?_
  rintro e w6 ⟨v, rfl, hv, hG6, hO6⟩
  obtain ⟨hboth, hbel, hkp⟩ := bothA_step hF3 hG3 hFG hFB hGB hK3 ha3 hKa hB3 hF5 hO5 hG6 hO6
  have hR6 := hO6.blk hR5 (hnG cb hcbl)
  have Hr6 := Lib.hid hR6.range
  have Hfin := Lib.hid (show BothA B K w6 a d c rS f m ∧ Below B w w6 ∧ Kept K w w6 from ⟨hboth, hb0.trans hbel, hk0.trans hkp⟩)
  clear hG6 hO6 hboth hbel hF5 hO5 hG5 hR5 hcN5 hp0 hp1 hp2
  simp only [] at hv ⊢
  by_cases he : re = 0
  · subst he
    rcases hv with ⟨_, hv⟩ | ⟨hv, _⟩
    · obtain ⟨Av, cv, rfl, hsv, _⟩ := hv.sl
      simp only [Hrb.out.1] at hsv ⊢
      have hsl := hR6.sl8
      rw [Hrb.out.1] at hsl
      go_wp2_with fail
      refine (same_is7 true (some ⟨cb, 0, none⟩) Av 128 128 128 cv rb rb w6 hsl hsv (by omega) (by omega) (by simp)).mono ?_
      rintro e w7 ⟨rfl, hb7⟩
      go_wp2
      go_ret
      exact ⟨rfl, rS, Hfin.out.1.below hb7, Hfin.out.2.1.trans (hb7.mono (Nat.le_trans hB Hfin.out.2.1.size)), Hfin.out.2.2.trans (Kept.of_below (fun k hk => Hfin.out.1.there hk) hb7), by rw [HrS.out.1]; omega, by rw [HrS.out.2]⟩
    · exact absurd rfl hv
  · rcases hv with ⟨hv, _⟩ | ⟨_, rfl⟩
    · exact absurd hv he
    have hz : rb = zeros128 := Hrz.out he
    have heq : (Op.equalIn 10000 52 (.agg (u8s rb).toArray) (.agg Tryd.zeroCells52)).run Tryd.prog w6 = .ok true w6 := by
      have := arr128_eq rb zeros128 Hrb.out.1 zeros_len w6
      rw [decide_eq_true hz] at this
      rw [zero_arr]; exact this
    have hne : (re != 0) = true := by simpa using he
    have hne2 : (re == 0) = false := by simpa using he
    clear he hz
    go_wp2_with (refine wpList_load_want (by rfl) 52 (.tmp 10) rfl cb 0 rfl (u8s rb) _ Hr6.out Tryd.underlying52 rfl hsR ?_)
    go_ret
    exact ⟨rfl, rS, Hfin.out.1, Hfin.out.2.1, Hfin.out.2.2, by rw [HrS.out.1]; omega, by rw [HrS.out.2]⟩
end Go.Proofs.YtflaikjciachaaaDoor
