/- The law AreaDoes, walked. -/
import Derived.Test.YtflaikjciachaaaDoorOneA0
import Derived.Test.YtflaikjciachaaaDoorOneA1
import Derived.Test.YtflaikjciachaaaDoorOneA2
import Derived.Test.YtflaikjciachaaaDoorOneA3
import Derived.Test.YtflaikjciachaaaDoorOneA4
import Derived.Test.YtflaikjciachaaaDoorOneA5
import Derived.Test.YtflaikjciachaaaDoorOneA6
import Derived.Test.YtflaikjciachaaaDoorOneA7
namespace Go.Proofs.YtflaikjciachaaaDoor
set_option maxRecDepth 100000
open Go.RowKit Go.Deep
set_option linter.unusedSimpArgs false
set_option linter.unusedVariables false

theorem oneA_is (B : Nat) (K : Nat → Prop) (w : World) (a d c : Nat) (S : DS) (f m : Int) (h : BothA B K w a d c S f m) (hs : Spot f m) (hm1 : 1 ≤ m) (hB : B ≤ w.heap.size) (ht : Tabs w) (hTB : NoTabs (fun k => B ≤ k)) (kind n k mm : Int)
    (hn : -9223372036854775808 ≤ n ∧ n ≤ 9223372036854775807) (hk : -9223372036854775808 ≤ k ∧ k ≤ 9223372036854775807) (hmm : -9223372036854775808 ≤ mm ∧ mm ≤ 9223372036854775807)
    (A : Option Addr) (q cc : Nat) (xs : List Int) (hx : Sl w A q (u8s xs)) (hxb : ∀ x ∈ xs, 0 ≤ x ∧ x < 256) (hq : q ≤ 9223372036854775807) (hA : ∀ ad, A = some ad → 0 < q → ad.block < B) (hmany : S.waits.length ≤ 1000000) :
    Calls Tryd.prog 15 #[.pointer (some ⟨a, 0, none⟩), .agg #[.pointer (some ⟨c, 0, none⟩), .int .i64 f, .int .i64 m], .pointer (some ⟨d, 0, none⟩), .agg #[.int .i64 kind, .int .i64 n, .int .i64 k, .int .i64 mm, .slice A q cc]] w (OnePostA B K w a d c S f m) := by
  by_cases k1 : kind = 1
  · subst k1; exact oneA_write B K w a d c S f m h hs hm1 hB ht hTB n k mm hn hk hmm A q cc xs hx hxb hq hA hmany
  by_cases k2 : kind = 2
  · subst k2; exact oneA_flush B K w a d c S f m h hs hm1 hB ht hTB n k mm hn hk hmm A q cc xs hx hxb hq hA hmany
  by_cases k3 : kind = 3
  · subst k3; exact oneA_read B K w a d c S f m h hs hm1 hB ht hTB n k mm hn hk hmm A q cc xs hx hxb hq hA hmany
  by_cases k4 : kind = 4
  · subst k4; exact oneA_wipe B K w a d c S f m h hs hm1 hB ht hTB n k mm hn hk hmm A q cc xs hx hxb hq hA hmany
  by_cases k5 : kind = 5
  · subst k5; exact oneA_put B K w a d c S f m h hs hm1 hB ht hTB n k mm hn hk hmm A q cc xs hx hxb hq hA hmany
  by_cases k6 : kind = 6
  · subst k6; exact oneA_take B K w a d c S f m h hs hm1 hB ht hTB n k mm hn hk hmm A q cc xs hx hxb hq hA hmany
  by_cases k7 : kind = 7
  · subst k7; exact oneA_crash B K w a d c S f m h hs hm1 hB ht hTB n k mm hn hk hmm A q cc xs hx hxb hq hA hmany
  exact oneA_other B K w a d c S f m h hs hm1 hB ht hTB kind ⟨k1, k2, k3, k4, k5, k6, k7⟩ n k mm hn hk hmm A q cc xs hx hxb hq hA hmany

/-- The document's area, laid into a block of its own. -/
theorem box_both {w w0 w1 : World} {a d c p : Nat} {S : DS} {f m : Int} {F G : Nat → Prop} {t : TypeId} {v0 v1 v2 : Value} (hbt : Below w.heap.size w w0) (hb : Below w0.heap.size w0 w1) (hF : PD F w0 d S) (hFB : ∀ k, F k → w.heap.size ≤ k) (ha : PArea w0 a d f m) (hFa : ¬ F a) (hG : RD G w1 c S) (hGlo : ∀ k, G k → w0.heap.size ≤ k ∧ k ≠ p) (hp : w0.heap.size ≤ p) (hW : Blk w1 p t [v0, v1, v2]) (u0 u1 u2 : Value) :
    BothA w.heap.size (fun k => k = a ∨ k = p) (((w1.setCell ⟨p, 0, none⟩ u0).setCell ⟨p, 1, none⟩ u1).setCell ⟨p, 2, none⟩ u2) a d c S f m ∧ Below w.heap.size w (((w1.setCell ⟨p, 0, none⟩ u0).setCell ⟨p, 1, none⟩ u1).setCell ⟨p, 2, none⟩ u2) ∧ Blk (((w1.setCell ⟨p, 0, none⟩ u0).setCell ⟨p, 1, none⟩ u1).setCell ⟨p, 2, none⟩ u2) p t [u0, u1, u2] := by
  have hlw := hW.lt
  have hW2 : Blk (((w1.setCell ⟨p, 0, none⟩ u0).setCell ⟨p, 1, none⟩ u1).setCell ⟨p, 2, none⟩ u2) p t [u0, u1, u2] := ((hW.set 0 u0).set 1 u1).set 2 u2
  have hO : Only (fun k => k = p) w1 (((w1.setCell ⟨p, 0, none⟩ u0).setCell ⟨p, 1, none⟩ u1).setCell ⟨p, 2, none⟩ u2) :=
    (((Only.refl (fun k => k = p) w1).set (a := ⟨p, 0, none⟩) (Or.inr rfl) u0).set (a := ⟨p, 1, none⟩) (Or.inr rfl) u1).set (a := ⟨p, 2, none⟩) (Or.inr rfl) u2
  obtain ⟨w2, hw2⟩ : ∃ x, x = (((w1.setCell ⟨p, 0, none⟩ u0).setCell ⟨p, 1, none⟩ u1).setCell ⟨p, 2, none⟩ u2) := ⟨_, rfl⟩
  rw [← hw2] at hW2 hO ⊢
  clear hw2
  have hF1 := hF.only (Only.of_below (F := Nothing) hb) (fun _ _ hk => hk)
  have ha1 := ha.kept (hb.block _ ha.lt)
  have hal := ha.lt
  have hs1 := hb.size
  have hs2 := hO.size
  have hbw := hbt.size
  refine ⟨⟨F, G, hF1.only hO (fun k hk e => ?_), hG.only hO (fun k hk e => (hGlo k hk).2 e), ?_, hFB, ?_, ?_, ha1.kept (hO.block _ ha1.lt (fun e => ?_)), Or.inl rfl⟩, (hbt.trans (hb.mono hbt.size)).trans (hO.below (Nat.le_trans hbw hs1) (fun k hk => by rw [hk]; exact Nat.le_trans hbw hp)), hW2⟩
  · have h1 := hF.fin hk; omega
  · intro k hk hg
    have h1 := hF.fin hk; have h2 := (hGlo k hg).1; omega
  · intro k hg
    have h2 := (hGlo k hg).1; omega
  · intro k hk
    rcases hk with rfl | rfl
    · exact ⟨hFa, fun hg => by have h2 := (hGlo _ hg).1; omega, by omega⟩
    · exact ⟨fun hk => by have h1 := hF.fin hk; omega, fun hg => (hGlo _ hg).2 rfl, by omega⟩
  · omega

set_option maxHeartbeats 12800000 in
theorem areaDoes_walk (w : World) (ht : Tabs w) (f m : Int) (hf : -9223372036854775808 ≤ f ∧ f ≤ 9223372036854775807) (hm : -9223372036854775808 ≤ m ∧ m ≤ 9223372036854775807) (room : Int) (hroom : 0 ≤ room ∧ room ≤ 255)
    (A : Option Addr) (n c0 : Nat) (V : Nat → Nat → Int) (Bv : Nat → Value) (Z : Nat → List Int) (hx : Dos w A n 4 V Bv Z) (hok : DosOk n 4 V Z) (hn : n ≤ 9223372036854775807) :
    Calls Tryd.prog 3 #[.agg #[.int .i64 f, .int .i64 m], .int .u8 room, .slice A n c0] w fun e w' => e = .returned (.bool true) ∧ Below w.heap.size w w' := by
  obtain ⟨room, rfl⟩ := Int.eq_ofNat_of_zero_le hroom.1
  obtain ⟨rr, hrr, hr2⟩ : ∃ rr, rr = room % 13 ∧ rr ≤ 12 := ⟨_, rfl, by omega⟩
  have hkm : Int.tmod (room : Int) 13 = (rr : Int) := by rw [Int.tmod_eq_emod_of_nonneg (by omega), hrr]; rfl
  have hkm2 : (room : Int) % 13 = (rr : Int) := by omega
  have hkw : IntKind.i64.wrap (rr : Int) = (rr : Int) := by rw [IntKind.wrap_i64]; omega
  have hk8 : (rr : Int) % 256 = (rr : Int) := by omega
  have Ht := Lib.hid ht
  have HTB := Lib.hid (NoTabs.of_tabs ht (fun k h => h))
  clear hrr hroom ht
  obtain ⟨w1, hw1⟩ : ∃ w1, w1 = w.alloc (.cells #[.int .i64 f, .int .i64 m] 23) := ⟨_, rfl⟩
  have hb1 : Below w.heap.size w w1 := by rw [hw1]; exact below_alloc _ _
  have hP : Blk w1 w.heap.size 23 [.int .i64 f, .int .i64 m] := by rw [hw1]; exact Blk.new _ _ _
  have Hw1 := Lib.hid hw1
  clear hw1
  go_enter Tryd.func3, Tryd.ntmps3
  go_upto_region 1 with fail
  rw [← Hw1.out]
  go_wp2_with fail
  refine (awake8_any w1).mono ?_
  rintro e w2 ⟨rfl, hb2⟩
  have hbt2 : Below w.heap.size w w2 := hb1.trans (hb2.mono hb1.size)
  have hP2 := hP.kept (hb2.block _ hP.lt)
  have hc0 := hP2.cell (i := 0) rfl
  have hc1 := hP2.cell (i := 1) rfl
  clear hb1 hb2 hP Hw1
  go_wp2_with fail
  refine (parea_new_nil w2 f m).mono ?_
  rintro e w3 ⟨rfl, hb3⟩
  have hbt3 := hbt2.trans (hb3.mono hbt2.size)
  have hP3 := hP2.kept (hb3.block _ hP2.lt)
  clear hb3 hbt2 hP2 hc0 hc1
  go_wp2_with fail
  refine (narea_take w3 0 1).mono ?_
  rintro e w4 ⟨rfl, hb4⟩
  have hbt4 := hbt3.trans (hb4.mono hbt3.size)
  have hP4 := hP3.kept (hb4.block _ hP3.lt)
  clear hb4 hbt3 hP3
  go_wp2_with fail
  refine (narea_many w4).mono ?_
  rintro e w5 ⟨rfl, hb5⟩
  have hbt5 := hbt4.trans (hb5.mono hbt4.size)
  have hP5 := hP4.kept (hb5.block _ hP4.lt)
  clear hb5 hbt4 hP4
  go_wp2_with fail
  refine (narea_put w5 (Ht.out.below hbt5)).mono ?_
  rintro e w6 ⟨rfl, hb6⟩
  have hbt6 := hbt5.trans (hb6.mono hbt5.size)
  have hP6 := hP5.kept (hb6.block _ hP5.lt)
  clear hb6 hbt5 hP5
  go_wp2_with fail
  refine (narea_wipe w6 0).mono ?_
  rintro e w7 ⟨rfl, hb7⟩
  have hbt7 := hbt6.trans (hb7.mono hbt6.size)
  have hP7 := hP6.kept (hb7.block _ hP6.lt)
  clear hb7 hbt6 hP6
  go_wp2_with fail
  refine (narea_flush w7).mono ?_
  rintro e w8 ⟨rfl, hb8⟩
  have hbt8 := hbt7.trans (hb8.mono hbt7.size)
  have hP8 := hP7.kept (hb8.block _ hP7.lt)
  clear hb8 hbt7 hP7
  go_wp2_with fail
  refine (few8_is w8 A n c0 V Bv Z (hx.below hbt8) hok hn).mono ?_
  rintro e w9 ⟨q, rfl, hq, hb9⟩
  have hbt9 := hbt8.trans (hb9.mono hbt8.size)
  have hP9 := hP8.kept (hb9.block _ hP8.lt)
  clear hb9 hbt8 hP8
  cases q
  · go_wp2
    go_ret
    exact ⟨rfl, hbt9⟩
  have hn40 : n ≤ 40 := hq rfl
  clear hq
  go_wp2_with fail
  refine (dnew_is w9 12 rr (by omega) (by omega) (by omega)).mono ?_
  rintro e w10 ⟨d, rfl, hF, hb10⟩
  have hbt10 := hbt9.trans (hb10.mono hbt9.size)
  have hP10 := hP9.kept (hb10.block _ hP9.lt)
  have hc0 := hP10.cell (i := 0) rfl
  have hc1 := hP10.cell (i := 1) rfl
  have hlen : (DS.new 12 (rr : Int)).kept.length = 12 := by simp [DS.new]
  have hwait : (DS.new 12 (rr : Int)).waits.length = 0 := rfl
  obtain ⟨S0, hS0⟩ : ∃ S, S = DS.new 12 (rr : Int) := ⟨_, rfl⟩
  rw [← hS0] at hF hlen hwait
  have HS0 := Lib.hid hS0
  clear hb10 hS0
  by_cases hbad : f < 0 ∨ 12 ≤ f ∨ m < 1 ∨ 12 - f < m
  · have Hbad := Lib.hid hbad
    clear hbad
    go_wp2_with fail
    refine (parea_new_bad _ w10 d S0 hF f m hf hm (by rw [hlen]; exact Hbad.out)).mono ?_
    rintro e w11 ⟨rfl, hb11⟩
    have hbt11 := hbt10.trans (hb11.mono hbt10.size)
    have hP11 := hP10.kept (hb11.block _ hP10.lt)
    have hc0 := hP11.cell (i := 0) rfl
    have hc1 := hP11.cell (i := 1) rfl
    clear hF
    by_cases g1 : f < 0
    · have d1 : decide (f < 0) = true := decide_eq_true g1
      go_wp2
      go_ret
      exact ⟨rfl, hbt11⟩
    have d1 : decide (f < 0) = false := decide_eq_false g1
    by_cases g2 : 11 < f
    · have d2 : decide (11 < f) = true := decide_eq_true g2
      go_wp2
      go_ret
      exact ⟨rfl, hbt11⟩
    have d2 : decide (11 < f) = false := decide_eq_false g2
    by_cases g3 : m < 1
    · have d3 : decide (m < 1) = true := decide_eq_true g3
      go_wp2
      go_ret
      exact ⟨rfl, hbt11⟩
    have d3 : decide (m < 1) = false := decide_eq_false g3
    have g4 : 12 - f < m := by have := Hbad.out; omega
    have d4 : decide (12 - f < m) = true := decide_eq_true g4
    have hw4 : IntKind.i64.wrap (12 - f) = 12 - f := by rw [IntKind.wrap_i64]; omega
    go_wp2
    go_ret
    exact ⟨rfl, hbt11⟩
  go_wp2_with fail
  refine (parea_new_is _ w10 d S0 hF f m (by rw [hlen]; omega)).mono ?_
  rintro e w11 ⟨a, rfl, ha, hal, hb11⟩
  have hbt11 := hbt10.trans (hb11.mono hbt10.size)
  have hP11 := hP10.kept (hb11.block _ hP10.lt)
  have hc0 := hP11.cell (i := 0) rfl
  have hc1 := hP11.cell (i := 1) rfl
  have hF11 := hF.only (Only.of_below (F := Nothing) hb11) (fun _ _ hk => hk)
  have d1 : decide (f < 0) = false := decide_eq_false (by omega)
  have d2 : decide (11 < f) = false := decide_eq_false (by omega)
  have d3 : decide (m < 1) = false := decide_eq_false (by omega)
  have d4 : decide (12 - f < m) = false := decide_eq_false (by omega)
  have hw4 : IntKind.i64.wrap (12 - f) = 12 - f := by rw [IntKind.wrap_i64]; omega
  have hspot : Spot f m := ⟨by omega, by omega, by omega, by omega⟩
  have hm1 : 1 ≤ m := by omega
  have hFa : ¬ (fun k => w9.heap.size ≤ k ∧ k < w10.heap.size) a := fun hk => by have := hk.2; omega
  have Hb := Lib.hid hbad
  clear hbad hF hP10 hbt10
  go_upto_region 16 with fail
  refine wp_region_held_drew (S := fun w0 => w0.cell? ⟨w.heap.size, 1, none⟩ = some (.int .i64 m)) (by kernel_rfl) hc1 (fun hHeld => ?_)
  refine wpAnyH_take (i := 0) (oi := ?oiz25) (v := ?vz25) ?hiz25 ?haz25 ?hbz25 ?hcz25 ?hqz25 ?hyz25 (by assumption) ?restz25
  case hiz25 => (simp only [List.getElem?_toArray, List.getElem?_cons_zero, List.getElem?_cons_succ]; rfl)
  case haz25 => kernel_rfl
  case hbz25 => kernel_rfl
  case hcz25 => kernel_rfl
  case hyz25 => exact Or.inl ⟨by rfl, by (intro w hSw; (try dsimp only at hSw); go_split_ands; go_simp; (try with_reducible rfl))⟩
  case hqz25 => exact fun _ _ _ h => h
  try simp only [Act.put, List.setIfInBounds_toArray, List.set_cons_zero, List.set_cons_succ]
  refine wpAnyH_take (i := 1) (oi := ?oiz26) (v := ?vz26) ?hiz26 ?haz26 ?hbz26 ?hcz26 ?hqz26 ?hyz26 (by assumption) ?restz26
  case hiz26 => (simp only [List.getElem?_toArray, List.getElem?_cons_zero, List.getElem?_cons_succ]; rfl)
  case haz26 => kernel_rfl
  case hbz26 => kernel_rfl
  case hcz26 => kernel_rfl
  case hyz26 => exact Or.inl ⟨by rfl, by (intro w hSw; (try dsimp only at hSw); go_split_ands; go_simp; (try with_reducible rfl))⟩
  case hqz26 => exact fun _ _ _ h => h
  try simp only [Act.put, List.setIfInBounds_toArray, List.set_cons_zero, List.set_cons_succ]
  refine wpAnyH_take (i := 2) (oi := ?oiz27) (v := ?vz27) ?hiz27 ?haz27 ?hbz27 ?hcz27 ?hqz27 ?hyz27 (by assumption) ?restz27
  case hiz27 => (simp only [List.getElem?_toArray, List.getElem?_cons_zero, List.getElem?_cons_succ]; rfl)
  case haz27 => kernel_rfl
  case hbz27 => kernel_rfl
  case hcz27 => kernel_rfl
  case hyz27 => exact Or.inl ⟨by rfl, by (intro w hSw; (try dsimp only at hSw); go_split_ands; go_simp; (try with_reducible rfl))⟩
  case hqz27 => exact fun _ _ _ h => h
  try simp only [Act.put, List.setIfInBounds_toArray, List.set_cons_zero, List.set_cons_succ]
  refine wpAnyH_take (i := 3) (oi := ?oiz28) (v := ?vz28) ?hiz28 ?haz28 ?hbz28 ?hcz28 ?hqz28 ?hyz28 (by assumption) ?restz28
  case hiz28 => (simp only [List.getElem?_toArray, List.getElem?_cons_zero, List.getElem?_cons_succ]; rfl)
  case haz28 => kernel_rfl
  case hbz28 => kernel_rfl
  case hcz28 => kernel_rfl
  case hyz28 => exact Or.inl ⟨by rfl, by (intro w hSw; (try dsimp only at hSw); go_split_ands; go_simp; (try with_reducible rfl))⟩
  case hqz28 => exact fun _ _ _ h => h
  try simp only [Act.put, List.setIfInBounds_toArray, List.set_cons_zero, List.set_cons_succ]
  refine wpAnyH_take (i := 4) (oi := ?oiz29) (v := ?vz29) ?hiz29 ?haz29 ?hbz29 ?hcz29 ?hqz29 ?hyz29 (by assumption) ?restz29
  case hiz29 => (simp only [List.getElem?_toArray, List.getElem?_cons_zero, List.getElem?_cons_succ]; rfl)
  case haz29 => kernel_rfl
  case hbz29 => kernel_rfl
  case hcz29 => kernel_rfl
  case hyz29 => exact Or.inl ⟨by rfl, by (intro w hSw; (try dsimp only at hSw); go_split_ands; go_simp; (try with_reducible rfl))⟩
  case hqz29 => exact fun _ _ _ h => h
  try simp only [Act.put, List.setIfInBounds_toArray, List.set_cons_zero, List.set_cons_succ]
  refine wpAnyH_take (i := 5) (oi := ?oiz30) (v := ?vz30) ?hiz30 ?haz30 ?hbz30 ?hcz30 ?hqz30 ?hyz30 (by assumption) ?restz30
  case hiz30 => (simp only [List.getElem?_toArray, List.getElem?_cons_zero, List.getElem?_cons_succ]; rfl)
  case haz30 => kernel_rfl
  case hbz30 => kernel_rfl
  case hcz30 => kernel_rfl
  case hyz30 => exact Or.inl ⟨by rfl, by (intro w hSw; (try dsimp only at hSw); go_split_ands; go_simp; (try with_reducible rfl))⟩
  case hqz30 => exact fun _ _ _ h => h
  try simp only [Act.put, List.setIfInBounds_toArray, List.set_cons_zero, List.set_cons_succ]
  refine wpAnyH_take (i := 6) (oi := ?oiz31) (v := ?vz31) ?hiz31 ?haz31 ?hbz31 ?hcz31 ?hqz31 ?hyz31 (by assumption) ?restz31
  case hiz31 => (simp only [List.getElem?_toArray, List.getElem?_cons_zero, List.getElem?_cons_succ]; rfl)
  case haz31 => kernel_rfl
  case hbz31 => kernel_rfl
  case hcz31 => kernel_rfl
  case hyz31 => exact Or.inl ⟨by rfl, by (intro w hSw; (try dsimp only at hSw); go_split_ands; go_simp; (try with_reducible rfl))⟩
  case hqz31 => exact fun _ _ _ h => h
  try simp only [Act.put, List.setIfInBounds_toArray, List.set_cons_zero, List.set_cons_succ]
  refine wpAnyH_take (i := 7) (oi := ?oiz32) (v := ?vz32) ?hiz32 ?haz32 ?hbz32 ?hcz32 ?hqz32 ?hyz32 (by assumption) ?restz32
  case hiz32 => (simp only [List.getElem?_toArray, List.getElem?_cons_zero, List.getElem?_cons_succ]; rfl)
  case haz32 => kernel_rfl
  case hbz32 => kernel_rfl
  case hcz32 => kernel_rfl
  case hyz32 => exact Or.inl ⟨by rfl, by (intro w hSw; (try dsimp only at hSw); go_split_ands; go_simp; (try with_reducible rfl))⟩
  case hqz32 => exact fun _ _ _ h => h
  try simp only [Act.put, List.setIfInBounds_toArray, List.set_cons_zero, List.set_cons_succ]
  refine wpAnyH_take (i := 9) (oi := ?oiz33) (v := ?vz33) ?hiz33 ?haz33 ?hbz33 ?hcz33 ?hqz33 ?hyz33 (by assumption) ?restz33
  case hiz33 => (simp only [List.getElem?_toArray, List.getElem?_cons_zero, List.getElem?_cons_succ]; rfl)
  case haz33 => kernel_rfl
  case hbz33 => kernel_rfl
  case hcz33 => kernel_rfl
  case hyz33 => exact Or.inl ⟨by rfl, by (intro w hSw; (try dsimp only at hSw); go_split_ands; go_simp; (try with_reducible rfl))⟩
  case hqz33 => exact fun _ _ _ h => h
  try simp only [Act.put, List.setIfInBounds_toArray, List.set_cons_zero, List.set_cons_succ]
  refine wpAnyH_take (i := 10) (oi := ?oiz34) (v := ?vz34) ?hiz34 ?haz34 ?hbz34 ?hcz34 ?hqz34 ?hyz34 (by assumption) ?restz34
  case hiz34 => (simp only [List.getElem?_toArray, List.getElem?_cons_zero, List.getElem?_cons_succ]; rfl)
  case haz34 => kernel_rfl
  case hbz34 => kernel_rfl
  case hcz34 => kernel_rfl
  case hyz34 => exact Or.inl ⟨by rfl, by (intro w hSw; (try dsimp only at hSw); go_split_ands; go_simp; (try with_reducible rfl))⟩
  case hqz34 => exact fun _ _ _ h => h
  try simp only [Act.put, List.setIfInBounds_toArray, List.set_cons_zero, List.set_cons_succ]
  refine wpAnyH_ready (rs := [8]) (by kernel_rfl) (by simp) ?_
  refine AllReadyH.cons (o := ?oiz35) ?hiz35 (fun K hK => ?stepz35) AllReadyH.nil
  case hiz35 => (simp only [List.getElem?_toArray, List.getElem?_cons_zero, List.getElem?_cons_succ]; rfl)
  go_simp
  refine (parea_many _ w11.drew a d S0 f m hF11.drew ha hFa hspot hm1).mono ?_
  rintro e w12 ⟨rfl, hO12⟩
  have hb12 : Below w11.heap.size w11 w12 := (hO12.undrew).nothing_below' (Nat.le_refl _)
  have hP12 := hP11.kept (hb12.block _ hP11.lt)
  have hc12 := hP12.cell (i := 1) rfl
  refine hK.out _ _ hc12 (fun hHeld => ?_)
  clear hK K
  try simp only [Act.put, List.setIfInBounds_toArray, List.set_cons_zero, List.set_cons_succ]
  refine wpAnyH_take (i := 11) (oi := ?oiz36) (v := ?vz36) ?hiz36 ?haz36 ?hbz36 ?hcz36 ?hqz36 ?hyz36 (by assumption) ?restz36
  case hiz36 => (simp only [List.getElem?_toArray, List.getElem?_cons_zero, List.getElem?_cons_succ]; rfl)
  case haz36 => kernel_rfl
  case hbz36 => kernel_rfl
  case hcz36 => kernel_rfl
  case hyz36 => exact Or.inl ⟨by rfl, by (intro w hSw; (try dsimp only at hSw); go_split_ands; go_simp; (try with_reducible rfl))⟩
  case hqz36 => exact fun _ _ _ h => h
  try simp only [Act.put, List.setIfInBounds_toArray, List.set_cons_zero, List.set_cons_succ]
  refine wpAnyH_take (i := 12) (oi := ?oiz37) (v := ?vz37) ?hiz37 ?haz37 ?hbz37 ?hcz37 ?hqz37 ?hyz37 (by assumption) ?restz37
  case hiz37 => (simp only [List.getElem?_toArray, List.getElem?_cons_zero, List.getElem?_cons_succ]; rfl)
  case haz37 => kernel_rfl
  case hbz37 => kernel_rfl
  case hcz37 => kernel_rfl
  case hyz37 => exact Or.inl ⟨by rfl, by (intro w hSw; (try dsimp only at hSw); go_split_ands; go_simp; (try with_reducible rfl))⟩
  case hqz37 => exact fun _ _ _ h => h
  try simp only [Act.put, List.setIfInBounds_toArray, List.set_cons_zero, List.set_cons_succ]
  refine wpAnyH_done (by kernel_rfl) ?_ _
  clear hHeld
  have hbt12 := hbt11.trans (hb12.mono hbt11.size)
  have hF12 := hF11.only (Only.of_below (F := Nothing) hb12) (fun _ _ hk => hk)
  have ha12 := ha.kept (hb12.block _ ha.lt)
  have hal12 : a < w12.heap.size := ha12.lt
  have h9 := hbt9.size
  have h1012 : w10.heap.size ≤ w12.heap.size := Nat.le_trans hb11.size hb12.size
  obtain ⟨p0, hp0⟩ : ∃ p, p = w.heap.size := ⟨_, rfl⟩
  rw [← hp0] at hP12 hc12 ⊢
  have hp0l : p0 < w12.heap.size := hP12.lt
  have Hp0 := Lib.hid hp0
  clear hp0
  have hcf := hP12.cell (i := 0) rfl
  have hF12d := hF12.drew
  have ha12d : PArea w12.drew a d f m := ha12
  have hP12d := hP12.drew
  have hbt12d := hbt12.drew
  clear hc0 hc1 hP11 hF11 ha hO12 hHeld hbt11 hb12 hb11 hP9 d1 d2 d3 d4 hw4 hF12 ha12 hbt12
  go_upto_region 18 with fail
  go_cut [17] from 113 to 123 (fun s17 wc => ∃ pw c, s17 = .pointer (some ⟨pw, 0, none⟩) ∧ Blk wc pw 44 [.pointer (some ⟨c, 0, none⟩), .int .i64 f, .int .i64 m] ∧ BothA w.heap.size (fun k => k = a ∨ k = pw) wc a d c S0 f m ∧ Below w.heap.size w wc)
  case first =>
    refine wp_region_held_drew (S := fun w0 => w0.cell? ⟨p0, 0, none⟩ = some (.int .i64 f) ∧ w0.cell? ⟨p0, 1, none⟩ = some (.int .i64 m)) (by kernel_rfl) ⟨hcf, hc12⟩ (fun hHeld => ?_)
    refine wpAnyH_take (i := 0) (oi := ?oiz9) (v := ?vz9) ?hiz9 ?haz9 ?hbz9 ?hcz9 ?hqz9 ?hyz9 (by assumption) ?restz9
    case hiz9 => (simp only [List.getElem?_toArray, List.getElem?_cons_zero, List.getElem?_cons_succ]; rfl)
    case haz9 => kernel_rfl
    case hbz9 => kernel_rfl
    case hcz9 => kernel_rfl
    case hyz9 => exact Or.inl ⟨by rfl, by (intro w hSw; (try dsimp only at hSw); go_split_ands; go_simp; (try with_reducible rfl))⟩
    case hqz9 => exact fun _ _ _ h => h
    try simp only [Act.put, List.setIfInBounds_toArray, List.set_cons_zero, List.set_cons_succ]
    refine wpAnyH_take (i := 1) (oi := ?oiz10) (v := ?vz10) ?hiz10 ?haz10 ?hbz10 ?hcz10 ?hqz10 ?hyz10 (by assumption) ?restz10
    case hiz10 => (simp only [List.getElem?_toArray, List.getElem?_cons_zero, List.getElem?_cons_succ]; rfl)
    case haz10 => kernel_rfl
    case hbz10 => kernel_rfl
    case hcz10 => kernel_rfl
    case hyz10 => exact Or.inl ⟨by rfl, by (intro w hSw; (try dsimp only at hSw); go_split_ands; go_simp; (try with_reducible rfl))⟩
    case hqz10 => exact fun _ _ _ h => h
    try simp only [Act.put, List.setIfInBounds_toArray, List.set_cons_zero, List.set_cons_succ]
    refine wpAnyH_take (i := 2) (oi := ?oiz11) (v := ?vz11) ?hiz11 ?haz11 ?hbz11 ?hcz11 ?hqz11 ?hyz11 (by assumption) ?restz11
    case hiz11 => (simp only [List.getElem?_toArray, List.getElem?_cons_zero, List.getElem?_cons_succ]; rfl)
    case haz11 => kernel_rfl
    case hbz11 => kernel_rfl
    case hcz11 => kernel_rfl
    case hyz11 => exact Or.inl ⟨by rfl, by (intro w hSw; (try dsimp only at hSw); go_split_ands; go_simp; (try with_reducible rfl))⟩
    case hqz11 => exact fun _ _ _ h => h
    try simp only [Act.put, List.setIfInBounds_toArray, List.set_cons_zero, List.set_cons_succ]
    refine wpAnyH_take (i := 4) (oi := ?oiz12) (v := ?vz12) ?hiz12 ?haz12 ?hbz12 ?hcz12 ?hqz12 ?hyz12 (by assumption) ?restz12
    case hiz12 => (simp only [List.getElem?_toArray, List.getElem?_cons_zero, List.getElem?_cons_succ]; rfl)
    case haz12 => kernel_rfl
    case hbz12 => kernel_rfl
    case hcz12 => kernel_rfl
    case hyz12 => exact Or.inl ⟨by rfl, by (intro w hSw; (try dsimp only at hSw); go_split_ands; go_simp; (try with_reducible rfl))⟩
    case hqz12 => exact fun _ _ _ h => h
    try simp only [Act.put, List.setIfInBounds_toArray, List.set_cons_zero, List.set_cons_succ]
    refine wpAnyH_take (i := 5) (oi := ?oiz13) (v := ?vz13) ?hiz13 ?haz13 ?hbz13 ?hcz13 ?hqz13 ?hyz13 (by assumption) ?restz13
    case hiz13 => (simp only [List.getElem?_toArray, List.getElem?_cons_zero, List.getElem?_cons_succ]; rfl)
    case haz13 => kernel_rfl
    case hbz13 => kernel_rfl
    case hcz13 => kernel_rfl
    case hyz13 => exact Or.inl ⟨by rfl, by (intro w hSw; (try dsimp only at hSw); go_split_ands; go_simp; (try with_reducible rfl))⟩
    case hqz13 => exact fun _ _ _ h => h
    try simp only [Act.put, List.setIfInBounds_toArray, List.set_cons_zero, List.set_cons_succ]
    refine wpAnyH_take (i := 6) (oi := ?oiz14) (v := ?vz14) ?hiz14 ?haz14 ?hbz14 ?hcz14 ?hqz14 ?hyz14 (by assumption) ?restz14
    case hiz14 => (simp only [List.getElem?_toArray, List.getElem?_cons_zero, List.getElem?_cons_succ]; rfl)
    case haz14 => kernel_rfl
    case hbz14 => kernel_rfl
    case hcz14 => kernel_rfl
    case hyz14 => exact Or.inl ⟨by rfl, by (intro w hSw; (try dsimp only at hSw); go_split_ands; go_simp; (try with_reducible rfl))⟩
    case hqz14 => exact fun _ _ _ h => h
    try simp only [Act.put, List.setIfInBounds_toArray, List.set_cons_zero, List.set_cons_succ]
    refine wpAnyH_take (i := 7) (oi := ?oiz15) (v := ?vz15) ?hiz15 ?haz15 ?hbz15 ?hcz15 ?hqz15 ?hyz15 (by assumption) ?restz15
    case hiz15 => (simp only [List.getElem?_toArray, List.getElem?_cons_zero, List.getElem?_cons_succ]; rfl)
    case haz15 => kernel_rfl
    case hbz15 => kernel_rfl
    case hcz15 => kernel_rfl
    case hyz15 => exact Or.inl ⟨by rfl, by (intro w hSw; (try dsimp only at hSw); go_split_ands; go_simp; (try with_reducible rfl))⟩
    case hqz15 => exact fun _ _ _ h => h
    try simp only [Act.put, List.setIfInBounds_toArray, List.set_cons_zero, List.set_cons_succ]
    refine wpAnyH_ready (rs := [3, 9]) (by kernel_rfl) (by simp) ?_
    refine AllReadyH.cons (o := ?oiz16g0) ?hiz16g0 (fun K hK => ?stepz16g0) ?morez16g0
    case hiz16g0 => (simp only [List.getElem?_toArray, List.getElem?_cons_zero, List.getElem?_cons_succ]; rfl)
    case stepz16g0 =>
      go_simp
      refine (rnew6_is w12.drew 12 (rr : Int) (by omega) (by omega) (by omega) (by omega)).mono ?_
      rintro e w13 ⟨c, rfl, hG13, hb13⟩
      rw [← HS0.out] at hG13
      have hP13 := hP12d.kept (hb13.block _ hP12d.lt)
      refine hK.out _ _ ⟨hP13.cell (i := 0) rfl, hP13.cell (i := 1) rfl⟩ (fun hHeld => ?_)
      clear hK K
      try simp only [Act.put, List.setIfInBounds_toArray, List.set_cons_zero, List.set_cons_succ]
      refine wpAnyH_take (i := 8) (oi := ?oiz17) (v := ?vz17) ?hiz17 ?haz17 ?hbz17 ?hcz17 ?hqz17 ?hyz17 (by assumption) ?restz17
      case hiz17 => (simp only [List.getElem?_toArray, List.getElem?_cons_zero, List.getElem?_cons_succ]; rfl)
      case haz17 => kernel_rfl
      case hbz17 => kernel_rfl
      case hcz17 => kernel_rfl
      case hyz17 => exact Or.inl ⟨by rfl, by (intro w hSw; (try dsimp only at hSw); go_split_ands; go_simp; (try with_reducible rfl))⟩
      case hqz17 => exact fun _ _ _ h => h
      try simp only [Act.put, List.setIfInBounds_toArray, List.set_cons_zero, List.set_cons_succ]
      refine wpAnyH_ready (rs := [9]) (by kernel_rfl) (by simp) ?_
      refine AllReadyH.cons (o := ?oiz18g0) ?hiz18g0 (fun K hK => ?stepz18g0) ?morez18g0
      case hiz18g0 => (simp only [List.getElem?_toArray, List.getElem?_cons_zero, List.getElem?_cons_succ]; rfl)
      case stepz18g0 =>
        go_simp
        obtain ⟨w14, hw14⟩ : ∃ x, x = (w13.alloc (.cells #[.pointer none, .int .i64 0, .int .i64 0] 44)) := ⟨_, rfl⟩
        rw [← hw14]
        have hb14 : Below w13.heap.size w13 w14 := by
          rw [hw14]
          have := below_alloc w13 (.cells #[.pointer none, .int .i64 0, .int .i64 0] 44)
          exact ⟨this.os, this.tape, this.output, this.size, this.block⟩
        have hW14 : Blk w14 w13.heap.size 44 [.pointer none, .int .i64 0, .int .i64 0] := by rw [hw14]; exact Blk.new _ _ _
        have hP14 := hP13.kept (hb14.block _ hP13.lt)
        clear hw14
        refine hK.out _ _ ⟨hP14.cell (i := 0) rfl, hP14.cell (i := 1) rfl⟩ (fun hHeld => ?_)
        clear hK K
        try simp only [Act.put, List.setIfInBounds_toArray, List.set_cons_zero, List.set_cons_succ]
        refine wpAnyH_ready (rs := [10]) (by kernel_rfl) (by simp) ?_
        refine AllReadyH.cons (o := ?oiz19g0) ?hiz19g0 (fun K hK => ?stepz19g0) ?morez19g0
        case hiz19g0 => (simp only [List.getElem?_toArray, List.getElem?_cons_zero, List.getElem?_cons_succ]; rfl)
        case stepz19g0 =>
          obtain ⟨pw, hpw⟩ : ∃ p, p = w13.heap.size := ⟨_, rfl⟩
          rw [← hpw] at hW14 ⊢
          have Hpw := Lib.hid hpw
          clear hpw
          have pwne : p0 ≠ pw := hP14.ne hW14 (by decide)
          have c0 := hW14.cell (i := 0) rfl
          have c1 := hW14.cell (i := 1) rfl
          have c2 := hW14.cell (i := 2) rfl
          have f0 := hW14.frozen 0
          have f1 := hW14.frozen 1
          have f2 := hW14.frozen 2
          have hsW := ((hW14.set 0 (.pointer (some ⟨c, 0, none⟩))).set 1 (.int .i64 f)).set 2 (.int .i64 m)
          go_simp
          refine hK.out _ _ ⟨(((hP14.setOther (a := ⟨pw, 0, none⟩) pwne _).setOther (a := ⟨pw, 1, none⟩) pwne _).setOther (a := ⟨pw, 2, none⟩) pwne _).cell (i := 0) rfl, (((hP14.setOther (a := ⟨pw, 0, none⟩) pwne _).setOther (a := ⟨pw, 1, none⟩) pwne _).setOther (a := ⟨pw, 2, none⟩) pwne _).cell (i := 1) rfl⟩ (fun hHeld => ?_)
          clear hK K
          try simp only [Act.put, List.setIfInBounds_toArray, List.set_cons_zero, List.set_cons_succ]
          refine wpAnyH_done (by kernel_rfl) ?_ _
          clear hHeld c0 c1 c2 f0 f1 f2
          have hGlo : ∀ k, (w12.drew.heap.size ≤ k ∧ k < w13.heap.size) → w12.drew.heap.size ≤ k ∧ k ≠ pw := fun k hk => ⟨hk.1, fun e => by have h1 := Hpw.out; have h2 := hk.2; rw [e, h1] at h2; exact Nat.lt_irrefl _ h2⟩
          have hpwl : w12.drew.heap.size ≤ pw := by rw [Hpw.out]; exact hb13.size
          have hend := box_both hbt12d (hb13.trans (hb14.mono hb13.size)) hF12d (fun k hk => Nat.le_trans h9 hk.1) ha12d hFa (hG13.only (Only.of_below (F := Nothing) hb14) (fun _ _ hk => hk)) hGlo hpwl hW14 (.pointer (some ⟨c, 0, none⟩)) (.int .i64 f) (.int .i64 m)
          try go_wp2_with fail
          go_meet
          exact ⟨pw, c, rfl, hend.2.2, hend.1, hend.2.1⟩
        case morez19g0 => exact AllReadyH.nil
      case morez18g0 => exact AllReadyH.nil
    case morez16g0 =>
      refine AllReadyH.cons (o := ?oiz16g1) ?hiz16g1 (fun K hK => ?stepz16g1) ?morez16g1
      case hiz16g1 => (simp only [List.getElem?_toArray, List.getElem?_cons_zero, List.getElem?_cons_succ]; rfl)
      case stepz16g1 =>
        go_simp
        obtain ⟨w13, hw13⟩ : ∃ x, x = (w12.alloc (.cells #[.pointer none, .int .i64 0, .int .i64 0] 44)).drew := ⟨_, rfl⟩
        rw [← hw13]
        have hb13 : Below w12.drew.heap.size w12.drew w13 := by
          rw [hw13]
          have := (below_alloc w12 (.cells #[.pointer none, .int .i64 0, .int .i64 0] 44)).drew
          exact ⟨this.os, this.tape, this.output, this.size, this.block⟩
        have hW13 : Blk w13 w12.heap.size 44 [.pointer none, .int .i64 0, .int .i64 0] := by rw [hw13]; exact Blk.new _ _ _
        have hP13 := hP12d.kept (hb13.block _ hP12d.lt)
        clear hw13
        refine hK.out _ _ ⟨hP13.cell (i := 0) rfl, hP13.cell (i := 1) rfl⟩ (fun hHeld => ?_)
        clear hK K
        try simp only [Act.put, List.setIfInBounds_toArray, List.set_cons_zero, List.set_cons_succ]
        refine wpAnyH_ready (rs := [3]) (by kernel_rfl) (by simp) ?_
        refine AllReadyH.cons (o := ?oiz21g0) ?hiz21g0 (fun K hK => ?stepz21g0) ?morez21g0
        case hiz21g0 => (simp only [List.getElem?_toArray, List.getElem?_cons_zero, List.getElem?_cons_succ]; rfl)
        case stepz21g0 =>
          go_simp
          refine (rnew6_is w13 12 (rr : Int) (by omega) (by omega) (by omega) (by omega)).mono ?_
          rintro e w14 ⟨c, rfl, hG14, hb14⟩
          rw [← HS0.out] at hG14
          have hP14 := hP13.kept (hb14.block _ hP13.lt)
          have hWl13 := hW13.lt
          have hW14 := hW13.kept (hb14.block _ hW13.lt)
          refine hK.out _ _ ⟨hP14.cell (i := 0) rfl, hP14.cell (i := 1) rfl⟩ (fun hHeld => ?_)
          clear hK K
          try simp only [Act.put, List.setIfInBounds_toArray, List.set_cons_zero, List.set_cons_succ]
          refine wpAnyH_take (i := 8) (oi := ?oiz22) (v := ?vz22) ?hiz22 ?haz22 ?hbz22 ?hcz22 ?hqz22 ?hyz22 (by assumption) ?restz22
          case hiz22 => (simp only [List.getElem?_toArray, List.getElem?_cons_zero, List.getElem?_cons_succ]; rfl)
          case haz22 => kernel_rfl
          case hbz22 => kernel_rfl
          case hcz22 => kernel_rfl
          case hyz22 => exact Or.inl ⟨by rfl, by (intro w hSw; (try dsimp only at hSw); go_split_ands; go_simp; (try with_reducible rfl))⟩
          case hqz22 => exact fun _ _ _ h => h
          try simp only [Act.put, List.setIfInBounds_toArray, List.set_cons_zero, List.set_cons_succ]
          refine wpAnyH_ready (rs := [10]) (by kernel_rfl) (by simp) ?_
          refine AllReadyH.cons (o := ?oiz23g0) ?hiz23g0 (fun K hK => ?stepz23g0) ?morez23g0
          case hiz23g0 => (simp only [List.getElem?_toArray, List.getElem?_cons_zero, List.getElem?_cons_succ]; rfl)
          case stepz23g0 =>
            obtain ⟨pw, hpw⟩ : ∃ p, p = w12.heap.size := ⟨_, rfl⟩
            rw [← hpw] at hW14 ⊢
            have Hpw := Lib.hid hpw
            clear hpw
            have pwne : p0 ≠ pw := hP14.ne hW14 (by decide)
            have c0 := hW14.cell (i := 0) rfl
            have c1 := hW14.cell (i := 1) rfl
            have c2 := hW14.cell (i := 2) rfl
            have f0 := hW14.frozen 0
            have f1 := hW14.frozen 1
            have f2 := hW14.frozen 2
            have hsW := ((hW14.set 0 (.pointer (some ⟨c, 0, none⟩))).set 1 (.int .i64 f)).set 2 (.int .i64 m)
            go_simp
            refine hK.out _ _ ⟨(((hP14.setOther (a := ⟨pw, 0, none⟩) pwne _).setOther (a := ⟨pw, 1, none⟩) pwne _).setOther (a := ⟨pw, 2, none⟩) pwne _).cell (i := 0) rfl, (((hP14.setOther (a := ⟨pw, 0, none⟩) pwne _).setOther (a := ⟨pw, 1, none⟩) pwne _).setOther (a := ⟨pw, 2, none⟩) pwne _).cell (i := 1) rfl⟩ (fun hHeld => ?_)
            clear hK K
            try simp only [Act.put, List.setIfInBounds_toArray, List.set_cons_zero, List.set_cons_succ]
            refine wpAnyH_done (by kernel_rfl) ?_ _
            clear hHeld c0 c1 c2 f0 f1 f2
            have hGlo : ∀ k, (w13.heap.size ≤ k ∧ k < w14.heap.size) → w12.drew.heap.size ≤ k ∧ k ≠ pw := fun k hk => ⟨Nat.le_trans hb13.size hk.1, fun e => by have h1 := hWl13; have h2 := hk.1; rw [e, Hpw.out] at h2; exact Nat.lt_irrefl _ (Nat.lt_of_lt_of_le h1 h2)⟩
            have hpwl : w12.drew.heap.size ≤ pw := by rw [Hpw.out]; exact Nat.le_refl _
            have hend := box_both hbt12d (hb13.trans (hb14.mono hb13.size)) hF12d (fun k hk => Nat.le_trans h9 hk.1) ha12d hFa hG14 hGlo hpwl hW14 (.pointer (some ⟨c, 0, none⟩)) (.int .i64 f) (.int .i64 m)
            try go_wp2_with fail
            go_meet
            exact ⟨pw, c, rfl, hend.2.2, hend.1, hend.2.1⟩
          case morez23g0 => exact AllReadyH.nil
        case morez21g0 => exact AllReadyH.nil
      case morez16g1 => exact AllReadyH.nil
  case rest =>
    clear hF12d ha12d hP12d hbt12d hcf hc12 hP12 hbt9 hFa hal hal12 h1012 h9 hp0l
    obtain ⟨pw, c, rfl, hW, hboth, hbt⟩ := hcut
    go_wp2_with fail
    go_loopw [124] (fun i wr => ∃ (k : Nat) (S : DS), k ≤ n ∧ i = .int .i64 k ∧ BothA w.heap.size (fun k => k = a ∨ k = pw) wr a d c S f m ∧ Blk wr pw 44 [.pointer (some ⟨c, 0, none⟩), .int .i64 f, .int .i64 m] ∧ Below w.heap.size w wr ∧ S.waits.length ≤ k) (fun i _ => n - (intOf i).toNat)
    case atStart => exact ⟨0, S0, by omega, rfl, hboth, hW, hbt, by omega⟩
    case round =>
      clear hboth hbt hW
      obtain ⟨k, S, hk, rfl, hboth, hW, hb, hw⟩ := hrel
      by_cases hlt : k < n
      · obtain ⟨ad, A', c', rfl, e0, e1, e2, e3, e4, hsl⟩ := hx.five hlt
        replace e0 := (hb.cell (World.block_lt_of_cell? w _ e0)).trans e0
        replace e1 := (hb.cell (World.block_lt_of_cell? w _ e1)).trans e1
        replace e2 := (hb.cell (World.block_lt_of_cell? w _ e2)).trans e2
        replace e3 := (hb.cell (World.block_lt_of_cell? w _ e3)).trans e3
        replace e4 := (hb.cell (World.block_lt_of_cell? w _ e4)).trans e4
        have hokk := hok k hlt
        have hV1 := hokk.1 1 (by omega)
        have hV2 := hokk.1 2 (by omega)
        have hV3 := hokk.1 3 (by omega)
        have hA' : ∀ ad, A' = some ad → 0 < (Z k).length → ad.block < w.heap.size := by
          intro ad2 e hpos
          obtain ⟨ad3, u3, ee, hc3, _⟩ := hsl.num hpos
          have e4 : ad3 = ad2 := Option.some.inj (ee.symm.trans e)
          have := World.block_lt_of_cell? w _ hc3
          rw [addr_block, e4] at this
          exact this
        obtain ⟨kind, hkind⟩ : ∃ x, x = V k 0 := ⟨_, rfl⟩
        obtain ⟨n1, hn1⟩ : ∃ x, x = V k 1 := ⟨_, rfl⟩
        obtain ⟨n2, hn2⟩ : ∃ x, x = V k 2 := ⟨_, rfl⟩
        obtain ⟨n3, hn3⟩ : ∃ x, x = V k 3 := ⟨_, rfl⟩
        obtain ⟨zs, hzs⟩ : ∃ x, x = Z k := ⟨_, rfl⟩
        rw [← hkind] at e0
        rw [← hn1] at e1 hV1
        rw [← hn2] at e2 hV2
        rw [← hn3] at e3 hV3
        rw [← hzs] at e4 hsl hA' hokk
        obtain ⟨zl, hzl⟩ : ∃ x, x = zs.length := ⟨_, rfl⟩
        have hslm := hsl
        rw [← hzl] at e4 hslm hA' hokk
        have hzlm := hokk.2.2
        have hzb := hokk.2.1
        clear hkind hn1 hn2 hn3 hzs hokk hsl
        obtain ⟨wd, hwd⟩ : ∃ wd, wd = wr.alloc (.cells #[.int .i64 kind, .int .i64 n1, .int .i64 n2, .int .i64 n3, .slice A' zl c'] 46) := ⟨_, rfl⟩
        have hbd : Below wr.heap.size wr wd := by rw [hwd]; exact below_alloc _ _
        have hPd : Blk wd wr.heap.size 46 [.int .i64 kind, .int .i64 n1, .int .i64 n2, .int .i64 n3, .slice A' zl c'] := by rw [hwd]; exact Blk.new _ _ _
        have hWd := hW.kept (hbd.block _ hW.lt)
        have hbt := hb.trans (hbd.mono hb.size)
        have Hone := Lib.hid (oneA_is w.heap.size (fun k => k = a ∨ k = pw) wd a d c S f m (hboth.below hbd) hspot hm1 hbt.size (Ht.out.below hbt) HTB.out kind n1 n2 n3 hV1 hV2 hV3 A' zl c' zs (hslm.below hbt) hzb hzlm hA' (by omega))
        have q0 := hPd.cell (i := 0) rfl
        have q1 := hPd.cell (i := 1) rfl
        have q2 := hPd.cell (i := 2) rfl
        have q3 := hPd.cell (i := 3) rfl
        have q4 := hPd.cell (i := 4) rfl
        have r0 := hWd.cell (i := 0) rfl
        have r1 := hWd.cell (i := 1) rfl
        have r2 := hWd.cell (i := 2) rfl
        have Hwd := Lib.hid hwd
        clear hwd hslm hzl hA' hzb hPd hboth hW
        go_upto_region 22 with fail
        rw [← Hwd.out]
        clear Hwd e0 e1 e2 e3 e4
        go_wp2_with fail
        refine Hone.out.mono ?_
        rintro e w13 ⟨rfl, S', hboth', hb13, hkp, hw13, _⟩
        have hW13 := hWd.kept (hkp pw (Or.inr rfl))
        have hbt13 : Below w.heap.size w w13 := hbt.trans hb13
        clear Hone q0 q1 q2 q3 q4 r0 r1 r2 hb13 hWd
        go_wp2_with fail
        go_roundw
        case rel => exact ⟨k + 1, S', by omega, by go_num, hboth', hW13, hbt13, by omega⟩
        case measure => simp [intOf]; omega
      · obtain rfl : n = k := by omega
        have r0 := hW.cell (i := 0) rfl
        obtain ⟨F, G, hF, hG, hFG, hFB, hGB, _⟩ := hboth
        have hn2 := hF.wf.n2
        obtain ⟨xs5, hxs5⟩ : ∃ x, x = S.kept.flatten := ⟨_, rfl⟩
        obtain ⟨kn, hkn⟩ : ∃ x, x = 128 * S.kept.length := ⟨_, rfl⟩
        have hknm : kn ≤ 9223372036854775807 := by omega
        have Hxs5 := Lib.hid hxs5
        have Hkn := Lib.hid hkn
        have Hknm := Lib.hid hknm
        have hGd : RD G wr.drew c S := hG.only ((Only.refl Nothing wr).drew) (fun _ _ hk => hk)
        clear hxs5 hkn hknm hn2
        go_upto_region 25 with fail
        refine wp_region_held_drew (S := fun w0 => w0.cell? ⟨pw, 0, none⟩ = some (.pointer (some ⟨c, 0, none⟩))) (by kernel_rfl) r0 (fun hHeld => ?_)
        refine wpAnyH_take (i := 0) (oi := ?oiz1) (v := ?vz1) ?hiz1 ?haz1 ?hbz1 ?hcz1 ?hqz1 ?hyz1 (by assumption) ?restz1
        case hiz1 => (simp only [List.getElem?_toArray, List.getElem?_cons_zero, List.getElem?_cons_succ]; rfl)
        case haz1 => kernel_rfl
        case hbz1 => kernel_rfl
        case hcz1 => kernel_rfl
        case hyz1 => exact Or.inl ⟨by rfl, by (intro w hSw; (try dsimp only at hSw); go_split_ands; go_simp; (try with_reducible rfl))⟩
        case hqz1 => exact fun _ _ _ h => h
        try simp only [Act.put, List.setIfInBounds_toArray, List.set_cons_zero, List.set_cons_succ]
        refine wpAnyH_take (i := 2) (oi := ?oiz2) (v := ?vz2) ?hiz2 ?haz2 ?hbz2 ?hcz2 ?hqz2 ?hyz2 (by assumption) ?restz2
        case hiz2 => (simp only [List.getElem?_toArray, List.getElem?_cons_zero, List.getElem?_cons_succ]; rfl)
        case haz2 => kernel_rfl
        case hbz2 => kernel_rfl
        case hcz2 => kernel_rfl
        case hyz2 => exact Or.inl ⟨by rfl, by (intro w hSw; (try dsimp only at hSw); go_split_ands; go_simp; (try with_reducible rfl))⟩
        case hqz2 => exact fun _ _ _ h => h
        try simp only [Act.put, List.setIfInBounds_toArray, List.set_cons_zero, List.set_cons_succ]
        refine wpAnyH_take (i := 3) (oi := ?oiz3) (v := ?vz3) ?hiz3 ?haz3 ?hbz3 ?hcz3 ?hqz3 ?hyz3 (by assumption) ?restz3
        case hiz3 => (simp only [List.getElem?_toArray, List.getElem?_cons_zero, List.getElem?_cons_succ]; rfl)
        case haz3 => kernel_rfl
        case hbz3 => kernel_rfl
        case hcz3 => kernel_rfl
        case hyz3 => exact Or.inl ⟨by rfl, by (intro w hSw; (try dsimp only at hSw); go_split_ands; go_simp; (try with_reducible rfl))⟩
        case hqz3 => exact fun _ _ _ h => h
        try simp only [Act.put, List.setIfInBounds_toArray, List.set_cons_zero, List.set_cons_succ]
        refine wpAnyH_ready (rs := [1]) (by kernel_rfl) (by simp) ?_
        refine AllReadyH.cons (o := ?oiz4) ?hiz4 (fun K hK => ?stepz4) AllReadyH.nil
        case hiz4 => (simp only [List.getElem?_toArray, List.getElem?_cons_zero, List.getElem?_cons_succ]; rfl)
        go_simp
        refine (dimage_is F wr.drew d S hF.drew).mono ?_
        rintro e w3 ⟨v3, rfl, hv3, hb3⟩
        rw [← Hkn.out, ← Hxs5.out] at hv3
        have hG3 := hGd.only (Only.of_below (F := Nothing) hb3) (fun _ _ hk => hk)
        have hB3 := hb.drew.trans (hb3.mono hb.size)
        have hW3 := (hW.drew).kept (hb3.block _ hW.lt)
        obtain ⟨A3, c3, rfl, hs3⟩ := own_form hv3
        clear hb3 hv3
        refine hK.out _ _ (hW3.cell (i := 0) rfl) (fun hHeld => ?_)
        clear hK K
        try simp only [Act.put, List.setIfInBounds_toArray, List.set_cons_zero, List.set_cons_succ]
        refine wpAnyH_ready (rs := [4]) (by kernel_rfl) (by simp) ?_
        refine AllReadyH.cons (o := ?oiz5) ?hiz5 (fun K hK => ?stepz5) AllReadyH.nil
        case hiz5 => (simp only [List.getElem?_toArray, List.getElem?_cons_zero, List.getElem?_cons_succ]; rfl)
        go_simp
        refine (rimage_is G w3 c S hG3).mono ?_
        rintro e w4 ⟨v4, rfl, hv4, hb4⟩
        rw [← Hkn.out, ← Hxs5.out] at hv4
        have hs34 := hs3.below hb4
        have hB4 := hB3.trans (hb4.mono hB3.size)
        have hW4 := hW3.kept (hb4.block _ hW3.lt)
        obtain ⟨A4, c4, rfl, hs4⟩ := own_form hv4
        clear hb4 hv4 hs3
        refine hK.out _ _ (hW4.cell (i := 0) rfl) (fun hHeld => ?_)
        clear hK K
        try simp only [Act.put, List.setIfInBounds_toArray, List.set_cons_zero, List.set_cons_succ]
        refine wpAnyH_ready (rs := [5]) (by kernel_rfl) (by simp) ?_
        refine AllReadyH.cons (o := ?oiz6) ?hiz6 (fun K hK => ?stepz6) AllReadyH.nil
        case hiz6 => (simp only [List.getElem?_toArray, List.getElem?_cons_zero, List.getElem?_cons_succ]; rfl)
        go_simp
        refine (same_is7 true A3 A4 kn kn c3 c4 xs5 xs5 w4 hs34 hs4 Hknm.out Hknm.out (by simp)).mono ?_
        rintro e w5 ⟨rfl, hb5⟩
        have hB5 := hB4.trans (hb5.mono hB4.size)
        have hW5 := hW4.kept (hb5.block _ hW4.lt)
        clear hb5 hs34 hs4
        refine hK.out _ _ (hW5.cell (i := 0) rfl) (fun hHeld => ?_)
        clear hK K
        try simp only [Act.put, List.setIfInBounds_toArray, List.set_cons_zero, List.set_cons_succ]
        refine wpAnyH_take (i := 6) (oi := ?oiz7) (v := ?vz7) ?hiz7 ?haz7 ?hbz7 ?hcz7 ?hqz7 ?hyz7 (by assumption) ?restz7
        case hiz7 => (simp only [List.getElem?_toArray, List.getElem?_cons_zero, List.getElem?_cons_succ]; rfl)
        case haz7 => kernel_rfl
        case hbz7 => kernel_rfl
        case hcz7 => kernel_rfl
        case hyz7 => exact Or.inl ⟨by rfl, by (intro w hSw; (try dsimp only at hSw); go_split_ands; go_simp; (try with_reducible rfl))⟩
        case hqz7 => exact fun _ _ _ h => h
        try simp only [Act.put, List.setIfInBounds_toArray, List.set_cons_zero, List.set_cons_succ]
        refine wpAnyH_done (by kernel_rfl) ?_ _
        clear hHeld
        try go_wp2_with fail
        try go_ret
        exact ⟨rfl, hB5⟩
end Go.Proofs.YtflaikjciachaaaDoor
