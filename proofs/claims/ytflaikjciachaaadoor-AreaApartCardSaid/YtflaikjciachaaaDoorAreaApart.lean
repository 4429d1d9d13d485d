/- The law AreaApart, walked. -/
import Derived.Test.YtflaikjciachaaaDoorBothA
import Derived.Test.YtflaikjciachaaaDoorAwake8
import Derived.Test.YtflaikjciachaaaDoorDBeside
namespace Go.Proofs.YtflaikjciachaaaDoor
set_option maxRecDepth 100000
open Go.RowKit Go.Deep
set_option linter.unusedSimpArgs false
set_option linter.unusedVariables false
attribute [local irreducible] Tryd.zeroCells52

/-- The program's disk alone, in blocks from B on; the blocks of K are none of it. -/
def PDB (B : Nat) (K : Nat → Prop) (w : World) (d : Nat) (S : DS) : Prop := ∃ F, PD F w d S ∧ (∀ k, F k → B ≤ k) ∧ (∀ k, K k → ¬ F k ∧ k < w.heap.size)
theorem PDB.below {B : Nat} {K : Nat → Prop} {w w' : World} {d : Nat} {S : DS} (h : PDB B K w d S) (ho : Below w.heap.size w w') : PDB B K w' d S := by
  obtain ⟨F, h1, h2, h3⟩ := h
  exact ⟨F, h1.only (Only.of_below (F := Nothing) ho) (fun _ _ hk => hk), h2, fun k hk => ⟨(h3 k hk).1, Nat.lt_of_lt_of_le (h3 k hk).2 ho.size⟩⟩
theorem PDB.add {B : Nat} {K : Nat → Prop} {w w' : World} {d a : Nat} {S : DS} (h : PDB B K w d S) (ho : Below w.heap.size w w') (h1 : w.heap.size ≤ a) (h2 : a < w'.heap.size) : PDB B (fun k => K k ∨ k = a) w' d S := by
  obtain ⟨F, g1, g2, g3⟩ := h
  refine ⟨F, g1.only (Only.of_below (F := Nothing) ho) (fun _ _ hk => hk), g2, fun k hk => ?_⟩
  rcases hk with hk | rfl
  · exact ⟨(g3 k hk).1, Nat.lt_of_lt_of_le (g3 k hk).2 ho.size⟩
  · exact ⟨fun hf => by have := g1.fin hf; omega, h2⟩
theorem pdb_step {B : Nat} {K F : Nat → Prop} {w w1 : World} {d : Nat} {S S1 : DS} (hF : PD F w d S) (hFB : ∀ k, F k → B ≤ k) (hK : ∀ k, K k → ¬ F k ∧ k < w.heap.size) (hB : B ≤ w.heap.size) (h1 : PD (More F w w1) w1 d S1) (o1 : Only F w w1) :
    PDB B K w1 d S1 ∧ Below B w w1 ∧ Kept K w w1 := by
  refine ⟨⟨More F w w1, h1, ?_, ?_⟩, o1.below hB hFB, fun k hk => o1.block k (hK k hk).2 (hK k hk).1⟩
  · intro k hk
    rcases hk with hk | hk
    · exact hFB k hk
    · omega
  · intro k hk
    have hl := (hK k hk).2
    refine ⟨fun h => ?_, Nat.lt_of_lt_of_le hl o1.size⟩
    rcases h with h | h
    · exact (hK k hk).1 h
    · omega
/-- What the sectors hold at first. -/
def apartRow (q : Nat) : List Int := fullOf [((q : Int) + 1)]
theorem apart_byte (q : Nat) (hq : q < 12) : Byte128 (apartRow q) := fullOf_byte (fun x hx => by simp at hx; omega)

set_option maxHeartbeats 12800000 in
theorem areaApart_walk (w : World) (ht : Tabs w) (f m : Int) (hf : -9223372036854775808 ≤ f ∧ f ≤ 9223372036854775807) (hm : -9223372036854775808 ≤ m ∧ m ≤ 9223372036854775807)
    (A : Option Addr) (n c0 : Nat) (V : Nat → Nat → Int) (Bv : Nat → Value) (Z : Nat → List Int) (hx : Dos w A n 4 V Bv Z) (hok : DosOk n 4 V Z) (hn : n ≤ 9223372036854775807) :
    Calls Tryd.prog 4 #[.agg #[.int .i64 f, .int .i64 m], .slice A n c0] w fun e w' => e = .returned (.bool true) ∧ Below w.heap.size w w' := by
  have Ht := Lib.hid ht
  have HTB := Lib.hid (NoTabs.of_tabs ht (fun k h => h))
  clear ht
  obtain ⟨w1, hw1⟩ : ∃ w1, w1 = w.alloc (.cells #[.int .i64 f, .int .i64 m] 23) := ⟨_, rfl⟩
  have hb1 : Below w.heap.size w w1 := by rw [hw1]; exact below_alloc _ _
  have hP : Blk w1 w.heap.size 23 [.int .i64 f, .int .i64 m] := by rw [hw1]; exact Blk.new _ _ _
  have Hw1 := Lib.hid hw1
  clear hw1
  go_enter Tryd.func4, Tryd.ntmps4
  go_upto_region 1 with fail
  rw [← Hw1.out]
  obtain ⟨p0, hp0⟩ : ∃ p, p = w.heap.size := ⟨_, rfl⟩
  rw [← hp0] at hP ⊢
  have Hp0 := Lib.hid hp0
  clear hp0
  go_wp2_with fail
  refine (awake8_any w1).mono ?_
  rintro e w2 ⟨rfl, hb2⟩
  have hbt2 : Below w.heap.size w w2 := hb1.trans (hb2.mono hb1.size)
  have hP2 := hP.kept (hb2.block _ hP.lt)
  clear hb1 hb2 hP Hw1
  go_wp2_with fail
  refine (few8_is w2 A n c0 V Bv Z (hx.below hbt2) hok hn).mono ?_
  rintro e w3 ⟨q, rfl, hq, hb3⟩
  have hbt3 := hbt2.trans (hb3.mono hbt2.size)
  have hP3 := hP2.kept (hb3.block _ hP2.lt)
  clear hb3 hbt2 hP2
  cases q
  · go_wp2
    go_ret
    exact ⟨rfl, hbt3⟩
  have hn40 : n ≤ 40 := hq rfl
  clear hq
  go_wp2_with fail
  refine (dnew_is w3 12 12 (by omega) (by omega) (by omega)).mono ?_
  rintro e w4 ⟨d, rfl, hF, hb4⟩
  have hbt4 := hbt3.trans (hb4.mono hbt3.size)
  have hP4 := hP3.kept (hb4.block _ hP3.lt)
  have hl4 := hP4.lt
  have hPD4 : PDB w.heap.size (fun k => k = p0) w4 d (DS.new 12 12) := ⟨_, hF, fun k hk => Nat.le_trans hbt3.size hk.1, fun k hk => ⟨fun hh => by have h1 := hP3.lt; have h2 := hh.1; rw [hk] at h2; omega, by rw [hk]; exact hl4⟩⟩
  clear hF hb4 hbt3 hP3 hl4
  go_wp2_with fail
  go_loopw [27] (fun i wr => ∃ (j : Nat) (S : DS), j ≤ 12 ∧ i = .int .i64 j ∧ PDB w.heap.size (fun k => k = p0) wr d S ∧ Blk wr p0 23 [.int .i64 f, .int .i64 m] ∧ Below w.heap.size w wr ∧ Hid (Steady S ∧ S.kept.length = 12 ∧ S.room = 12 ∧ S.waits.length ≤ j ∧ ∀ q, q < j → S.at_ q = apartRow q)) (fun i _ => 12 - (intOf i).toNat)
  case atStart => exact ⟨0, _, by omega, rfl, hPD4, hP4, hbt4, Lib.hid ⟨⟨rfl, rfl⟩, by simp [DS.new], rfl, Nat.le_refl _, fun q hq => by omega⟩⟩
  case round =>
    clear hPD4 hP4 hbt4
    obtain ⟨j, S, hj, rfl, hpd, hP, hb, Hst⟩ := hrel
    by_cases hlt : j < 12
    · have hj8 : ((j : Int) + 1) % 256 = (j : Int) + 1 := by omega
      have hjw : IntKind.i64.wrap ((j : Int) + 1) = (j : Int) + 1 := by rw [IntKind.wrap_i64]; omega
      obtain ⟨wd, hwd⟩ : ∃ wd, wd = wr.alloc (.cells #[.int .u8 ((j : Int) + 1)] 5) := ⟨_, rfl⟩
      have hbd : Below wr.heap.size wr wd := by rw [hwd]; exact below_alloc _ _
      have hsd : Sl wd (some ⟨wr.heap.size, 0, none⟩) 1 (u8s [(j : Int) + 1]) := by rw [hwd]; exact Sl.new_ wr 5 (u8s [(j : Int) + 1]) 1 rfl
      have Hfull := Lib.hid (full_is wd _ 1 1 [(j : Int) + 1] hsd (by omega))
      have Hwd := Lib.hid hwd
      clear hwd hsd
      go_wp2_with fail
      rw [← Hwd.out]
      refine Hfull.out.mono ?_
      rintro e w5 ⟨rfl, hb5⟩
      have hbt5 : Below wr.heap.size wr w5 := hbd.trans (hb5.mono hbd.size)
      have hpd5 := hpd.below hbt5
      have hP5 := hP.kept (hbt5.block _ hP.lt)
      have hb55 := hb.trans (hbt5.mono hb.size)
      rw [show fullOf [(j : Int) + 1] = apartRow j from rfl]
      obtain ⟨F, hF, hFB, hK⟩ := hpd5
      obtain ⟨bs, hbs⟩ : ∃ bs, bs = apartRow j := ⟨_, rfl⟩
      have hbb : Byte128 bs := by rw [hbs]; exact apart_byte j hlt
      obtain ⟨r, hr⟩ : ∃ r, r = S.writeOf (j : Int) bs := ⟨_, rfl⟩
      have hin := write_in Hst.out.1 bs (n := j) (by rw [Hst.out.2.1]; exact hlt) (by rw [Hst.out.2.1, Hst.out.2.2.1]; decide)
      rw [← hr] at hin
      have Hr := Lib.hid hr; have Hbs := Lib.hid hbs; have Hin := Lib.hid hin; have Hbb := Lib.hid hbb
      rw [← Hbs.out]
      clear hr hbs hin hbb hb hP hpd hbd hb5 Hfull Hwd
      go_wp2_with fail
      refine (dwrite_any F w5 d S hF (j : Int) bs Hbb.out (by have := Hst.out.2.2.2.1; omega) r Hr.out).mono ?_
      rintro e w6 ⟨rfl, hF6, hO6⟩
      rw [Hin.out.1]
      obtain ⟨hpd6, hb6, hk6⟩ := pdb_step hF hFB hK hb55.size hF6 hO6
      have hP6 := hP5.kept (hk6 p0 rfl)
      have hb66 := hb55.trans hb6
      have Hst6 := Lib.hid (show Steady r.2 ∧ r.2.kept.length = 12 ∧ r.2.room = 12 ∧ r.2.waits.length ≤ j + 1 ∧ ∀ q, q < j + 1 → r.2.at_ q = apartRow q from by
        obtain ⟨h1, h2, h3, h4, h5⟩ := Hst.out
        refine ⟨by rw [Hr.out]; exact h1.write _ _, by rw [Hr.out, writeOf_kept]; exact h2, by rw [Hr.out, write_room]; exact h3, by rw [Hr.out]; have := writeOf_waits S (j : Int) bs; omega, fun q hq => ?_⟩
        by_cases e : q = j
        · subst e; rw [Hin.out.2.1, Hbs.out]
        · rw [Hr.out, write_at _ _ _ (by omega)]; exact h5 q (by omega))
      clear hF hF6 hO6 hb6 hk6 hb55 hP5 hFB hK hbt5
      go_wp2_with fail
      go_roundw
      case rel => exact ⟨j + 1, r.2, by omega, by go_num, hpd6, hP6, hb66, Hst6⟩
      case measure => simp [intOf]; omega
    · obtain rfl : 12 = j := by omega
      obtain ⟨F, hF, hFB, hK⟩ := hpd
      obtain ⟨r, hr⟩ : ∃ r, r = S.flushOf := ⟨_, rfl⟩
      have hr0 : r.1 = 0 := by rw [hr]; exact flush_zero Hst.out.1
      have Hst0 := Lib.hid (show Steady r.2 ∧ r.2.kept.length = 12 ∧ r.2.waits.length ≤ 12 ∧ ∀ q, q < 12 → r.2.at_ q = apartRow q from by
        obtain ⟨h1, h2, h3, h4, h5⟩ := Hst.out
        rw [hr]
        exact ⟨h1.flush, by rw [flushOf_len]; exact h2, Nat.le_trans (flushOf_waits S) h4, fun q hq => by rw [flush_at hF.wf (by rw [h2]; exact hq)]; exact h5 q hq⟩)
      have Hr := Lib.hid hr
      clear hr hj hlt
      go_wp2_with fail
      refine (dflush_any F wr d S hF r Hr.out).mono ?_
      rintro e w5 ⟨rfl, hF5, hO5⟩
      rw [hr0]
      obtain ⟨hpd5, hb5, hk5⟩ := pdb_step hF hFB hK hb.size hF5 hO5
      have hP5 := hP.kept (hk5 p0 rfl)
      have hbt5 := hb.trans hb5
      obtain ⟨S0, hS0⟩ : ∃ S0, S0 = r.2 := ⟨_, rfl⟩
      rw [← hS0] at hpd5 Hst0
      have hc0 := hP5.cell (i := 0) rfl
      have hc1 := hP5.cell (i := 1) rfl
      clear hF hF5 hO5 hb5 hk5 hP hb hFB hK hS0 Hst Hr
      obtain ⟨wo, hwo⟩ : ∃ wo : World, wo = wr := ⟨_, rfl⟩
      clear hwo
      by_cases hbad : f < 0 ∨ 12 ≤ f ∨ m < 1 ∨ 12 - f < m
      · have Hbad := Lib.hid hbad
        clear hbad
        obtain ⟨F, hF, hFB, hK⟩ := hpd5
        go_wp2_with fail
        refine (parea_new_bad F w5 d S0 hF f m hf hm (by rw [Hst0.out.2.1]; exact Hbad.out)).mono ?_
        rintro e w6 ⟨rfl, hb6⟩
        have hbt6 := hbt5.trans (hb6.mono hbt5.size)
        have hP6 := hP5.kept (hb6.block _ hP5.lt)
        have hc0 := hP6.cell (i := 0) rfl
        have hc1 := hP6.cell (i := 1) rfl
        clear hF
        by_cases g1 : f < 0
        · have d1 : decide (f < 0) = true := decide_eq_true g1
          go_wp2
          go_ret
          exact ⟨rfl, hbt6⟩
        have d1 : decide (f < 0) = false := decide_eq_false g1
        by_cases g2 : 11 < f
        · have d2 : decide (11 < f) = true := decide_eq_true g2
          go_wp2
          go_ret
          exact ⟨rfl, hbt6⟩
        have d2 : decide (11 < f) = false := decide_eq_false g2
        by_cases g3 : m < 1
        · have d3 : decide (m < 1) = true := decide_eq_true g3
          go_wp2
          go_ret
          exact ⟨rfl, hbt6⟩
        have d3 : decide (m < 1) = false := decide_eq_false g3
        have g4 : 12 - f < m := by have := Hbad.out; omega
        have d4 : decide (12 - f < m) = true := decide_eq_true g4
        have hw4 : IntKind.i64.wrap (12 - f) = 12 - f := by rw [IntKind.wrap_i64]; omega
        go_wp2
        go_ret
        exact ⟨rfl, hbt6⟩
      have hin : 0 ≤ f ∧ f < 12 ∧ 1 ≤ m ∧ m ≤ 12 - f := by omega
      have hspot : Spot f m := ⟨by omega, by omega, by omega, by omega⟩
      clear hbad
      obtain ⟨F, hF, hFB, hK⟩ := id hpd5
      go_wp2_with fail
      refine (parea_new_is F w5 d S0 hF f m (by rw [Hst0.out.2.1]; omega)).mono ?_
      rintro e w6 ⟨a, rfl, ha, hal, hb6⟩
      have hbt6 := hbt5.trans (hb6.mono hbt5.size)
      have hP6 := hP5.kept (hb6.block _ hP5.lt)
      have hpd6 := hpd5.add hb6 hal ha.lt
      clear hF hFB hK hpd5 hc0 hc1 hP5 hbt5 hb6 hal
      go_wp2_with fail
      go_loopw [74] (fun i wr => ∃ (k : Nat) (S : DS), k ≤ n ∧ i = .int .i64 k ∧ PDB w.heap.size (fun k => k = p0 ∨ k = a) wr d S ∧ PArea wr a d f m ∧ Blk wr p0 23 [.int .i64 f, .int .i64 m] ∧ Below w.heap.size w wr ∧ Hid (Steady S ∧ S.kept.length = 12 ∧ S.waits.length ≤ 12 + 3 * k ∧ ∀ q : Nat, q < 12 → ¬ (f ≤ (q : Int) ∧ (q : Int) - f < m) → S.at_ q = apartRow q)) (fun i _ => n - (intOf i).toNat)
      case atStart => exact ⟨0, S0, by omega, rfl, hpd6, ha, hP6, hbt6, Lib.hid ⟨Hst0.out.1, Hst0.out.2.1, by have := Hst0.out.2.2.1; omega, fun q hq _ => Hst0.out.2.2.2 q hq⟩⟩
      case round =>
        clear hpd6 ha hP6 hbt6 Hst0
        obtain ⟨k, S, hk, rfl, hpd, ha, hP, hb, Hst⟩ := hrel
        by_cases hlt : k < n
        · obtain ⟨ad, A', c', rfl, e0, e1, e2, e3, e4, hsl⟩ := hx.five hlt
          replace e0 := (hb.cell (World.block_lt_of_cell? w _ e0)).trans e0
          replace e1 := (hb.cell (World.block_lt_of_cell? w _ e1)).trans e1
          replace e2 := (hb.cell (World.block_lt_of_cell? w _ e2)).trans e2
          replace e3 := (hb.cell (World.block_lt_of_cell? w _ e3)).trans e3
          replace e4 := (hb.cell (World.block_lt_of_cell? w _ e4)).trans e4
          have hokk := hok k hlt
          have hV1 := hokk.1 1 (by omega)
          have hV2 := hokk.1 2 (by omega)
          have hV3 := hokk.1 3 (by omega)
          obtain ⟨kind, hkind⟩ : ∃ x, x = V k 0 := ⟨_, rfl⟩
          obtain ⟨n1, hn1⟩ : ∃ x, x = V k 1 := ⟨_, rfl⟩
          obtain ⟨n2, hn2⟩ : ∃ x, x = V k 2 := ⟨_, rfl⟩
          obtain ⟨n3, hn3⟩ : ∃ x, x = V k 3 := ⟨_, rfl⟩
          obtain ⟨zs, hzs⟩ : ∃ x, x = Z k := ⟨_, rfl⟩
          rw [← hkind] at e0
          rw [← hn1] at e1 hV1
          rw [← hn2] at e2 hV2
          rw [← hn3] at e3 hV3
          rw [← hzs] at e4 hsl hokk
          obtain ⟨zl, hzl⟩ : ∃ x, x = zs.length := ⟨_, rfl⟩
          have hslm := hsl
          rw [← hzl] at e4 hslm hokk
          have hzlm := hokk.2.2
          have hzb := hokk.2.1
          have Hzb := Lib.hid hzb
          clear hkind hn1 hn2 hn3 hzs hokk hsl hzb hzl
          obtain ⟨wd, hwd⟩ : ∃ wd, wd = wr.alloc (.cells #[.int .i64 kind, .int .i64 n1, .int .i64 n2, .int .i64 n3, .slice A' zl c'] 46) := ⟨_, rfl⟩
          have hbd : Below wr.heap.size wr wd := by rw [hwd]; exact below_alloc _ _
          obtain ⟨pd, hpde⟩ : ∃ p, p = wr.heap.size := ⟨_, rfl⟩
          have hD : Blk wd pd 46 [.int .i64 kind, .int .i64 n1, .int .i64 n2, .int .i64 n3, .slice A' zl c'] := by rw [hwd, hpde]; exact Blk.new _ _ _
          have hpd1 := hpd.add hbd (by rw [hpde]; exact Nat.le_refl _) hD.lt
          have ha1 := ha.kept (hbd.block _ ha.lt)
          have hP1 := hP.kept (hbd.block _ hP.lt)
          have hb1 := hb.trans (hbd.mono hb.size)
          have q1 := hD.cell (i := 1) rfl
          have q4 := hD.cell (i := 4) rfl
          have Hwd := Lib.hid hwd
          have Hpde := Lib.hid hpde
          clear hwd hpde hpd ha hP hb hbd
          go_upto_region 22 with fail
          rw [← Hwd.out, ← Hpde.out]
          clear Hwd e0 e1 e2 e3 e4
          have hP1d := hP1.drew
          have hD1d := hD.drew
          have ha1d : PArea wd.drew a d f m := ha1
          have hb1d := hb1.drew
          have hpd1d : PDB w.heap.size (fun k => (k = p0 ∨ k = a) ∨ k = pd) wd.drew d S := by
            obtain ⟨F, g1, g2, g3⟩ := hpd1
            exact ⟨F, g1.drew, g2, g3⟩
          obtain ⟨bs, hbs⟩ : ∃ bs, bs = fullOf zs := ⟨_, rfl⟩
          have hbb : Byte128 bs := by rw [hbs]; exact fullOf_byte Hzb.out
          have Hfull := Lib.hid (show Calls Tryd.prog 20 #[.slice A' zl c'] wd.drew fun e w' => e = .returned (.agg (u8s bs).toArray) ∧ Below wd.drew.heap.size wd.drew w' by rw [hbs]; exact full_is wd.drew A' zl c' zs (hslm.below hb1d) hzlm)
          have Hbb := Lib.hid hbb
          clear hbs hbb hP1 hD ha1 hb1 hpd1
          refine wp_region_held_drew (S := fun w0 => w0.cell? ⟨pd, 1, none⟩ = some (.int .i64 n1) ∧ w0.cell? ⟨pd, 4, none⟩ = some (.slice A' zl c')) (by kernel_rfl) ⟨q1, q4⟩ (fun hHeld => ?_)
          refine wpAnyH_take (i := 0) (oi := ?oiz1) (v := ?vz1) ?hiz1 ?haz1 ?hbz1 ?hcz1 ?hqz1 ?hyz1 (by assumption) ?restz1
          case hiz1 => (simp only [List.getElem?_toArray, List.getElem?_cons_zero, List.getElem?_cons_succ]; rfl)
          case haz1 => kernel_rfl
          case hbz1 => kernel_rfl
          case hcz1 => kernel_rfl
          case hyz1 => exact Or.inl ⟨by rfl, by (intro w hSw; (try dsimp only at hSw); go_split_ands; go_simp; (try with_reducible rfl))⟩
          case hqz1 => exact fun _ _ _ h => h
          try simp only [Act.put, List.setIfInBounds_toArray, List.set_cons_zero, List.set_cons_succ]
          refine wpAnyH_take (i := 1) (oi := ?oiz2) (v := ?vz2) ?hiz2 ?haz2 ?hbz2 ?hcz2 ?hqz2 ?hyz2 (by assumption) ?restz2
          case hiz2 => (simp only [List.getElem?_toArray, List.getElem?_cons_zero, List.getElem?_cons_succ]; rfl)
          case haz2 => kernel_rfl
          case hbz2 => kernel_rfl
          case hcz2 => kernel_rfl
          case hyz2 => exact Or.inl ⟨by rfl, by (intro w hSw; (try dsimp only at hSw); go_split_ands; go_simp; (try with_reducible rfl))⟩
          case hqz2 => exact fun _ _ _ h => h
          try simp only [Act.put, List.setIfInBounds_toArray, List.set_cons_zero, List.set_cons_succ]
          refine wpAnyH_take (i := 2) (oi := ?oiz3) (v := ?vz3) ?hiz3 ?haz3 ?hbz3 ?hcz3 ?hqz3 ?hyz3 (by assumption) ?restz3
          case hiz3 => (simp only [List.getElem?_toArray, List.getElem?_cons_zero, List.getElem?_cons_succ]; rfl)
          case haz3 => kernel_rfl
          case hbz3 => kernel_rfl
          case hcz3 => kernel_rfl
          case hyz3 => exact Or.inl ⟨by rfl, by (intro w hSw; (try dsimp only at hSw); go_split_ands; go_simp; (try with_reducible rfl))⟩
          case hqz3 => exact fun _ _ _ h => h
          try simp only [Act.put, List.setIfInBounds_toArray, List.set_cons_zero, List.set_cons_succ]
          refine wpAnyH_take (i := 3) (oi := ?oiz4) (v := ?vz4) ?hiz4 ?haz4 ?hbz4 ?hcz4 ?hqz4 ?hyz4 (by assumption) ?restz4
          case hiz4 => (simp only [List.getElem?_toArray, List.getElem?_cons_zero, List.getElem?_cons_succ]; rfl)
          case haz4 => kernel_rfl
          case hbz4 => kernel_rfl
          case hcz4 => kernel_rfl
          case hyz4 => exact Or.inl ⟨by rfl, by (intro w hSw; (try dsimp only at hSw); go_split_ands; go_simp; (try with_reducible rfl))⟩
          case hqz4 => exact fun _ _ _ h => h
          try simp only [Act.put, List.setIfInBounds_toArray, List.set_cons_zero, List.set_cons_succ]
          refine wpAnyH_take (i := 4) (oi := ?oiz5) (v := ?vz5) ?hiz5 ?haz5 ?hbz5 ?hcz5 ?hqz5 ?hyz5 (by assumption) ?restz5
          case hiz5 => (simp only [List.getElem?_toArray, List.getElem?_cons_zero, List.getElem?_cons_succ]; rfl)
          case haz5 => kernel_rfl
          case hbz5 => kernel_rfl
          case hcz5 => kernel_rfl
          case hyz5 => exact Or.inl ⟨by rfl, by (intro w hSw; (try dsimp only at hSw); go_split_ands; go_simp; (try with_reducible rfl))⟩
          case hqz5 => exact fun _ _ _ h => h
          try simp only [Act.put, List.setIfInBounds_toArray, List.set_cons_zero, List.set_cons_succ]
          refine wpAnyH_ready (rs := [5]) (by kernel_rfl) (by simp) ?_
          refine AllReadyH.cons (o := ?oiz6) ?hiz6 (fun K hK => ?stepz6) AllReadyH.nil
          case hiz6 => (simp only [List.getElem?_toArray, List.getElem?_cons_zero, List.getElem?_cons_succ]; rfl)
          go_simp
          refine Hfull.out.mono ?_
          rintro e w3 ⟨rfl, hb3⟩
          have hD3 := hD1d.kept (hb3.block _ hD1d.lt)
          have hP3 := hP1d.kept (hb3.block _ hP1d.lt)
          have ha3 := ha1d.kept (hb3.block _ ha1d.lt)
          have hpd3 := hpd1d.below hb3
          have hb33 := hb1d.trans (hb3.mono hb1d.size)
          clear hb3 hD1d hP1d ha1d hpd1d hb1d
          refine hK.out _ _ (⟨hD3.cell (i := 1) rfl, hD3.cell (i := 4) rfl⟩ : _ ∧ _) (fun hHeld => ?_)
          clear hK K
          try simp only [Act.put, List.setIfInBounds_toArray, List.set_cons_zero, List.set_cons_succ]
          refine wpAnyH_ready (rs := [6]) (by kernel_rfl) (by simp) ?_
          refine AllReadyH.cons (o := ?oiz7) ?hiz7 (fun K hK => ?stepz7) AllReadyH.nil
          case hiz7 => (simp only [List.getElem?_toArray, List.getElem?_cons_zero, List.getElem?_cons_succ]; rfl)
          go_simp
          obtain ⟨F, hF, hFB, hK⟩ := hpd3
          refine (parea_write F w3 a d S f m hF ha3 (hK a (Or.inl (Or.inr rfl))).1 hspot hin.2.2.1 n1 hV1 bs Hbb.out (by have := Hst.out.2.2.1; omega) (S.arWrite f m n1 bs) rfl).mono ?_
          rintro e w4 ⟨rfl, hF4, hO4⟩
          obtain ⟨hpd4, hb4, hk4⟩ := pdb_step hF hFB hK hb33.size hF4 hO4
          have hpa4 := ha3.kept (hk4 a (Or.inl (Or.inr rfl)))
          have hP4 := hP3.kept (hk4 p0 (Or.inl (Or.inl rfl)))
          have hD4 := hD3.kept (hk4 pd (Or.inr rfl))
          replace hb4 := hb33.trans hb4
          obtain ⟨S4, hS4⟩ : ∃ S4, S4 = (S.arWrite f m n1 bs).2 := ⟨_, rfl⟩
          have Hst4 := Lib.hid (show Steady S4 ∧ S4.kept.length = 12 ∧ S4.waits.length ≤ 13 + 3 * k ∧ ∀ q : Nat, q < 12 → ¬ (f ≤ (q : Int) ∧ (q : Int) - f < m) → S4.at_ q = apartRow q from by
            obtain ⟨h1, h2, h3, h4⟩ := Hst.out
            rw [hS4]
            exact ⟨h1.arWrite f m n1 _, by rw [(arWrite_same S f m n1 _).2]; exact h2, by have := (arWrite_same S f m n1 bs).1; omega, fun q hq ho => by rw [arWrite_at f m n1 _ q ho]; exact h4 q hq ho⟩)
          rw [← hS4] at hpd4
          obtain ⟨g4, hg4⟩ : ∃ g, g = (S.arWrite f m n1 bs).1 := ⟨_, rfl⟩
          rw [← hg4]
          clear hF hF4 hO4 hFB hK hb33 hk4 hS4 hg4 ha3 hP3 hD3 Hst Hbb Hfull q1 q4
          refine hK.out _ _ (⟨hD4.cell (i := 1) rfl, hD4.cell (i := 4) rfl⟩ : _ ∧ _) (fun hHeld => ?_)
          clear hK K
          try simp only [Act.put, List.setIfInBounds_toArray, List.set_cons_zero, List.set_cons_succ]
          refine wpAnyH_done (by kernel_rfl) ?_ _
          clear hHeld
          obtain ⟨F, hF, hFB, hK⟩ := hpd4
          have ha4 := hpa4
          have hne4 : ¬ F a := (hK a (Or.inl (Or.inr rfl))).1
          have q3 := hD4.cell (i := 3) rfl
          go_wp2_with fail
          refine (parea_wipe F w4 a d S4 f m hF ha4 hne4 hspot hin.2.2.1 n3 hV3 (by have := Hst4.out.2.2.1; omega) (S4.arWrite f m n3 zeros128) rfl).mono ?_
          rintro e w5 ⟨rfl, hF5, hO5⟩
          obtain ⟨hpd5, hb5, hk5⟩ := pdb_step hF hFB hK hb4.size hF5 hO5
          have ha5 := ha4.kept (hk5 a (Or.inl (Or.inr rfl)))
          have hP5 := hP4.kept (hk5 p0 (Or.inl (Or.inl rfl)))
          have hD5 := hD4.kept (hk5 pd (Or.inr rfl))
          have hb55 := hb4.trans hb5
          obtain ⟨S5, hS5⟩ : ∃ S5, S5 = (S4.arWrite f m n3 zeros128).2 := ⟨_, rfl⟩
          have Hst5 := Lib.hid (show Steady S5 ∧ S5.kept.length = 12 ∧ S5.waits.length ≤ 14 + 3 * k ∧ ∀ q : Nat, q < 12 → ¬ (f ≤ (q : Int) ∧ (q : Int) - f < m) → S5.at_ q = apartRow q from by
            obtain ⟨h1, h2, h3, h4⟩ := Hst4.out
            rw [hS5]
            exact ⟨h1.arWrite f m n3 _, by rw [(arWrite_same S4 f m n3 _).2]; exact h2, by have := (arWrite_same S4 f m n3 zeros128).1; omega, fun q hq ho => by rw [arWrite_at f m n3 _ q ho]; exact h4 q hq ho⟩)
          rw [← hS5] at hpd5
          obtain ⟨g5, hg5⟩ : ∃ g, g = (S4.arWrite f m n3 zeros128).1 := ⟨_, rfl⟩
          rw [← hg5]
          clear hF hF5 hO5 hFB hK hb5 hk5 hS5 hg5 hb4 ha4 hP4 hD4 Hst4 q3 hne4 hpa4
          obtain ⟨F, hF, hFB, hK⟩ := hpd5
          have hne5 : ¬ F a := (hK a (Or.inl (Or.inr rfl))).1
          have q1 := hD5.cell (i := 1) rfl
          have q2 := hD5.cell (i := 2) rfl
          have q4 := hD5.cell (i := 4) rfl
          go_wp2_with fail
          refine (parea_put F w5 a d S5 f m hF ha5 hne5 hspot hin.2.2.1 n2 3 n1 hV2 (by omega) hV1 (Ht.out.below hb55) A' zl c' zs (hslm.below hb55) Hzb.out hzlm (by have := Hst5.out.2.2.1; omega) (S5.arPut f m n2 3 n1 zs) rfl).mono ?_
          rintro e w6 ⟨rfl, hF6, hO6⟩
          obtain ⟨hpd6, hb6, hk6⟩ := pdb_step hF hFB hK hb55.size hF6 hO6
          have ha6 := ha5.kept (hk6 a (Or.inl (Or.inr rfl)))
          have hP6 := hP5.kept (hk6 p0 (Or.inl (Or.inl rfl)))
          have hD6 := hD5.kept (hk6 pd (Or.inr rfl))
          have hb66 := hb55.trans hb6
          obtain ⟨S6, hS6⟩ : ∃ S6, S6 = (S5.arPut f m n2 3 n1 zs).2 := ⟨_, rfl⟩
          have Hst6 := Lib.hid (show Steady S6 ∧ S6.kept.length = 12 ∧ S6.waits.length ≤ 15 + 3 * k ∧ ∀ q : Nat, q < 12 → ¬ (f ≤ (q : Int) ∧ (q : Int) - f < m) → S6.at_ q = apartRow q from by
            obtain ⟨h1, h2, h3, h4⟩ := Hst5.out
            rw [hS6]
            exact ⟨h1.arPut f m n2 3 n1 zs, by rw [(arPut_same S5 f m n2 3 n1 zs).2]; exact h2, by have := (arPut_same S5 f m n2 3 n1 zs).1; omega, fun q hq ho => by rw [arPut_at f m n2 3 n1 zs q ho]; exact h4 q hq ho⟩)
          rw [← hS6] at hpd6
          obtain ⟨g6, hg6⟩ : ∃ g, g = (S5.arPut f m n2 3 n1 zs).1 := ⟨_, rfl⟩
          rw [← hg6]
          clear hF hF6 hO6 hFB hK hb6 hk6 hS6 hg6 hb55 ha5 hP5 hD5 Hst5 q1 q2 q4 hne5
          have q0 := hD6.cell (i := 0) rfl
          by_cases hk2 : kind = 2
          · subst hk2
            obtain ⟨F, hF, hFB, hK⟩ := hpd6
            have hne6 : ¬ F a := (hK a (Or.inl (Or.inr rfl))).1
            go_wp2_with fail
            refine (parea_flush F w6 a d S6 f m hF ha6 hne6 hspot hin.2.2.1 S6.flushOf rfl).mono ?_
            rintro e w7 ⟨rfl, hF7, hO7⟩
            obtain ⟨hpd7, hb7, hk7⟩ := pdb_step hF hFB hK hb66.size hF7 hO7
            have ha7 := ha6.kept (hk7 a (Or.inl (Or.inr rfl)))
            have hP7 := hP6.kept (hk7 p0 (Or.inl (Or.inl rfl)))
            have hb77 := hb66.trans hb7
            obtain ⟨S7, hS7⟩ : ∃ S7, S7 = S6.flushOf.2 := ⟨_, rfl⟩
            have Hst7 := Lib.hid (show Steady S7 ∧ S7.kept.length = 12 ∧ S7.waits.length ≤ 12 + 3 * (k + 1) ∧ ∀ q : Nat, q < 12 → ¬ (f ≤ (q : Int) ∧ (q : Int) - f < m) → S7.at_ q = apartRow q from by
              obtain ⟨h1, h2, h3, h4⟩ := Hst6.out
              rw [hS7]
              exact ⟨h1.flush, by rw [flushOf_len]; exact h2, by have := flushOf_waits S6; omega, fun q hq ho => by rw [flush_at hF.wf (by rw [h2]; exact hq)]; exact h4 q hq ho⟩)
            rw [← hS7] at hpd7
            have hpd7' : PDB w.heap.size (fun k => k = p0 ∨ k = a) w7 d S7 := by
              obtain ⟨F, g1, g2, g3⟩ := hpd7
              exact ⟨F, g1, g2, fun k hk => g3 k (Or.inl hk)⟩
            obtain ⟨g7, hg7⟩ : ∃ g, g = S6.flushOf.1 := ⟨_, rfl⟩
            rw [← hg7]
            clear hF hF7 hO7 hFB hK hb7 hk7 hS7 hg7 hb66 ha6 hP6 hD6 Hst6 q0 hne6 hpd7
            go_wp2_with fail
            go_roundw
            case rel => exact ⟨k + 1, S7, by omega, by go_num, hpd7', ha7, hP7, hb77, Hst7⟩
            case measure => simp [intOf]; omega
          · have hkf : (kind == 2) = false := by simpa using hk2
            have hpd6' : PDB w.heap.size (fun k => k = p0 ∨ k = a) w6 d S6 := by
              obtain ⟨F, g1, g2, g3⟩ := hpd6
              exact ⟨F, g1, g2, fun k hk => g3 k (Or.inl hk)⟩
            have Hst7 := Lib.hid (show Steady S6 ∧ S6.kept.length = 12 ∧ S6.waits.length ≤ 12 + 3 * (k + 1) ∧ ∀ q : Nat, q < 12 → ¬ (f ≤ (q : Int) ∧ (q : Int) - f < m) → S6.at_ q = apartRow q from ⟨Hst6.out.1, Hst6.out.2.1, by have := Hst6.out.2.2.1; omega, Hst6.out.2.2.2⟩)
            clear hk2 hpd6 hD6 Hst6
            go_wp2_with fail
            go_roundw
            case rel => exact ⟨k + 1, S6, by omega, by go_num, hpd6', ha6, hP6, hb66, Hst7⟩
            case measure => simp [intOf]; omega
        · obtain rfl : n = k := by omega
          clear hlt hk
          go_wp2_with fail
          go_loopw [103] (fun i wr => ∃ (j : Nat) (S : DS), j ≤ 12 ∧ i = .int .i64 j ∧ PDB w.heap.size (fun k => k = p0 ∨ k = a) wr d S ∧ Blk wr p0 23 [.int .i64 f, .int .i64 m] ∧ Below w.heap.size w wr ∧ Hid (Steady S ∧ S.kept.length = 12 ∧ ∀ q : Nat, q < 12 → ¬ (f ≤ (q : Int) ∧ (q : Int) - f < m) → S.at_ q = apartRow q)) (fun i _ => 12 - (intOf i).toNat)
          case atStart => exact ⟨0, S, by omega, rfl, hpd, hP, hb, Lib.hid ⟨Hst.out.1, Hst.out.2.1, Hst.out.2.2.2⟩⟩
          case round =>
            clear hpd ha hP hb Hst
            obtain ⟨j, S, hj, rfl, hpd, hP, hb, Hst⟩ := hrel
            by_cases hlt : j < 12
            · obtain ⟨F, hF, hFB, hK⟩ := hpd
              obtain ⟨bs, hbs⟩ : ∃ bs, bs = S.at_ j := ⟨_, rfl⟩
              have hbb : Byte128 bs := by rw [hbs]; exact at_byte hF.wf (by rw [Hst.out.2.1]; exact hlt)
              have hr : (bs, 0, S.count 0) = S.readOf (j : Int) := by rw [read_in Hst.out.1 (by rw [Hst.out.2.1]; exact hlt), hbs]
              have hout : ¬ (f ≤ (j : Int) ∧ (j : Int) - f < m) → bs = apartRow j := by rw [hbs]; exact Hst.out.2.2 j hlt
              have Hr := Lib.hid hr; have Hbb := Lib.hid hbb; have Hout := Lib.hid hout
              clear hbs hbb hr hout
              go_wp2_with fail
              refine (dread_any F wr d S hF (j : Int) (bs, 0, S.count 0) Hr.out).mono ?_
              rintro e w5 ⟨rfl, hF5, hO5⟩
              obtain ⟨hpd5, hb5, hk5⟩ := pdb_step hF hFB hK hb.size hF5 hO5
              have hP5 := hP.kept (hk5 p0 (Or.inl rfl))
              have hbt5 := hb.trans hb5
              obtain ⟨w6, hw6, hb6, hR6, hth, hsA, hsL⟩ := arr_new w5 bs Hbb.out.1
              have hpd6 := hpd5.below hb6
              have hP6 := hP5.kept (hb6.block _ hP5.lt)
              have hbt6 := hbt5.trans (hb6.mono hbt5.size)
              obtain ⟨cb, hcb⟩ : ∃ cb, cb = w5.heap.size := ⟨_, rfl⟩
              rw [← hcb] at hR6
              have hc0 := hP6.cell (i := 0) rfl
              have hc1 := hP6.cell (i := 1) rfl
              have hjf : IntKind.i64.wrap ((j : Int) - f) = (j : Int) - f := by rw [IntKind.wrap_i64]; omega
              have hj8 : ((j : Int) + 1) % 256 = (j : Int) + 1 := by omega
              have hjw : IntKind.i64.wrap ((j : Int) + 1) = (j : Int) + 1 := by rw [IntKind.wrap_i64]; omega
              have hju : IntKind.u8.wrap ((j : Int) + 1) = (j : Int) + 1 := by rw [IntKind.wrap_u8]; omega
              have Hst6 := Lib.hid (show Steady (S.count 0) ∧ (S.count 0).kept.length = 12 ∧ ∀ q : Nat, q < 12 → ¬ (f ≤ (q : Int) ∧ (q : Int) - f < m) → (S.count 0).at_ q = apartRow q from ⟨⟨Hst.out.1.1, Hst.out.1.2⟩, Hst.out.2.1, fun q hq ho => by rw [at_same (S := S.count 0) (T := S) rfl rfl q]; exact Hst.out.2.2 q hq ho⟩)
              obtain ⟨S6, hS6⟩ : ∃ S6, S6 = S.count 0 := ⟨_, rfl⟩
              rw [← hS6] at hpd6 Hst6
              have Hw6 := Lib.hid hw6; have Hth := Lib.hid hth; have Hcb := Lib.hid hcb
              clear hF hF5 hO5 hFB hK hb5 hk5 hP5 hbt5 hw6 hth hcb hb6 hpd5 hS6 Hst hP hb Hr
              simp only []
              by_cases c1 : f ≤ (j : Int)
              · have d1 : decide (f ≤ (j : Int)) = true := decide_eq_true c1
                by_cases c2 : (j : Int) - f < m
                · have d2 : decide ((j : Int) - f < m) = true := decide_eq_true c2
                  go_upto_region 33 with (refine wpList_store_mid rfl 52 (.tmp 13) (.tmp 110) rfl w5.heap.size 0 (u8s bs).toArray rfl rfl Hth.out hsA (all_oneCell_toArray (one_u8s _)) ?_; rw [show (u8s bs).toArray.toList = u8s bs from rfl, ← Hw6.out, ← Hcb.out])
                  refine wp_region_held_drew (S := fun _ => True) (by kernel_rfl) trivial (fun hHeld => ?_)
                  refine wpAnyH_take (i := 0) (oi := ?oiz9) (v := ?vz9) ?hiz9 ?haz9 ?hbz9 ?hcz9 ?hqz9 ?hyz9 (by assumption) ?restz9
                  case hiz9 => (simp only [List.getElem?_toArray, List.getElem?_cons_zero, List.getElem?_cons_succ]; rfl)
                  case haz9 => kernel_rfl
                  case hbz9 => kernel_rfl
                  case hcz9 => kernel_rfl
                  case hyz9 => exact Or.inl ⟨by rfl, by (intro w hSw; (try dsimp only at hSw); go_split_ands; go_simp; (try with_reducible rfl))⟩
                  case hqz9 => exact fun _ _ _ h => h
                  try simp only [Act.put, List.setIfInBounds_toArray, List.set_cons_zero, List.set_cons_succ]
                  refine wpAnyH_take (i := 1) (oi := ?oiz10) (v := ?vz10) ?hiz10 ?haz10 ?hbz10 ?hcz10 ?hqz10 ?hyz10 (by assumption) ?restz10
                  case hiz10 => (simp only [List.getElem?_toArray, List.getElem?_cons_zero, List.getElem?_cons_succ]; rfl)
                  case haz10 => kernel_rfl
                  case hbz10 => kernel_rfl
                  case hcz10 => kernel_rfl
                  case hyz10 => exact Or.inl ⟨by rfl, by (intro w hSw; (try dsimp only at hSw); go_split_ands; go_simp; (try with_reducible rfl))⟩
                  case hqz10 => exact fun _ _ _ h => h
                  try simp only [Act.put, List.setIfInBounds_toArray, List.set_cons_zero, List.set_cons_succ]
                  refine wpAnyH_take (i := 2) (oi := ?oiz11) (v := ?vz11) ?hiz11 ?haz11 ?hbz11 ?hcz11 ?hqz11 ?hyz11 (by assumption) ?restz11
                  case hiz11 => (simp only [List.getElem?_toArray, List.getElem?_cons_zero, List.getElem?_cons_succ]; rfl)
                  case haz11 => kernel_rfl
                  case hbz11 => kernel_rfl
                  case hcz11 => kernel_rfl
                  case hyz11 => exact Or.inl ⟨by rfl, by (intro w hSw; (try dsimp only at hSw); go_split_ands; go_simp; (try with_reducible rfl))⟩
                  case hqz11 => exact fun _ _ _ h => h
                  try simp only [Act.put, List.setIfInBounds_toArray, List.set_cons_zero, List.set_cons_succ]
                  refine wpAnyH_take (i := 3) (oi := ?oiz12) (v := ?vz12) ?hiz12 ?haz12 ?hbz12 ?hcz12 ?hqz12 ?hyz12 (by assumption) ?restz12
                  case hiz12 => (simp only [List.getElem?_toArray, List.getElem?_cons_zero, List.getElem?_cons_succ]; rfl)
                  case haz12 => kernel_rfl
                  case hbz12 => kernel_rfl
                  case hcz12 => kernel_rfl
                  case hyz12 => exact Or.inl ⟨by rfl, by (intro w hSw; (try dsimp only at hSw); go_split_ands; go_simp; (try with_reducible rfl))⟩
                  case hqz12 => exact fun _ _ _ h => h
                  try simp only [Act.put, List.setIfInBounds_toArray, List.set_cons_zero, List.set_cons_succ]
                  refine wpAnyH_take (i := 4) (oi := ?oiz13) (v := ?vz13) ?hiz13 ?haz13 ?hbz13 ?hcz13 ?hqz13 ?hyz13 (by assumption) ?restz13
                  case hiz13 => (simp only [List.getElem?_toArray, List.getElem?_cons_zero, List.getElem?_cons_succ]; rfl)
                  case haz13 => kernel_rfl
                  case hbz13 => kernel_rfl
                  case hcz13 => kernel_rfl
                  case hyz13 => exact Or.inl ⟨by rfl, by (intro w hSw; (try dsimp only at hSw); go_split_ands; go_simp; (try with_reducible rfl))⟩
                  case hqz13 => exact fun _ _ _ h => h
                  try simp only [Act.put, List.setIfInBounds_toArray, List.set_cons_zero, List.set_cons_succ]
                  refine wpAnyH_take (i := 5) (oi := ?oiz14) (v := ?vz14) ?hiz14 ?haz14 ?hbz14 ?hcz14 ?hqz14 ?hyz14 (by assumption) ?restz14
                  case hiz14 => (simp only [List.getElem?_toArray, List.getElem?_cons_zero, List.getElem?_cons_succ]; rfl)
                  case haz14 => kernel_rfl
                  case hbz14 => kernel_rfl
                  case hcz14 => kernel_rfl
                  case hyz14 => exact Or.inl ⟨by rfl, by (intro w hSw; (try dsimp only at hSw); go_split_ands; go_simp; (try with_reducible rfl))⟩
                  case hqz14 => exact fun _ _ _ h => h
                  try simp only [Act.put, List.setIfInBounds_toArray, List.set_cons_zero, List.set_cons_succ]
                  refine wpAnyH_take (i := 6) (oi := ?oiz15) (v := undef) ?hiz15 ?haz15 ?hbz15 ?hcz15 ?hqz15 ?hyz15 (by assumption) ?restz15
                  case hiz15 => (simp only [List.getElem?_toArray, List.getElem?_cons_zero, List.getElem?_cons_succ]; rfl)
                  case haz15 => kernel_rfl
                  case hbz15 => kernel_rfl
                  case hcz15 => kernel_rfl
                  case hyz15 => exact Or.inr ⟨by rfl, rfl⟩
                  case hqz15 => exact fun _ _ _ h => h
                  try simp only [Act.put, List.setIfInBounds_toArray, List.set_cons_zero, List.set_cons_succ]
                  refine wpAnyH_take (i := 7) (oi := ?oiz16) (v := undef) ?hiz16 ?haz16 ?hbz16 ?hcz16 ?hqz16 ?hyz16 (by assumption) ?restz16
                  case hiz16 => (simp only [List.getElem?_toArray, List.getElem?_cons_zero, List.getElem?_cons_succ]; rfl)
                  case haz16 => kernel_rfl
                  case hbz16 => kernel_rfl
                  case hcz16 => kernel_rfl
                  case hyz16 => exact Or.inr ⟨by rfl, rfl⟩
                  case hqz16 => exact fun _ _ _ h => h
                  try simp only [Act.put, List.setIfInBounds_toArray, List.set_cons_zero, List.set_cons_succ]
                  refine wpAnyH_take (i := 8) (oi := ?oiz17) (v := undef) ?hiz17 ?haz17 ?hbz17 ?hcz17 ?hqz17 ?hyz17 (by assumption) ?restz17
                  case hiz17 => (simp only [List.getElem?_toArray, List.getElem?_cons_zero, List.getElem?_cons_succ]; rfl)
                  case haz17 => kernel_rfl
                  case hbz17 => kernel_rfl
                  case hcz17 => kernel_rfl
                  case hyz17 => exact Or.inr ⟨by rfl, rfl⟩
                  case hqz17 => exact fun _ _ _ h => h
                  try simp only [Act.put, List.setIfInBounds_toArray, List.set_cons_zero, List.set_cons_succ]
                  refine wpAnyH_take (i := 9) (oi := ?oiz18) (v := undef) ?hiz18 ?haz18 ?hbz18 ?hcz18 ?hqz18 ?hyz18 (by assumption) ?restz18
                  case hiz18 => (simp only [List.getElem?_toArray, List.getElem?_cons_zero, List.getElem?_cons_succ]; rfl)
                  case haz18 => kernel_rfl
                  case hbz18 => kernel_rfl
                  case hcz18 => kernel_rfl
                  case hyz18 => exact Or.inr ⟨by rfl, rfl⟩
                  case hqz18 => exact fun _ _ _ h => h
                  try simp only [Act.put, List.setIfInBounds_toArray, List.set_cons_zero, List.set_cons_succ]
                  refine wpAnyH_take (i := 10) (oi := ?oiz19) (v := undef) ?hiz19 ?haz19 ?hbz19 ?hcz19 ?hqz19 ?hyz19 (by assumption) ?restz19
                  case hiz19 => (simp only [List.getElem?_toArray, List.getElem?_cons_zero, List.getElem?_cons_succ]; rfl)
                  case haz19 => kernel_rfl
                  case hbz19 => kernel_rfl
                  case hcz19 => kernel_rfl
                  case hyz19 => exact Or.inr ⟨by rfl, rfl⟩
                  case hqz19 => exact fun _ _ _ h => h
                  try simp only [Act.put, List.setIfInBounds_toArray, List.set_cons_zero, List.set_cons_succ]
                  refine wpAnyH_take (i := 11) (oi := ?oiz20) (v := undef) ?hiz20 ?haz20 ?hbz20 ?hcz20 ?hqz20 ?hyz20 (by assumption) ?restz20
                  case hiz20 => (simp only [List.getElem?_toArray, List.getElem?_cons_zero, List.getElem?_cons_succ]; rfl)
                  case haz20 => kernel_rfl
                  case hbz20 => kernel_rfl
                  case hcz20 => kernel_rfl
                  case hyz20 => exact Or.inr ⟨by rfl, rfl⟩
                  case hqz20 => exact fun _ _ _ h => h
                  try simp only [Act.put, List.setIfInBounds_toArray, List.set_cons_zero, List.set_cons_succ]
                  refine wpAnyH_take (i := 12) (oi := ?oiz21) (v := undef) ?hiz21 ?haz21 ?hbz21 ?hcz21 ?hqz21 ?hyz21 (by assumption) ?restz21
                  case hiz21 => (simp only [List.getElem?_toArray, List.getElem?_cons_zero, List.getElem?_cons_succ]; rfl)
                  case haz21 => kernel_rfl
                  case hbz21 => kernel_rfl
                  case hcz21 => kernel_rfl
                  case hyz21 => exact Or.inr ⟨by rfl, rfl⟩
                  case hqz21 => exact fun _ _ _ h => h
                  try simp only [Act.put, List.setIfInBounds_toArray, List.set_cons_zero, List.set_cons_succ]
                  refine wpAnyH_take (i := 13) (oi := ?oiz22) (v := ?vz22) ?hiz22 ?haz22 ?hbz22 ?hcz22 ?hqz22 ?hyz22 (by assumption) ?restz22
                  case hiz22 => (simp only [List.getElem?_toArray, List.getElem?_cons_zero, List.getElem?_cons_succ]; rfl)
                  case haz22 => kernel_rfl
                  case hbz22 => kernel_rfl
                  case hcz22 => kernel_rfl
                  case hyz22 => exact Or.inl ⟨by rfl, by (intro w hSw; (try dsimp only at hSw); go_split_ands; go_simp; (try with_reducible rfl))⟩
                  case hqz22 => exact fun _ _ _ h => h
                  try simp only [Act.put, List.setIfInBounds_toArray, List.set_cons_zero, List.set_cons_succ]
                  refine wpAnyH_take (i := 14) (oi := ?oiz23) (v := ?vz23) ?hiz23 ?haz23 ?hbz23 ?hcz23 ?hqz23 ?hyz23 (by assumption) ?restz23
                  case hiz23 => (simp only [List.getElem?_toArray, List.getElem?_cons_zero, List.getElem?_cons_succ]; rfl)
                  case haz23 => kernel_rfl
                  case hbz23 => kernel_rfl
                  case hcz23 => kernel_rfl
                  case hyz23 => exact Or.inl ⟨by rfl, by (intro w hSw; (try dsimp only at hSw); go_split_ands; go_simp; (try with_reducible rfl))⟩
                  case hqz23 => exact fun _ _ _ h => h
                  try simp only [Act.put, List.setIfInBounds_toArray, List.set_cons_zero, List.set_cons_succ]
                  refine wpAnyH_done (by kernel_rfl) ?_ _
                  clear hHeld
                  go_wp2_with fail
                  go_roundw
                  case rel => exact ⟨j + 1, S6, by omega, by go_num, (show PDB w.heap.size (fun k => k = p0 ∨ k = a) w6.drew d S6 from by
                    obtain ⟨F, g1, g2, g3⟩ := hpd6
                    exact ⟨F, g1.drew, g2, g3⟩), hP6.drew, hbt6.drew, Hst6⟩
                  case measure => simp [intOf]; omega
                · have d2 : decide ((j : Int) - f < m) = false := decide_eq_false c2
                  have heb : bs = fullOf [(j : Int) + 1] := Hout.out (fun h => c2 h.2)
                  have Heb := Lib.hid heb
                  clear heb
                  go_upto_region 33 with (refine wpList_store_mid rfl 52 (.tmp 13) (.tmp 110) rfl w5.heap.size 0 (u8s bs).toArray rfl rfl Hth.out hsA (all_oneCell_toArray (one_u8s _)) ?_; rw [show (u8s bs).toArray.toList = u8s bs from rfl, ← Hw6.out, ← Hcb.out])
                  have hR6d := hR6.drew
                  have hP6d := hP6.drew
                  have hbt6d := hbt6.drew
                  have hpd6d : PDB w.heap.size (fun k => k = p0 ∨ k = a) w6.drew d S6 := by
                    obtain ⟨F, g1, g2, g3⟩ := hpd6
                    exact ⟨F, g1.drew, g2, g3⟩
                  have heq : ∀ w0, (Op.equalIn 10000 52 (.agg (u8s bs).toArray) (.agg (u8s bs).toArray)).run Tryd.prog w0 = .ok true w0 := fun w0 => by
                    have := arr128_eq bs bs Hbb.out.1 Hbb.out.1 w0
                    rw [decide_eq_true rfl] at this
                    exact this
                  have hrg : w6.drew.rangeAt cb 0 (u8s bs) := hR6d.range
                  refine wp_region_held_drew (S := fun w0 => w0.rangeAt cb 0 (u8s bs)) (by kernel_rfl) hrg (fun hHeld => ?_)
                  refine wpAnyH_take (i := 0) (oi := ?oiz25) (v := ?vz25) ?hiz25 ?haz25 ?hbz25 ?hcz25 ?hqz25 ?hyz25 (by assumption) ?restz25
                  case hiz25 => (simp only [List.getElem?_toArray, List.getElem?_cons_zero, List.getElem?_cons_succ]; rfl)
                  case haz25 => kernel_rfl
                  case hbz25 => kernel_rfl
                  case hcz25 => kernel_rfl
                  case hyz25 => exact Or.inl ⟨by rfl, by (intro w hSw; (try dsimp only at hSw); go_split_ands; go_simp; (try with_reducible rfl))⟩
                  case hqz25 => exact fun _ _ _ h => h
                  try simp only [Act.put, List.setIfInBounds_toArray, List.set_cons_zero, List.set_cons_succ]
                  refine wpAnyH_take (i := 1) (oi := ?oiz26) (v := ?vz26) ?hiz26 ?haz26 ?hbz26 ?hcz26 ?hqz26 ?hyz26 (by assumption) ?restz26
                  case hiz26 => (simp only [List.getElem?_toArray, List.getElem?_cons_zero, List.getElem?_cons_succ]; rfl)
                  case haz26 => kernel_rfl
                  case hbz26 => kernel_rfl
                  case hcz26 => kernel_rfl
                  case hyz26 => exact Or.inl ⟨by rfl, by (intro w hSw; (try dsimp only at hSw); go_split_ands; go_simp; (try with_reducible rfl))⟩
                  case hqz26 => exact fun _ _ _ h => h
                  try simp only [Act.put, List.setIfInBounds_toArray, List.set_cons_zero, List.set_cons_succ]
                  refine wpAnyH_take (i := 2) (oi := ?oiz27) (v := ?vz27) ?hiz27 ?haz27 ?hbz27 ?hcz27 ?hqz27 ?hyz27 (by assumption) ?restz27
                  case hiz27 => (simp only [List.getElem?_toArray, List.getElem?_cons_zero, List.getElem?_cons_succ]; rfl)
                  case haz27 => kernel_rfl
                  case hbz27 => kernel_rfl
                  case hcz27 => kernel_rfl
                  case hyz27 => exact Or.inl ⟨by rfl, by (intro w hSw; (try dsimp only at hSw); go_split_ands; go_simp; (try with_reducible rfl))⟩
                  case hqz27 => exact fun _ _ _ h => h
                  try simp only [Act.put, List.setIfInBounds_toArray, List.set_cons_zero, List.set_cons_succ]
                  refine wpAnyH_take (i := 3) (oi := ?oiz28) (v := ?vz28) ?hiz28 ?haz28 ?hbz28 ?hcz28 ?hqz28 ?hyz28 (by assumption) ?restz28
                  case hiz28 => (simp only [List.getElem?_toArray, List.getElem?_cons_zero, List.getElem?_cons_succ]; rfl)
                  case haz28 => kernel_rfl
                  case hbz28 => kernel_rfl
                  case hcz28 => kernel_rfl
                  case hyz28 => exact Or.inl ⟨by rfl, by (intro w hSw; (try dsimp only at hSw); go_split_ands; go_simp; (try with_reducible rfl))⟩
                  case hqz28 => exact fun _ _ _ h => h
                  try simp only [Act.put, List.setIfInBounds_toArray, List.set_cons_zero, List.set_cons_succ]
                  refine wpAnyH_take (i := 4) (oi := ?oiz29) (v := ?vz29) ?hiz29 ?haz29 ?hbz29 ?hcz29 ?hqz29 ?hyz29 (by assumption) ?restz29
                  case hiz29 => (simp only [List.getElem?_toArray, List.getElem?_cons_zero, List.getElem?_cons_succ]; rfl)
                  case haz29 => kernel_rfl
                  case hbz29 => kernel_rfl
                  case hcz29 => kernel_rfl
                  case hyz29 => exact Or.inl ⟨by rfl, by (intro w hSw; (try dsimp only at hSw); go_split_ands; go_simp; (try with_reducible rfl))⟩
                  case hqz29 => exact fun _ _ _ h => h
                  try simp only [Act.put, List.setIfInBounds_toArray, List.set_cons_zero, List.set_cons_succ]
                  refine wpAnyH_take (i := 5) (oi := ?oiz30) (v := ?vz30) ?hiz30 ?haz30 ?hbz30 ?hcz30 ?hqz30 ?hyz30 (by assumption) ?restz30
                  case hiz30 => (simp only [List.getElem?_toArray, List.getElem?_cons_zero, List.getElem?_cons_succ]; rfl)
                  case haz30 => kernel_rfl
                  case hbz30 => kernel_rfl
                  case hcz30 => kernel_rfl
                  case hyz30 => exact Or.inl ⟨by rfl, by (intro w hSw; (try dsimp only at hSw); go_split_ands; go_simp; (try with_reducible rfl))⟩
                  case hqz30 => exact fun _ _ _ h => h
                  try simp only [Act.put, List.setIfInBounds_toArray, List.set_cons_zero, List.set_cons_succ]
                  refine wpAnyH_take (i := 6) (oi := ?oiz31) (v := .agg (u8s bs).toArray) ?hiz31 ?haz31 ?hbz31 ?hcz31 ?hqz31 ?hyz31 (by assumption) ?restz31
                  case hiz31 => (simp only [List.getElem?_toArray, List.getElem?_cons_zero, List.getElem?_cons_succ]; rfl)
                  case haz31 => kernel_rfl
                  case hbz31 => kernel_rfl
                  case hcz31 => kernel_rfl
                  case hyz31 => exact Or.inl ⟨by rfl, fun w' hSw => run_load_op 52 (.tmp 13) rfl cb 0 rfl (u8s bs) _ hSw Tryd.underlying52 rfl hsL⟩
                  case hqz31 => exact fun _ _ _ h => h
                  try simp only [Act.put, List.setIfInBounds_toArray, List.set_cons_zero, List.set_cons_succ]
                  refine wpAnyH_take (i := 7) (oi := ?oiz32) (v := ?vz32) ?hiz32 ?haz32 ?hbz32 ?hcz32 ?hqz32 ?hyz32 (by assumption) ?restz32
                  case hiz32 => (simp only [List.getElem?_toArray, List.getElem?_cons_zero, List.getElem?_cons_succ]; rfl)
                  case haz32 => kernel_rfl
                  case hbz32 => kernel_rfl
                  case hcz32 => kernel_rfl
                  case hyz32 => exact Or.inl ⟨by rfl, by (intro w hSw; (try dsimp only at hSw); go_split_ands; go_simp; (try with_reducible rfl))⟩
                  case hqz32 => exact fun _ _ _ h => h
                  try simp only [Act.put, List.setIfInBounds_toArray, List.set_cons_zero, List.set_cons_succ]
                  refine wpAnyH_take (i := 8) (oi := ?oiz33) (v := ?vz33) ?hiz33 ?haz33 ?hbz33 ?hcz33 ?hqz33 ?hyz33 (by assumption) ?restz33
                  case hiz33 => (simp only [List.getElem?_toArray, List.getElem?_cons_zero, List.getElem?_cons_succ]; rfl)
                  case haz33 => kernel_rfl
                  case hbz33 => kernel_rfl
                  case hcz33 => kernel_rfl
                  case hyz33 => exact Or.inl ⟨by rfl, by (intro w hSw; (try dsimp only at hSw); go_split_ands; go_simp; (try with_reducible rfl))⟩
                  case hqz33 => exact fun _ _ _ h => h
                  try simp only [Act.put, List.setIfInBounds_toArray, List.set_cons_zero, List.set_cons_succ]
                  refine wpAnyH_take (i := 9) (oi := ?oiz34) (v := ?vz34) ?hiz34 ?haz34 ?hbz34 ?hcz34 ?hqz34 ?hyz34 (by assumption) ?restz34
                  case hiz34 => (simp only [List.getElem?_toArray, List.getElem?_cons_zero, List.getElem?_cons_succ]; rfl)
                  case haz34 => kernel_rfl
                  case hbz34 => kernel_rfl
                  case hcz34 => kernel_rfl
                  case hyz34 => exact Or.inl ⟨by rfl, by (intro w hSw; (try dsimp only at hSw); go_split_ands; go_simp; (try with_reducible rfl))⟩
                  case hqz34 => exact fun _ _ _ h => h
                  try simp only [Act.put, List.setIfInBounds_toArray, List.set_cons_zero, List.set_cons_succ]
                  refine wpAnyH_ready (rs := [10]) (by kernel_rfl) (by simp) ?_
                  refine AllReadyH.cons (o := ?oiz35) ?hiz35 (fun K hK => ?stepz35) AllReadyH.nil
                  case hiz35 => (simp only [List.getElem?_toArray, List.getElem?_cons_zero, List.getElem?_cons_succ]; rfl)
                  go_simp
                  obtain ⟨w7, hw7⟩ : ∃ x, x = (w6.alloc (.cells #[.int .u8 ((j : Int) + 1)] 5)).drew := ⟨_, rfl⟩
                  rw [← hw7]
                  have hb7 : Below w6.drew.heap.size w6.drew w7 := by
                    rw [hw7]
                    have := (below_alloc w6 (.cells #[.int .u8 ((j : Int) + 1)] 5)).drew
                    exact ⟨this.os, this.tape, this.output, this.size, this.block⟩
                  have hsd : Sl w7 (some ⟨w6.heap.size, 0, none⟩) 1 (u8s [(j : Int) + 1]) := by rw [hw7]; exact Sl.new_ w6 5 (u8s [(j : Int) + 1]) 1 rfl
                  have hR7 := hR6d.kept (hb7.block _ hR6d.lt)
                  have Hfull := Lib.hid (full_is w7 _ 1 1 [(j : Int) + 1] hsd (by omega))
                  clear hw7 hsd
                  refine hK.out _ _ hR7.range (fun hHeld => ?_)
                  clear hK K
                  try simp only [Act.put, List.setIfInBounds_toArray, List.set_cons_zero, List.set_cons_succ]
                  refine wpAnyH_ready (rs := [11]) (by kernel_rfl) (by simp) ?_
                  refine AllReadyH.cons (o := ?oiz36) ?hiz36 (fun K hK => ?stepz36) AllReadyH.nil
                  case hiz36 => (simp only [List.getElem?_toArray, List.getElem?_cons_zero, List.getElem?_cons_succ]; rfl)
                  go_simp
                  refine Hfull.out.mono ?_
                  rintro e w8 ⟨rfl, hb8⟩
                  rw [← Heb.out]
                  have hR8 := hR7.kept (hb8.block _ hR7.lt)
                  have hb68 : Below w6.drew.heap.size w6.drew w8 := hb7.trans (hb8.mono hb7.size)
                  refine hK.out _ _ hR8.range (fun hHeld => ?_)
                  clear hK K
                  try simp only [Act.put, List.setIfInBounds_toArray, List.set_cons_zero, List.set_cons_succ]
                  refine wpAnyH_take (i := 12) (oi := ?oiz37) (v := ?vz37) ?hiz37 ?haz37 ?hbz37 ?hcz37 ?hqz37 ?hyz37 (by assumption) ?restz37
                  case hiz37 => (simp only [List.getElem?_toArray, List.getElem?_cons_zero, List.getElem?_cons_succ]; rfl)
                  case haz37 => kernel_rfl
                  case hbz37 => kernel_rfl
                  case hcz37 => kernel_rfl
                  case hyz37 => exact Or.inl ⟨by rfl, by (intro w hSw; (try dsimp only at hSw); go_split_ands; go_simp; (try with_reducible rfl))⟩
                  case hqz37 => exact fun _ _ _ h => h
                  try simp only [Act.put, List.setIfInBounds_toArray, List.set_cons_zero, List.set_cons_succ]
                  refine wpAnyH_take (i := 13) (oi := ?oiz38) (v := ?vz38) ?hiz38 ?haz38 ?hbz38 ?hcz38 ?hqz38 ?hyz38 (by assumption) ?restz38
                  case hiz38 => (simp only [List.getElem?_toArray, List.getElem?_cons_zero, List.getElem?_cons_succ]; rfl)
                  case haz38 => kernel_rfl
                  case hbz38 => kernel_rfl
                  case hcz38 => kernel_rfl
                  case hyz38 => exact Or.inl ⟨by rfl, by (intro w hSw; (try dsimp only at hSw); go_split_ands; go_simp; (try with_reducible rfl))⟩
                  case hqz38 => exact fun _ _ _ h => h
                  try simp only [Act.put, List.setIfInBounds_toArray, List.set_cons_zero, List.set_cons_succ]
                  refine wpAnyH_take (i := 14) (oi := ?oiz39) (v := ?vz39) ?hiz39 ?haz39 ?hbz39 ?hcz39 ?hqz39 ?hyz39 (by assumption) ?restz39
                  case hiz39 => (simp only [List.getElem?_toArray, List.getElem?_cons_zero, List.getElem?_cons_succ]; rfl)
                  case haz39 => kernel_rfl
                  case hbz39 => kernel_rfl
                  case hcz39 => kernel_rfl
                  case hyz39 => exact Or.inl ⟨by rfl, by (intro w hSw; (try dsimp only at hSw); go_split_ands; go_simp; (try with_reducible rfl))⟩
                  case hqz39 => exact fun _ _ _ h => h
                  try simp only [Act.put, List.setIfInBounds_toArray, List.set_cons_zero, List.set_cons_succ]
                  refine wpAnyH_done (by kernel_rfl) ?_ _
                  clear hHeld
                  go_wp2_with fail
                  go_roundw
                  case rel => exact ⟨j + 1, S6, by omega, by go_num, hpd6d.below hb68, hP6d.kept (hb68.block _ hP6d.lt), hbt6d.trans (hb68.mono hbt6d.size), Hst6⟩
                  case measure => simp [intOf]; omega
              · have d1 : decide (f ≤ (j : Int)) = false := decide_eq_false c1
                have heb : bs = fullOf [(j : Int) + 1] := Hout.out (fun h => c1 h.1)
                have Heb := Lib.hid heb
                clear heb
                go_upto_region 33 with (refine wpList_store_mid rfl 52 (.tmp 13) (.tmp 110) rfl w5.heap.size 0 (u8s bs).toArray rfl rfl Hth.out hsA (all_oneCell_toArray (one_u8s _)) ?_; rw [show (u8s bs).toArray.toList = u8s bs from rfl, ← Hw6.out, ← Hcb.out])
                have hR6d := hR6.drew
                have hP6d := hP6.drew
                have hbt6d := hbt6.drew
                have hpd6d : PDB w.heap.size (fun k => k = p0 ∨ k = a) w6.drew d S6 := by
                  obtain ⟨F, g1, g2, g3⟩ := hpd6
                  exact ⟨F, g1.drew, g2, g3⟩
                have heq : ∀ w0, (Op.equalIn 10000 52 (.agg (u8s bs).toArray) (.agg (u8s bs).toArray)).run Tryd.prog w0 = .ok true w0 := fun w0 => by
                  have := arr128_eq bs bs Hbb.out.1 Hbb.out.1 w0
                  rw [decide_eq_true rfl] at this
                  exact this
                have hrg : w6.drew.rangeAt cb 0 (u8s bs) := hR6d.range
                refine wp_region_held_drew (S := fun w0 => w0.rangeAt cb 0 (u8s bs)) (by kernel_rfl) hrg (fun hHeld => ?_)
                refine wpAnyH_take (i := 0) (oi := ?oiz41) (v := ?vz41) ?hiz41 ?haz41 ?hbz41 ?hcz41 ?hqz41 ?hyz41 (by assumption) ?restz41
                case hiz41 => (simp only [List.getElem?_toArray, List.getElem?_cons_zero, List.getElem?_cons_succ]; rfl)
                case haz41 => kernel_rfl
                case hbz41 => kernel_rfl
                case hcz41 => kernel_rfl
                case hyz41 => exact Or.inl ⟨by rfl, by (intro w hSw; (try dsimp only at hSw); go_split_ands; go_simp; (try with_reducible rfl))⟩
                case hqz41 => exact fun _ _ _ h => h
                try simp only [Act.put, List.setIfInBounds_toArray, List.set_cons_zero, List.set_cons_succ]
                refine wpAnyH_take (i := 1) (oi := ?oiz42) (v := ?vz42) ?hiz42 ?haz42 ?hbz42 ?hcz42 ?hqz42 ?hyz42 (by assumption) ?restz42
                case hiz42 => (simp only [List.getElem?_toArray, List.getElem?_cons_zero, List.getElem?_cons_succ]; rfl)
                case haz42 => kernel_rfl
                case hbz42 => kernel_rfl
                case hcz42 => kernel_rfl
                case hyz42 => exact Or.inl ⟨by rfl, by (intro w hSw; (try dsimp only at hSw); go_split_ands; go_simp; (try with_reducible rfl))⟩
                case hqz42 => exact fun _ _ _ h => h
                try simp only [Act.put, List.setIfInBounds_toArray, List.set_cons_zero, List.set_cons_succ]
                refine wpAnyH_take (i := 2) (oi := ?oiz43) (v := ?vz43) ?hiz43 ?haz43 ?hbz43 ?hcz43 ?hqz43 ?hyz43 (by assumption) ?restz43
                case hiz43 => (simp only [List.getElem?_toArray, List.getElem?_cons_zero, List.getElem?_cons_succ]; rfl)
                case haz43 => kernel_rfl
                case hbz43 => kernel_rfl
                case hcz43 => kernel_rfl
                case hyz43 => exact Or.inl ⟨by rfl, by (intro w hSw; (try dsimp only at hSw); go_split_ands; go_simp; (try with_reducible rfl))⟩
                case hqz43 => exact fun _ _ _ h => h
                try simp only [Act.put, List.setIfInBounds_toArray, List.set_cons_zero, List.set_cons_succ]
                refine wpAnyH_take (i := 3) (oi := ?oiz44) (v := ?vz44) ?hiz44 ?haz44 ?hbz44 ?hcz44 ?hqz44 ?hyz44 (by assumption) ?restz44
                case hiz44 => (simp only [List.getElem?_toArray, List.getElem?_cons_zero, List.getElem?_cons_succ]; rfl)
                case haz44 => kernel_rfl
                case hbz44 => kernel_rfl
                case hcz44 => kernel_rfl
                case hyz44 => exact Or.inl ⟨by rfl, by (intro w hSw; (try dsimp only at hSw); go_split_ands; go_simp; (try with_reducible rfl))⟩
                case hqz44 => exact fun _ _ _ h => h
                try simp only [Act.put, List.setIfInBounds_toArray, List.set_cons_zero, List.set_cons_succ]
                refine wpAnyH_take (i := 4) (oi := ?oiz45) (v := ?vz45) ?hiz45 ?haz45 ?hbz45 ?hcz45 ?hqz45 ?hyz45 (by assumption) ?restz45
                case hiz45 => (simp only [List.getElem?_toArray, List.getElem?_cons_zero, List.getElem?_cons_succ]; rfl)
                case haz45 => kernel_rfl
                case hbz45 => kernel_rfl
                case hcz45 => kernel_rfl
                case hyz45 => exact Or.inl ⟨by rfl, by (intro w hSw; (try dsimp only at hSw); go_split_ands; go_simp; (try with_reducible rfl))⟩
                case hqz45 => exact fun _ _ _ h => h
                try simp only [Act.put, List.setIfInBounds_toArray, List.set_cons_zero, List.set_cons_succ]
                refine wpAnyH_take (i := 5) (oi := ?oiz46) (v := ?vz46) ?hiz46 ?haz46 ?hbz46 ?hcz46 ?hqz46 ?hyz46 (by assumption) ?restz46
                case hiz46 => (simp only [List.getElem?_toArray, List.getElem?_cons_zero, List.getElem?_cons_succ]; rfl)
                case haz46 => kernel_rfl
                case hbz46 => kernel_rfl
                case hcz46 => kernel_rfl
                case hyz46 => exact Or.inl ⟨by rfl, by (intro w hSw; (try dsimp only at hSw); go_split_ands; go_simp; (try with_reducible rfl))⟩
                case hqz46 => exact fun _ _ _ h => h
                try simp only [Act.put, List.setIfInBounds_toArray, List.set_cons_zero, List.set_cons_succ]
                refine wpAnyH_take (i := 6) (oi := ?oiz47) (v := .agg (u8s bs).toArray) ?hiz47 ?haz47 ?hbz47 ?hcz47 ?hqz47 ?hyz47 (by assumption) ?restz47
                case hiz47 => (simp only [List.getElem?_toArray, List.getElem?_cons_zero, List.getElem?_cons_succ]; rfl)
                case haz47 => kernel_rfl
                case hbz47 => kernel_rfl
                case hcz47 => kernel_rfl
                case hyz47 => exact Or.inl ⟨by rfl, fun w' hSw => run_load_op 52 (.tmp 13) rfl cb 0 rfl (u8s bs) _ hSw Tryd.underlying52 rfl hsL⟩
                case hqz47 => exact fun _ _ _ h => h
                try simp only [Act.put, List.setIfInBounds_toArray, List.set_cons_zero, List.set_cons_succ]
                refine wpAnyH_take (i := 7) (oi := ?oiz48) (v := ?vz48) ?hiz48 ?haz48 ?hbz48 ?hcz48 ?hqz48 ?hyz48 (by assumption) ?restz48
                case hiz48 => (simp only [List.getElem?_toArray, List.getElem?_cons_zero, List.getElem?_cons_succ]; rfl)
                case haz48 => kernel_rfl
                case hbz48 => kernel_rfl
                case hcz48 => kernel_rfl
                case hyz48 => exact Or.inl ⟨by rfl, by (intro w hSw; (try dsimp only at hSw); go_split_ands; go_simp; (try with_reducible rfl))⟩
                case hqz48 => exact fun _ _ _ h => h
                try simp only [Act.put, List.setIfInBounds_toArray, List.set_cons_zero, List.set_cons_succ]
                refine wpAnyH_take (i := 8) (oi := ?oiz49) (v := ?vz49) ?hiz49 ?haz49 ?hbz49 ?hcz49 ?hqz49 ?hyz49 (by assumption) ?restz49
                case hiz49 => (simp only [List.getElem?_toArray, List.getElem?_cons_zero, List.getElem?_cons_succ]; rfl)
                case haz49 => kernel_rfl
                case hbz49 => kernel_rfl
                case hcz49 => kernel_rfl
                case hyz49 => exact Or.inl ⟨by rfl, by (intro w hSw; (try dsimp only at hSw); go_split_ands; go_simp; (try with_reducible rfl))⟩
                case hqz49 => exact fun _ _ _ h => h
                try simp only [Act.put, List.setIfInBounds_toArray, List.set_cons_zero, List.set_cons_succ]
                refine wpAnyH_take (i := 9) (oi := ?oiz50) (v := ?vz50) ?hiz50 ?haz50 ?hbz50 ?hcz50 ?hqz50 ?hyz50 (by assumption) ?restz50
                case hiz50 => (simp only [List.getElem?_toArray, List.getElem?_cons_zero, List.getElem?_cons_succ]; rfl)
                case haz50 => kernel_rfl
                case hbz50 => kernel_rfl
                case hcz50 => kernel_rfl
                case hyz50 => exact Or.inl ⟨by rfl, by (intro w hSw; (try dsimp only at hSw); go_split_ands; go_simp; (try with_reducible rfl))⟩
                case hqz50 => exact fun _ _ _ h => h
                try simp only [Act.put, List.setIfInBounds_toArray, List.set_cons_zero, List.set_cons_succ]
                refine wpAnyH_ready (rs := [10]) (by kernel_rfl) (by simp) ?_
                refine AllReadyH.cons (o := ?oiz51) ?hiz51 (fun K hK => ?stepz51) AllReadyH.nil
                case hiz51 => (simp only [List.getElem?_toArray, List.getElem?_cons_zero, List.getElem?_cons_succ]; rfl)
                go_simp
                obtain ⟨w7, hw7⟩ : ∃ x, x = (w6.alloc (.cells #[.int .u8 ((j : Int) + 1)] 5)).drew := ⟨_, rfl⟩
                rw [← hw7]
                have hb7 : Below w6.drew.heap.size w6.drew w7 := by
                  rw [hw7]
                  have := (below_alloc w6 (.cells #[.int .u8 ((j : Int) + 1)] 5)).drew
                  exact ⟨this.os, this.tape, this.output, this.size, this.block⟩
                have hsd : Sl w7 (some ⟨w6.heap.size, 0, none⟩) 1 (u8s [(j : Int) + 1]) := by rw [hw7]; exact Sl.new_ w6 5 (u8s [(j : Int) + 1]) 1 rfl
                have hR7 := hR6d.kept (hb7.block _ hR6d.lt)
                have Hfull := Lib.hid (full_is w7 _ 1 1 [(j : Int) + 1] hsd (by omega))
                clear hw7 hsd
                refine hK.out _ _ hR7.range (fun hHeld => ?_)
                clear hK K
                try simp only [Act.put, List.setIfInBounds_toArray, List.set_cons_zero, List.set_cons_succ]
                refine wpAnyH_ready (rs := [11]) (by kernel_rfl) (by simp) ?_
                refine AllReadyH.cons (o := ?oiz52) ?hiz52 (fun K hK => ?stepz52) AllReadyH.nil
                case hiz52 => (simp only [List.getElem?_toArray, List.getElem?_cons_zero, List.getElem?_cons_succ]; rfl)
                go_simp
                refine Hfull.out.mono ?_
                rintro e w8 ⟨rfl, hb8⟩
                rw [← Heb.out]
                have hR8 := hR7.kept (hb8.block _ hR7.lt)
                have hb68 : Below w6.drew.heap.size w6.drew w8 := hb7.trans (hb8.mono hb7.size)
                refine hK.out _ _ hR8.range (fun hHeld => ?_)
                clear hK K
                try simp only [Act.put, List.setIfInBounds_toArray, List.set_cons_zero, List.set_cons_succ]
                refine wpAnyH_take (i := 12) (oi := ?oiz53) (v := ?vz53) ?hiz53 ?haz53 ?hbz53 ?hcz53 ?hqz53 ?hyz53 (by assumption) ?restz53
                case hiz53 => (simp only [List.getElem?_toArray, List.getElem?_cons_zero, List.getElem?_cons_succ]; rfl)
                case haz53 => kernel_rfl
                case hbz53 => kernel_rfl
                case hcz53 => kernel_rfl
                case hyz53 => exact Or.inl ⟨by rfl, by (intro w hSw; (try dsimp only at hSw); go_split_ands; go_simp; (try with_reducible rfl))⟩
                case hqz53 => exact fun _ _ _ h => h
                try simp only [Act.put, List.setIfInBounds_toArray, List.set_cons_zero, List.set_cons_succ]
                refine wpAnyH_take (i := 13) (oi := ?oiz54) (v := ?vz54) ?hiz54 ?haz54 ?hbz54 ?hcz54 ?hqz54 ?hyz54 (by assumption) ?restz54
                case hiz54 => (simp only [List.getElem?_toArray, List.getElem?_cons_zero, List.getElem?_cons_succ]; rfl)
                case haz54 => kernel_rfl
                case hbz54 => kernel_rfl
                case hcz54 => kernel_rfl
                case hyz54 => exact Or.inl ⟨by rfl, by (intro w hSw; (try dsimp only at hSw); go_split_ands; go_simp; (try with_reducible rfl))⟩
                case hqz54 => exact fun _ _ _ h => h
                try simp only [Act.put, List.setIfInBounds_toArray, List.set_cons_zero, List.set_cons_succ]
                refine wpAnyH_take (i := 14) (oi := ?oiz55) (v := ?vz55) ?hiz55 ?haz55 ?hbz55 ?hcz55 ?hqz55 ?hyz55 (by assumption) ?restz55
                case hiz55 => (simp only [List.getElem?_toArray, List.getElem?_cons_zero, List.getElem?_cons_succ]; rfl)
                case haz55 => kernel_rfl
                case hbz55 => kernel_rfl
                case hcz55 => kernel_rfl
                case hyz55 => exact Or.inl ⟨by rfl, by (intro w hSw; (try dsimp only at hSw); go_split_ands; go_simp; (try with_reducible rfl))⟩
                case hqz55 => exact fun _ _ _ h => h
                try simp only [Act.put, List.setIfInBounds_toArray, List.set_cons_zero, List.set_cons_succ]
                refine wpAnyH_done (by kernel_rfl) ?_ _
                clear hHeld
                go_wp2_with fail
                go_roundw
                case rel => exact ⟨j + 1, S6, by omega, by go_num, hpd6d.below hb68, hP6d.kept (hb68.block _ hP6d.lt), hbt6d.trans (hb68.mono hbt6d.size), Hst6⟩
                case measure => simp [intOf]; omega
            · go_wp2_with fail
              go_ret
              exact ⟨rfl, hb⟩
end Go.Proofs.YtflaikjciachaaaDoor
