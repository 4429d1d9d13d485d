/- DiskDoes: whatever is done, each answer, and what is kept, left and counted, are the document's. -/
import Derived.Test.YthdclncgmhgmfaaAwake6
namespace Go.Proofs.Ythdclncgmhgmfaa
open Go.RowKit Go.Deep
set_option linter.unusedSimpArgs false
set_option linter.unusedVariables false

theorem one_is (B : Nat) (w : World) (d c : Nat) (S : DS) (kind n : Int) (A : Option Addr) (m k : Nat) (xs : List Int) (h : Both B w d c S) (hB : B ≤ w.heap.size) (hx : Sl w A m (u8s xs)) (hxb : ∀ x ∈ xs, 0 ≤ x ∧ x < 256) (hm : m ≤ 9223372036854775807)
    (hn : -9223372036854775808 ≤ n ∧ n ≤ 9223372036854775807) (hA : ∀ ad, A = some ad → 0 < m → ad.block < B) (hmany : S.waits.length ≤ 1000000) :
    Calls Try.prog 12 #[.pointer (some ⟨d, 0, none⟩), .pointer (some ⟨c, 0, none⟩), .agg #[.int .i64 kind, .int .i64 n, .slice A m k]] w (OnePost B w d c S) := by
  by_cases k1 : kind = 1
  · subst k1
    cases ho : S.off
    · by_cases hr : n < 0 ∨ (S.kept.length : Int) ≤ n
      · exact one_write_out B w d c S n A m k xs h hB hx hxb hm ho hr
      · obtain ⟨q, hq⟩ : ∃ q : Nat, n = (q : Int) := ⟨n.toNat, by omega⟩
        have hqn : q < S.kept.length := by omega
        by_cases hroom : S.isUse q = true ∨ (S.used : Int) < S.room
        · exact one_write_in B w d c S n A m k xs h hB hx hxb hm ho q hq hqn hroom hmany
        · have hu : S.isUse (q : Int) = false := by
            cases e : S.isUse (q : Int)
            · rfl
            · exact absurd (Or.inl e) hroom
          exact one_write_full B w d c S n A m k xs h hB hx hxb hm ho q hq hqn hu (by
            rcases Int.lt_or_le (S.used : Int) S.room with e | e
            · exact absurd (Or.inr e) hroom
            · exact e)
    · exact one_write_off B w d c S n A m k xs h hB hx hxb hm ho
  by_cases k2 : kind = 2
  · subst k2
    cases ho : S.off
    · cases hg : (S.goes 2).2
      · exact one_flush_in B w d c S n A m k h hB ho hg
      · exact one_flush_gone B w d c S n A m k h hB ho hg
    · exact one_flush_off B w d c S n A m k h hB ho
  by_cases k3 : kind = 3
  · subst k3
    cases ho : S.off
    · by_cases hr : n < 0 ∨ (S.kept.length : Int) ≤ n
      · exact one_read_out B w d c S n A m k h hB ho hr
      · obtain ⟨q, hq⟩ : ∃ q : Nat, n = (q : Int) := ⟨n.toNat, by omega⟩
        exact one_read_in B w d c S n A m k h hB ho q hq (by omega)
    · exact one_read_off B w d c S n A m k h hB ho
  by_cases k4 : kind = 4
  · subst k4
    exact one_cut B w d c S n A m k h hB hn
  by_cases k5 : kind = 5
  · subst k5
    exact one_crash B w d c S n A m k h hB xs hx hxb hm hA
  exact one_other B w d c S kind n A m k h hB ⟨k1, k2, k3, k4, k5⟩

/-- The asking regions: what is asked of both behind each step. -/
theorem Both.parts {B : Nat} {w : World} {d c : Nat} {S : DS} (h : Both B w d c S) : ∃ F G kb ib ob ck ci spk spi vw kv ps, PD F w d S ∧ RDAt G w c S kb ib ob ck ci spk spi vw kv ps ∧ RD G w c S := by
  obtain ⟨F, G, h1, h2, _⟩ := h
  obtain ⟨_, kb, ib, ob, ck, ci, spk, spi, vw, kv, ps, h3⟩ := id h2
  exact ⟨F, G, kb, ib, ob, ck, ci, spk, spi, vw, kv, ps, h1, h3, h2⟩

/-- Behind one thing done: what the loop's test reads. -/
theorem used_le (S : DS) : S.used ≤ S.kept.length := usedTo_le S _
theorem loaded_len (n : Nat) (room : Int) (xs : List Int) : (DS.loaded n room xs).kept.length = n ∧ (DS.loaded n room xs).waits = [] := by simp [DS.loaded]

theorem cells3_below {w w' : World} {a1 a2 a3 : Addr} {v1 v2 v3 : Value} (hb : Below w.heap.size w w') (h : w.cell? a1 = some v1 ∧ w.cell? a2 = some v2 ∧ w.cell? a3 = some v3) :
    w'.cell? a1 = some v1 ∧ w'.cell? a2 = some v2 ∧ w'.cell? a3 = some v3 :=
  ⟨(hb.cell (World.block_lt_of_cell? w _ h.1)).trans h.1, (hb.cell (World.block_lt_of_cell? w _ h.2.1)).trans h.2.1, (hb.cell (World.block_lt_of_cell? w _ h.2.2)).trans h.2.2⟩
theorem cells4_below {w w' : World} {a1 a2 a3 a4 : Addr} {v1 v2 v3 v4 : Value} (hb : Below w.heap.size w w') (h : w.cell? a1 = some v1 ∧ w.cell? a2 = some v2 ∧ w.cell? a3 = some v3 ∧ w.cell? a4 = some v4) :
    w'.cell? a1 = some v1 ∧ w'.cell? a2 = some v2 ∧ w'.cell? a3 = some v3 ∧ w'.cell? a4 = some v4 :=
  ⟨(hb.cell (World.block_lt_of_cell? w _ h.1)).trans h.1, cells3_below hb h.2⟩
theorem three_of {L : List Int} (h : L.length = 3) : ∃ a b c, L = [a, b, c] := by
  match L, h with
  | [a, b, c], _ => exact ⟨a, b, c, rfl⟩
theorem met_three {L : List Int} {a b c : Int} (h : L.take 3 = [a, b, c]) : mGet L 1 = a ∧ mGet L 2 = b ∧ mGet L 3 = c := by
  have g : ∀ (i : Nat), i < 3 → L[i]? = ([a, b, c] : List Int)[i]? := fun i hi => by rw [← h]; simp [List.getElem?_take, hi]
  exact ⟨mGet_at (i := 0) (by omega) (g 0 (by omega)), mGet_at (i := 1) (by omega) (g 1 (by omega)), mGet_at (i := 2) (by omega) (g 2 (by omega))⟩
theorem PMet.below {w w' : World} {b : Nat} {L : List Int} (h : PMet w b L) (hb : Below w.heap.size w w') : PMet w' b L := h.kept (hb.block _ h.lt)
theorem used_lo (S : DS) (h : DWf S) : IntKind.i64.wrap (S.room - (S.used : Int)) = S.room - (S.used : Int) := by
  have h1 : S.used ≤ S.kept.length := usedTo_le S _
  have := h.n2; have := h.room0; have := h.room1
  rw [wrap_i64']; unfold wrap64; omega

set_option maxRecDepth 100000 in
set_option maxHeartbeats 12800000 in
theorem diskDoes_walk (w : World) (Ai : Option Addr) (ni ci : Nat) (xs : List Int) (hxi : Sl w Ai ni (u8s xs)) (hxib : ∀ x ∈ xs, 0 ≤ x ∧ x < 256) (hni : ni ≤ 9223372036854775807) (hnic : ni ≤ ci)
    (s r : Int) (hs : -9223372036854775808 ≤ s ∧ s ≤ 9223372036854775807) (hr : -9223372036854775808 ≤ r ∧ r ≤ 9223372036854775807)
    (A : Option Addr) (n c0 : Nat) (V : Nat → Nat → Int) (Bv : Nat → Value) (Z : Nat → List Int) (hx : Dos w A n 2 V Bv Z) (hok : DosOk n 2 V Z) (hn : n ≤ 9223372036854775807) :
    Calls Try.prog 3 #[.slice Ai ni ci, .agg #[.int .i64 s, .int .i64 r], .slice A n c0] w fun e w' => e = .returned (.bool true) ∧ Below w.heap.size w w' := by
  obtain ⟨w1, hw1⟩ : ∃ w1, w1 = w.alloc (.cells #[.int .i64 s, .int .i64 r] 23) := ⟨_, rfl⟩
  have hb1 : Below w.heap.size w w1 := by rw [hw1]; exact below_alloc _ _
  have hP : Blk w1 w.heap.size 23 [.int .i64 s, .int .i64 r] := by rw [hw1]; exact Blk.new _ _ _
  have Hw1 := Lib.hid hw1
  clear hw1
  go_enter Try.func3, Try.ntmps3
  go_wp2_with fail
  rw [← Hw1.out]
  refine (awake6_any w1).mono ?_
  rintro e w2 ⟨rfl, hb2⟩
  have hP2 := hP.kept (hb2.block _ hP.lt)
  have hbt2 : Below w.heap.size w w2 := hb1.trans (hb2.mono hb1.size)
  have hc0 := hP2.cell (i := 0) rfl
  have hc1 := hP2.cell (i := 1) rfl
  go_wp2_with fail
  go_quiet (fail)
  have hbt3 : Below w.heap.size w (w2.drewN nq) := below_drewN hbt2 nq
  generalize w2.drewN nq = w3 at *
  clear hc0 hc1 hP2 hbt2 hb2 hP Hw1
  go_wp2_with fail
  refine (few_is w3 A n c0 V Bv Z (hx.below hbt3) hok hn).mono ?_
  rintro e w4 ⟨q, rfl, hq, hb4⟩
  have hbt4 : Below w.heap.size w w4 := hbt3.trans (hb4.mono hbt3.size)
  cases q
  · go_wp2
    go_ret
    exact ⟨rfl, hbt4⟩
  have hn40 : n ≤ 40 := hq rfl
  by_cases hbig : 3000 < ni
  · go_wp2
    go_ret
    exact ⟨rfl, hbt4⟩
  by_cases hs1 : 30 < s
  · by_cases hs2 : s ≤ 4096
    · have d1 : decide (30 < s) = true := decide_eq_true hs1
      have d2 : decide (s ≤ 4096) = true := decide_eq_true hs2
      go_wp2
      go_ret
      exact ⟨rfl, hbt4⟩
    · have d1 : decide (30 < s) = true := decide_eq_true hs1
      have d2 : decide (s ≤ 4096) = false := decide_eq_false hs2
      go_wp2_with fail
      refine (dload_bad w4 Ai ni ci s r hni (by omega)).mono ?_
      rintro e w5 ⟨rfl, hb5⟩
      go_wp2_with fail
      refine (rload_bad w5 Ai ni ci s r hni (by omega)).mono ?_
      rintro e w6 ⟨rfl, hw6⟩
      obtain rfl := hw6.symm
      go_wp2
      go_ret
      exact ⟨rfl, hbt4.trans (hb5.mono hbt4.size)⟩
  have d1 : decide (30 < s) = false := decide_eq_false hs1
  by_cases hbad : s < 1 ∨ 4096 < s ∨ r < 0 ∨ s < r ∨ 128 * s < (ni : Int)
  · go_wp2_with fail
    refine (dload_bad w4 Ai ni ci s r hni hbad).mono ?_
    rintro e w5 ⟨rfl, hb5⟩
    go_wp2_with fail
    refine (rload_bad w5 Ai ni ci s r hni hbad).mono ?_
    rintro e w6 ⟨rfl, hw6⟩
    obtain rfl := hw6.symm
    clear hbad
    go_wp2
    go_ret
    exact ⟨rfl, hbt4.trans (hb5.mono hbt4.size)⟩
  obtain ⟨sn, rfl⟩ : ∃ k : Nat, s = (k : Int) := ⟨s.toNat, by omega⟩
  obtain ⟨rn, rfl⟩ : ∃ k : Nat, r = (k : Int) := ⟨r.toNat, by omega⟩
  have g1 : 1 ≤ sn := by omega
  have g2 : sn ≤ 30 := by omega
  have g3 : rn ≤ sn := by omega
  have g4 : ni ≤ 128 * sn := by omega
  clear hbad
  have hx4 := hxi.below hbt4
  go_wp2_with fail
  refine (dload_in w4 Ai ni ci sn rn xs hx4 hnic hxib g1 (by omega) g3 g4).mono ?_
  rintro e w5 ⟨hb5, hres⟩
  have hbt5 : Below w.heap.size w w5 := hbt4.trans (hb5.mono hbt4.size)
  rcases hres with ⟨hsec, d, rfl, hF⟩ | ⟨hsec, rfl⟩
  rotate_left
  · go_wp2_with fail
    refine (rload_in w5 Ai ni ci sn rn xs (hxi.below hbt5) hxib g1 (by omega) g3 g4).mono ?_
    rintro e w6 ⟨hb6, hres⟩
    rcases hres with ⟨hsec2, c, rfl, hG⟩ | ⟨_, rfl⟩
    · omega
    · go_wp2
      go_ret
      exact ⟨rfl, hbt5.trans (hb6.mono hbt5.size)⟩
  go_wp2_with fail
  refine (rload_in w5 Ai ni ci sn rn xs (hxi.below hbt5) hxib g1 (by omega) g3 g4).mono ?_
  rintro e w6 ⟨hb6, hres⟩
  have hbt6 : Below w.heap.size w w6 := hbt5.trans (hb6.mono hbt5.size)
  rcases hres with ⟨_, c, rfl, hG⟩ | ⟨hsec2, rfl⟩
  rotate_left
  · omega
  have hboth : Both w.heap.size w6 d c (DS.loaded sn (rn : Int) xs) := ⟨_, _, hF.only (Only.of_below (F := Nothing) hb6) (fun _ _ hk => hk), hG, fun k hk hg => by omega, fun k hk => Nat.le_trans hbt4.size hk.1, fun k hk => Nat.le_trans hbt5.size hk.1⟩
  clear hF hG hsec
  have hS0 := loaded_len sn (rn : Int) xs
  obtain ⟨S0, hS0e⟩ : ∃ S, S = DS.loaded sn (rn : Int) xs := ⟨_, rfl⟩
  rw [← hS0e] at hboth hS0
  have hF6 := hboth
  obtain ⟨F, G, hFp, _⟩ := hF6
  clear hS0e
  go_wp2_with fail
  refine (dsize_is F w6 d S0 hFp).mono ?_
  rintro e w7 ⟨rfl, hO7⟩
  rw [show ((S0.kept.length : Nat) : Int) = (sn : Int) by rw [hS0.1]]
  have hboth7 := hboth.nothing hO7
  have hbt7 : Below w.heap.size w w7 := hbt6.trans (hO7.nothing_below hbt6.size)
  have hwl : S0.waits.length = 0 := by rw [hS0.2]; rfl
  clear hFp hboth hO7 hS0 hx4 hbt6 hbt5 hbt4 hbt3 hb6 hb5 hb4 hb1
  go_wp2_with fail
  go_loopw [71] (fun i wr => ∃ (k : Nat) (S : DS), k ≤ n ∧ i = .int .i64 k ∧ Both w.heap.size wr d c S ∧ Below w.heap.size w wr ∧ S.waits.length ≤ k) (fun i _ => n - (intOf i).toNat)
  case atStart => exact ⟨0, S0, by omega, rfl, hboth7, hbt7, by omega⟩
  case round =>
    clear hboth7 hbt7
    obtain ⟨k, S, hk, rfl, hboth, hb, hw⟩ := hrel
    by_cases hlt : k < n
    · obtain ⟨ad, A', c', rfl, hc0, hc1, hc2, hsl⟩ := hx.three hlt
      replace hc0 := (hb.cell (World.block_lt_of_cell? w _ hc0)).trans hc0
      replace hc1 := (hb.cell (World.block_lt_of_cell? w _ hc1)).trans hc1
      replace hc2 := (hb.cell (World.block_lt_of_cell? w _ hc2)).trans hc2
      have hokk := hok k hlt
      have hV1 := hokk.1 1 (by omega)
      have hA' : ∀ ad, A' = some ad → 0 < (Z k).length → ad.block < w.heap.size := by
        intro ad2 e hpos
        obtain ⟨ad3, u3, e3, hc3, _⟩ := hsl.num hpos
        have e4 : ad3 = ad2 := Option.some.inj (e3.symm.trans e)
        have := World.block_lt_of_cell? w _ hc3
        rw [addr_block, e4] at this
        exact this
      obtain ⟨kind, hkind⟩ : ∃ x, x = V k 0 := ⟨_, rfl⟩
      obtain ⟨num, hnum⟩ : ∃ x, x = V k 1 := ⟨_, rfl⟩
      obtain ⟨zs, hzs⟩ : ∃ x, x = Z k := ⟨_, rfl⟩
      rw [← hkind] at hc0
      rw [← hnum] at hc1 hV1
      rw [← hzs] at hc2 hsl hA' hokk
      obtain ⟨zl, hzl⟩ : ∃ x, x = zs.length := ⟨_, rfl⟩
      have hslm := hsl
      rw [← hzl] at hc2 hslm hA' hokk
      have hzlm := hokk.2.2
      have hzb := hokk.2.1
      clear hkind hnum hzs hokk hsl
      obtain ⟨wd, hwd⟩ : ∃ wd, wd = wr.alloc (.cells #[.int .i64 kind, .int .i64 num, .slice A' zl c'] 36) := ⟨_, rfl⟩
      have hbd : Below wr.heap.size wr wd := by rw [hwd]; exact below_alloc _ _
      have hPd : Blk wd wr.heap.size 36 [.int .i64 kind, .int .i64 num, .slice A' zl c'] := by rw [hwd]; exact Blk.new _ _ _
      have hbothd := hboth.below hbd
      have hbt := hb.trans (hbd.mono hb.size)
      have hsld := hslm.below hbt
      have Hone := Lib.hid (one_is w.heap.size wd.drew d c S kind num A' zl c' zs (hbothd.nothing ((Only.refl Nothing wd).drew)) hbt.size hsld hzb hzlm hV1 hA' (by omega))
      have hp0 := hPd.cell (i := 0) rfl
      have hp1 := hPd.cell (i := 1) rfl
      have hp2 := hPd.cell (i := 2) rfl
      have Hwd := Lib.hid hwd
      have Hslm := Lib.hid hslm
      clear hwd hslm hzl hsld hA' hzb
      go_wp2_with fail
      rw [← Hwd.out]
      clear Hwd hc0 hc1 hc2
      refine wp_region_held_drew (S := fun _ => True) (by kernel_rfl) trivial (fun hHeld => ?_)
      refine wpAnyH_take (i := 0) (oi := ?oiz1) (v := ?vz1) ?hiz1 ?haz1 ?hbz1 ?hcz1 ?hqz1 ?hyz1 (by assumption) ?restz1
      case hiz1 => (simp only [List.getElem?_toArray, List.getElem?_cons_zero, List.getElem?_cons_succ]; rfl)
      case haz1 => kernel_rfl
      case hbz1 => kernel_rfl
      case hcz1 => kernel_rfl
      case hyz1 => exact Or.inl ⟨by rfl, by (intro w hSw; (try dsimp only at hSw); go_split_ands; go_simp; (try with_reducible rfl))⟩
      case hqz1 => exact fun _ _ _ h => h
      try simp only [Act.put, List.setIfInBounds_toArray, List.set_cons_zero, List.set_cons_succ]
      refine wpAnyH_take (i := 1) (oi := ?oiz2) (v := ?vz2) ?hiz2 ?haz2 ?hbz2 ?hcz2 ?hqz2 ?hyz2 (by assumption) ?restz2
      case hiz2 => (simp only [List.getElem?_toArray, List.getElem?_cons_zero, List.getElem?_cons_succ]; rfl)
      case haz2 => kernel_rfl
      case hbz2 => kernel_rfl
      case hcz2 => kernel_rfl
      case hyz2 => exact Or.inl ⟨by rfl, by (intro w hSw; (try dsimp only at hSw); go_split_ands; go_simp; (try with_reducible rfl))⟩
      case hqz2 => exact fun _ _ _ h => h
      try simp only [Act.put, List.setIfInBounds_toArray, List.set_cons_zero, List.set_cons_succ]
      refine wpAnyH_ready (rs := [2]) (by kernel_rfl) (by simp) ?_
      refine AllReadyH.cons (o := ?oiz3) ?hiz3 (fun K hK => ?stepz3) AllReadyH.nil
      case hiz3 => (simp only [List.getElem?_toArray, List.getElem?_cons_zero, List.getElem?_cons_succ]; rfl)
      go_simp
      refine hK.out _ _ trivial (fun hHeld => ?_)
      clear hK K
      try simp only [Act.put, List.setIfInBounds_toArray, List.set_cons_zero, List.set_cons_succ]
      refine wpAnyH_ready (rs := [3]) (by kernel_rfl) (by simp) ?_
      refine AllReadyH.cons (o := ?oiz4) ?hiz4 (fun K hK => ?stepz4) AllReadyH.nil
      case hiz4 => (simp only [List.getElem?_toArray, List.getElem?_cons_zero, List.getElem?_cons_succ]; rfl)
      go_simp
      refine Hone.out.mono ?_
      rintro e w4 ⟨rfl, S', hboth4, hb4, hw4, hk4⟩
      obtain ⟨F, G, hF4, hG4, hFG, hFB, hGB⟩ := hboth4
      obtain ⟨kb, ib, ob, ck, ci2, spk, spi, vw, kv, ps, hA4⟩ := hG4.2
      obtain ⟨Aw, cw, rfl, hww⟩ := hA4.wait.form
      have h45 := hA4.head.cell (i := 5) rfl
      have h42 := hA4.head.cell (i := 2) rfl
      have h43 := hA4.head.cell (i := 3) rfl
      rw [hA4.psn] at h42
      have hps := hA4.psn
      have hwf := hF4.wf
      have hL4 : Below w4.heap.size w4 w4 := Below.refl _ _
      have hsub := used_lo S' hwf
      clear hww hA4 Hone
      obtain ⟨of, hof⟩ : ∃ o, o = S'.off := ⟨_, rfl⟩
      obtain ⟨wl, hwl'⟩ : ∃ o, o = S'.waits.length := ⟨_, rfl⟩
      obtain ⟨rm, hrm⟩ : ∃ o, o = S'.room := ⟨_, rfl⟩
      obtain ⟨us, hus⟩ : ∃ o, o = S'.used := ⟨_, rfl⟩
      rw [← hof] at h45
      rw [← hwl'] at h42
      rw [← hrm] at h43
      rw [← hrm, ← hus] at hsub
      have hT4 := And.intro h45 (And.intro h42 h43)
      have Hof := Lib.hid hof
      have Hwl' := Lib.hid hwl'
      have Hrm := Lib.hid hrm
      have Hus := Lib.hid hus
      clear hof hwl' hrm hus h45 h42 h43 hps
      refine hK.out _ _ trivial (fun hHeld => ?_)
      clear hK K
      try simp only [Act.put, List.setIfInBounds_toArray, List.set_cons_zero, List.set_cons_succ]
      refine wpAnyH_weaken (T := fun w0 => w0.cell? ⟨c, 5, none⟩ = some (.bool of) ∧ w0.cell? ⟨c, 2, none⟩ = some (.slice Aw wl cw) ∧ w0.cell? ⟨c, 3, none⟩ = some (.int .i64 rm)) (fun _ _ => trivial) _ _ _ _ ?_
      clear hHeld
      have hHeld := hT4
      refine wpAnyH_take (i := 4) (oi := ?oiz6) (v := ?vz6) ?hiz6 ?haz6 ?hbz6 ?hcz6 ?hqz6 ?hyz6 (by assumption) ?restz6
      case hiz6 => (simp only [List.getElem?_toArray, List.getElem?_cons_zero, List.getElem?_cons_succ]; rfl)
      case haz6 => kernel_rfl
      case hbz6 => kernel_rfl
      case hcz6 => kernel_rfl
      case hyz6 => exact Or.inl ⟨by rfl, by (intro w hSw; (try dsimp only at hSw); go_split_ands; go_simp; (try with_reducible rfl))⟩
      case hqz6 => exact fun _ _ _ h => h
      try simp only [Act.put, List.setIfInBounds_toArray, List.set_cons_zero, List.set_cons_succ]
      refine wpAnyH_take (i := 5) (oi := ?oiz7) (v := ?vz7) ?hiz7 ?haz7 ?hbz7 ?hcz7 ?hqz7 ?hyz7 (by assumption) ?restz7
      case hiz7 => (simp only [List.getElem?_toArray, List.getElem?_cons_zero, List.getElem?_cons_succ]; rfl)
      case haz7 => kernel_rfl
      case hbz7 => kernel_rfl
      case hcz7 => kernel_rfl
      case hyz7 => exact Or.inl ⟨by rfl, by (intro w hSw; (try dsimp only at hSw); go_split_ands; go_simp; (try with_reducible rfl))⟩
      case hqz7 => exact fun _ _ _ h => h
      try simp only [Act.put, List.setIfInBounds_toArray, List.set_cons_zero, List.set_cons_succ]
      refine wpAnyH_take (i := 6) (oi := ?oiz8) (v := ?vz8) ?hiz8 ?haz8 ?hbz8 ?hcz8 ?hqz8 ?hyz8 (by assumption) ?restz8
      case hiz8 => (simp only [List.getElem?_toArray, List.getElem?_cons_zero, List.getElem?_cons_succ]; rfl)
      case haz8 => kernel_rfl
      case hbz8 => kernel_rfl
      case hcz8 => kernel_rfl
      case hyz8 => exact Or.inl ⟨by rfl, by (intro w hSw; (try dsimp only at hSw); go_split_ands; go_simp; (try with_reducible rfl))⟩
      case hqz8 => exact fun _ _ _ h => h
      try simp only [Act.put, List.setIfInBounds_toArray, List.set_cons_zero, List.set_cons_succ]
      refine wpAnyH_take (i := 8) (oi := ?oiz9) (v := ?vz9) ?hiz9 ?haz9 ?hbz9 ?hcz9 ?hqz9 ?hyz9 (by assumption) ?restz9
      case hiz9 => (simp only [List.getElem?_toArray, List.getElem?_cons_zero, List.getElem?_cons_succ]; rfl)
      case haz9 => kernel_rfl
      case hbz9 => kernel_rfl
      case hcz9 => kernel_rfl
      case hyz9 => exact Or.inl ⟨by rfl, by (intro w hSw; (try dsimp only at hSw); go_split_ands; go_simp; (try with_reducible rfl))⟩
      case hqz9 => exact fun _ _ _ h => h
      try simp only [Act.put, List.setIfInBounds_toArray, List.set_cons_zero, List.set_cons_succ]
      refine wpAnyH_take (i := 9) (oi := ?oiz10) (v := ?vz10) ?hiz10 ?haz10 ?hbz10 ?hcz10 ?hqz10 ?hyz10 (by assumption) ?restz10
      case hiz10 => (simp only [List.getElem?_toArray, List.getElem?_cons_zero, List.getElem?_cons_succ]; rfl)
      case haz10 => kernel_rfl
      case hbz10 => kernel_rfl
      case hcz10 => kernel_rfl
      case hyz10 => exact Or.inl ⟨by rfl, by (intro w hSw; (try dsimp only at hSw); go_split_ands; go_simp; (try with_reducible rfl))⟩
      case hqz10 => exact fun _ _ _ h => h
      try simp only [Act.put, List.setIfInBounds_toArray, List.set_cons_zero, List.set_cons_succ]
      refine wpAnyH_take (i := 10) (oi := ?oiz11) (v := ?vz11) ?hiz11 ?haz11 ?hbz11 ?hcz11 ?hqz11 ?hyz11 (by assumption) ?restz11
      case hiz11 => (simp only [List.getElem?_toArray, List.getElem?_cons_zero, List.getElem?_cons_succ]; rfl)
      case haz11 => kernel_rfl
      case hbz11 => kernel_rfl
      case hcz11 => kernel_rfl
      case hyz11 => exact Or.inl ⟨by rfl, by (intro w hSw; (try dsimp only at hSw); go_split_ands; go_simp; (try with_reducible rfl))⟩
      case hqz11 => exact fun _ _ _ h => h
      try simp only [Act.put, List.setIfInBounds_toArray, List.set_cons_zero, List.set_cons_succ]
      refine wpAnyH_take (i := 11) (oi := ?oiz12) (v := ?vz12) ?hiz12 ?haz12 ?hbz12 ?hcz12 ?hqz12 ?hyz12 (by assumption) ?restz12
      case hiz12 => (simp only [List.getElem?_toArray, List.getElem?_cons_zero, List.getElem?_cons_succ]; rfl)
      case haz12 => kernel_rfl
      case hbz12 => kernel_rfl
      case hcz12 => kernel_rfl
      case hyz12 => exact Or.inl ⟨by rfl, by (intro w hSw; (try dsimp only at hSw); go_split_ands; go_simp; (try with_reducible rfl))⟩
      case hqz12 => exact fun _ _ _ h => h
      try simp only [Act.put, List.setIfInBounds_toArray, List.set_cons_zero, List.set_cons_succ]
      refine wpAnyH_ready (rs := [7]) (by kernel_rfl) (by simp) ?_
      refine AllReadyH.cons (o := ?oiz13) ?hiz13 (fun K hK => ?stepz13) AllReadyH.nil
      case hiz13 => (simp only [List.getElem?_toArray, List.getElem?_cons_zero, List.getElem?_cons_succ]; rfl)
      go_simp
      refine (don_is F w4 d S' hF4).mono ?_
      rintro e w5 ⟨rfl, hO5⟩
      have hF5 := hF4.only hO5 (fun _ _ hk => hk)
      have hG5 := hG4.only hO5 (fun _ _ hk => hk)
      have hT5 := cells3_below (hO5.nothing_below (Nat.le_refl _)) hT4
      have hL5 := hL4.trans ((hO5.nothing_below (Nat.le_refl _)).mono hL4.size)
      rw [← Hof.out]
      refine hK.out _ _ hT5 (fun hHeld => ?_)
      clear hK K
      try simp only [Act.put, List.setIfInBounds_toArray, List.set_cons_zero, List.set_cons_succ]
      refine wpAnyH_take (i := 12) (oi := ?oiz14) (v := ?vz14) ?hiz14 ?haz14 ?hbz14 ?hcz14 ?hqz14 ?hyz14 (by assumption) ?restz14
      case hiz14 => (simp only [List.getElem?_toArray, List.getElem?_cons_zero, List.getElem?_cons_succ]; rfl)
      case haz14 => kernel_rfl
      case hbz14 => kernel_rfl
      case hcz14 => kernel_rfl
      case hyz14 => exact Or.inl ⟨by rfl, by (intro w hSw; (try dsimp only at hSw); go_split_ands; go_simp; (try with_reducible rfl))⟩
      case hqz14 => exact fun _ _ _ h => h
      try simp only [Act.put, List.setIfInBounds_toArray, List.set_cons_zero, List.set_cons_succ]
      refine wpAnyH_take (i := 13) (oi := ?oiz15) (v := ?vz15) ?hiz15 ?haz15 ?hbz15 ?hcz15 ?hqz15 ?hyz15 (by assumption) ?restz15
      case hiz15 => (simp only [List.getElem?_toArray, List.getElem?_cons_zero, List.getElem?_cons_succ]; rfl)
      case haz15 => kernel_rfl
      case hbz15 => kernel_rfl
      case hcz15 => kernel_rfl
      case hyz15 => exact Or.inl ⟨by rfl, by (intro w hSw; (try dsimp only at hSw); go_split_ands; go_simp; (try with_reducible rfl))⟩
      case hqz15 => exact fun _ _ _ h => h
      try simp only [Act.put, List.setIfInBounds_toArray, List.set_cons_zero, List.set_cons_succ]
      refine wpAnyH_take (i := 14) (oi := ?oiz16) (v := ?vz16) ?hiz16 ?haz16 ?hbz16 ?hcz16 ?hqz16 ?hyz16 (by assumption) ?restz16
      case hiz16 => (simp only [List.getElem?_toArray, List.getElem?_cons_zero, List.getElem?_cons_succ]; rfl)
      case haz16 => kernel_rfl
      case hbz16 => kernel_rfl
      case hcz16 => kernel_rfl
      case hyz16 => exact Or.inl ⟨by rfl, by (intro w hSw; (try dsimp only at hSw); go_split_ands; go_simp; (try with_reducible rfl))⟩
      case hqz16 => exact fun _ _ _ h => h
      try simp only [Act.put, List.setIfInBounds_toArray, List.set_cons_zero, List.set_cons_succ]
      refine wpAnyH_take (i := 15) (oi := ?oiz17) (v := ?vz17) ?hiz17 ?haz17 ?hbz17 ?hcz17 ?hqz17 ?hyz17 (by assumption) ?restz17
      case hiz17 => (simp only [List.getElem?_toArray, List.getElem?_cons_zero, List.getElem?_cons_succ]; rfl)
      case haz17 => kernel_rfl
      case hbz17 => kernel_rfl
      case hcz17 => kernel_rfl
      case hyz17 => exact Or.inl ⟨by rfl, by (intro w hSw; (try dsimp only at hSw); go_split_ands; go_simp; (try with_reducible rfl))⟩
      case hqz17 => exact fun _ _ _ h => h
      try simp only [Act.put, List.setIfInBounds_toArray, List.set_cons_zero, List.set_cons_succ]
      refine wpAnyH_take (i := 17) (oi := ?oiz18) (v := ?vz18) ?hiz18 ?haz18 ?hbz18 ?hcz18 ?hqz18 ?hyz18 (by assumption) ?restz18
      case hiz18 => (simp only [List.getElem?_toArray, List.getElem?_cons_zero, List.getElem?_cons_succ]; rfl)
      case haz18 => kernel_rfl
      case hbz18 => kernel_rfl
      case hcz18 => kernel_rfl
      case hyz18 => exact Or.inl ⟨by rfl, by (intro w hSw; (try dsimp only at hSw); go_split_ands; go_simp; (try with_reducible rfl))⟩
      case hqz18 => exact fun _ _ _ h => h
      try simp only [Act.put, List.setIfInBounds_toArray, List.set_cons_zero, List.set_cons_succ]
      refine wpAnyH_take (i := 18) (oi := ?oiz19) (v := ?vz19) ?hiz19 ?haz19 ?hbz19 ?hcz19 ?hqz19 ?hyz19 (by assumption) ?restz19
      case hiz19 => (simp only [List.getElem?_toArray, List.getElem?_cons_zero, List.getElem?_cons_succ]; rfl)
      case haz19 => kernel_rfl
      case hbz19 => kernel_rfl
      case hcz19 => kernel_rfl
      case hyz19 => exact Or.inl ⟨by rfl, by (intro w hSw; (try dsimp only at hSw); go_split_ands; go_simp; (try with_reducible rfl))⟩
      case hqz19 => exact fun _ _ _ h => h
      try simp only [Act.put, List.setIfInBounds_toArray, List.set_cons_zero, List.set_cons_succ]
      refine wpAnyH_take (i := 19) (oi := ?oiz20) (v := ?vz20) ?hiz20 ?haz20 ?hbz20 ?hcz20 ?hqz20 ?hyz20 (by assumption) ?restz20
      case hiz20 => (simp only [List.getElem?_toArray, List.getElem?_cons_zero, List.getElem?_cons_succ]; rfl)
      case haz20 => kernel_rfl
      case hbz20 => kernel_rfl
      case hcz20 => kernel_rfl
      case hyz20 => exact Or.inl ⟨by rfl, by (intro w hSw; (try dsimp only at hSw); go_split_ands; go_simp; (try with_reducible rfl))⟩
      case hqz20 => exact fun _ _ _ h => h
      try simp only [Act.put, List.setIfInBounds_toArray, List.set_cons_zero, List.set_cons_succ]
      refine wpAnyH_take (i := 20) (oi := ?oiz21) (v := ?vz21) ?hiz21 ?haz21 ?hbz21 ?hcz21 ?hqz21 ?hyz21 (by assumption) ?restz21
      case hiz21 => (simp only [List.getElem?_toArray, List.getElem?_cons_zero, List.getElem?_cons_succ]; rfl)
      case haz21 => kernel_rfl
      case hbz21 => kernel_rfl
      case hcz21 => kernel_rfl
      case hyz21 => exact Or.inl ⟨by rfl, by (intro w hSw; (try dsimp only at hSw); go_split_ands; go_simp; (try with_reducible rfl))⟩
      case hqz21 => exact fun _ _ _ h => h
      try simp only [Act.put, List.setIfInBounds_toArray, List.set_cons_zero, List.set_cons_succ]
      refine wpAnyH_take (i := 21) (oi := ?oiz22) (v := ?vz22) ?hiz22 ?haz22 ?hbz22 ?hcz22 ?hqz22 ?hyz22 (by assumption) ?restz22
      case hiz22 => (simp only [List.getElem?_toArray, List.getElem?_cons_zero, List.getElem?_cons_succ]; rfl)
      case haz22 => kernel_rfl
      case hbz22 => kernel_rfl
      case hcz22 => kernel_rfl
      case hyz22 => exact Or.inl ⟨by rfl, by (intro w hSw; (try dsimp only at hSw); go_split_ands; go_simp; (try with_reducible rfl))⟩
      case hqz22 => exact fun _ _ _ h => h
      try simp only [Act.put, List.setIfInBounds_toArray, List.set_cons_zero, List.set_cons_succ]
      refine wpAnyH_ready (rs := [16]) (by kernel_rfl) (by simp) ?_
      refine AllReadyH.cons (o := ?oiz23) ?hiz23 (fun K hK => ?stepz23) AllReadyH.nil
      case hiz23 => (simp only [List.getElem?_toArray, List.getElem?_cons_zero, List.getElem?_cons_succ]; rfl)
      go_simp
      refine (dwaits_is F w5 d S' hF5).mono ?_
      rintro e w6 ⟨rfl, hO6⟩
      have hF6 := hF5.only hO6 (fun _ _ hk => hk)
      have hG6 := hG5.only hO6 (fun _ _ hk => hk)
      have hT6 := cells3_below (hO6.nothing_below (Nat.le_refl _)) hT5
      have hL6 := hL5.trans ((hO6.nothing_below (Nat.le_refl _)).mono hL5.size)
      rw [← Hwl'.out]
      refine hK.out _ _ hT6 (fun hHeld => ?_)
      clear hK K
      try simp only [Act.put, List.setIfInBounds_toArray, List.set_cons_zero, List.set_cons_succ]
      refine wpAnyH_take (i := 22) (oi := ?oiz24) (v := ?vz24) ?hiz24 ?haz24 ?hbz24 ?hcz24 ?hqz24 ?hyz24 (by assumption) ?restz24
      case hiz24 => (simp only [List.getElem?_toArray, List.getElem?_cons_zero, List.getElem?_cons_succ]; rfl)
      case haz24 => kernel_rfl
      case hbz24 => kernel_rfl
      case hcz24 => kernel_rfl
      case hyz24 => exact Or.inl ⟨by rfl, by (intro w hSw; (try dsimp only at hSw); go_split_ands; go_simp; (try with_reducible rfl))⟩
      case hqz24 => exact fun _ _ _ h => h
      try simp only [Act.put, List.setIfInBounds_toArray, List.set_cons_zero, List.set_cons_succ]
      refine wpAnyH_take (i := 23) (oi := ?oiz25) (v := ?vz25) ?hiz25 ?haz25 ?hbz25 ?hcz25 ?hqz25 ?hyz25 (by assumption) ?restz25
      case hiz25 => (simp only [List.getElem?_toArray, List.getElem?_cons_zero, List.getElem?_cons_succ]; rfl)
      case haz25 => kernel_rfl
      case hbz25 => kernel_rfl
      case hcz25 => kernel_rfl
      case hyz25 => exact Or.inl ⟨by rfl, by (intro w hSw; (try dsimp only at hSw); go_split_ands; go_simp; (try with_reducible rfl))⟩
      case hqz25 => exact fun _ _ _ h => h
      try simp only [Act.put, List.setIfInBounds_toArray, List.set_cons_zero, List.set_cons_succ]
      refine wpAnyH_take (i := 24) (oi := ?oiz26) (v := ?vz26) ?hiz26 ?haz26 ?hbz26 ?hcz26 ?hqz26 ?hyz26 (by assumption) ?restz26
      case hiz26 => (simp only [List.getElem?_toArray, List.getElem?_cons_zero, List.getElem?_cons_succ]; rfl)
      case haz26 => kernel_rfl
      case hbz26 => kernel_rfl
      case hcz26 => kernel_rfl
      case hyz26 => exact Or.inl ⟨by rfl, by (intro w hSw; (try dsimp only at hSw); go_split_ands; go_simp; (try with_reducible rfl))⟩
      case hqz26 => exact fun _ _ _ h => h
      try simp only [Act.put, List.setIfInBounds_toArray, List.set_cons_zero, List.set_cons_succ]
      refine wpAnyH_take (i := 25) (oi := ?oiz27) (v := ?vz27) ?hiz27 ?haz27 ?hbz27 ?hcz27 ?hqz27 ?hyz27 (by assumption) ?restz27
      case hiz27 => (simp only [List.getElem?_toArray, List.getElem?_cons_zero, List.getElem?_cons_succ]; rfl)
      case haz27 => kernel_rfl
      case hbz27 => kernel_rfl
      case hcz27 => kernel_rfl
      case hyz27 => exact Or.inl ⟨by rfl, by (intro w hSw; (try dsimp only at hSw); go_split_ands; go_simp; (try with_reducible rfl))⟩
      case hqz27 => exact fun _ _ _ h => h
      try simp only [Act.put, List.setIfInBounds_toArray, List.set_cons_zero, List.set_cons_succ]
      refine wpAnyH_take (i := 27) (oi := ?oiz28) (v := ?vz28) ?hiz28 ?haz28 ?hbz28 ?hcz28 ?hqz28 ?hyz28 (by assumption) ?restz28
      case hiz28 => (simp only [List.getElem?_toArray, List.getElem?_cons_zero, List.getElem?_cons_succ]; rfl)
      case haz28 => kernel_rfl
      case hbz28 => kernel_rfl
      case hcz28 => kernel_rfl
      case hyz28 => exact Or.inl ⟨by rfl, by (intro w hSw; (try dsimp only at hSw); go_split_ands; go_simp; (try with_reducible rfl))⟩
      case hqz28 => exact fun _ _ _ h => h
      try simp only [Act.put, List.setIfInBounds_toArray, List.set_cons_zero, List.set_cons_succ]
      refine wpAnyH_take (i := 28) (oi := ?oiz29) (v := ?vz29) ?hiz29 ?haz29 ?hbz29 ?hcz29 ?hqz29 ?hyz29 (by assumption) ?restz29
      case hiz29 => (simp only [List.getElem?_toArray, List.getElem?_cons_zero, List.getElem?_cons_succ]; rfl)
      case haz29 => kernel_rfl
      case hbz29 => kernel_rfl
      case hcz29 => kernel_rfl
      case hyz29 => exact Or.inl ⟨by rfl, by (intro w hSw; (try dsimp only at hSw); go_split_ands; go_simp; (try with_reducible rfl))⟩
      case hqz29 => exact fun _ _ _ h => h
      try simp only [Act.put, List.setIfInBounds_toArray, List.set_cons_zero, List.set_cons_succ]
      refine wpAnyH_take (i := 29) (oi := ?oiz30) (v := ?vz30) ?hiz30 ?haz30 ?hbz30 ?hcz30 ?hqz30 ?hyz30 (by assumption) ?restz30
      case hiz30 => (simp only [List.getElem?_toArray, List.getElem?_cons_zero, List.getElem?_cons_succ]; rfl)
      case haz30 => kernel_rfl
      case hbz30 => kernel_rfl
      case hcz30 => kernel_rfl
      case hyz30 => exact Or.inl ⟨by rfl, by (intro w hSw; (try dsimp only at hSw); go_split_ands; go_simp; (try with_reducible rfl))⟩
      case hqz30 => exact fun _ _ _ h => h
      try simp only [Act.put, List.setIfInBounds_toArray, List.set_cons_zero, List.set_cons_succ]
      refine wpAnyH_take (i := 30) (oi := ?oiz31) (v := ?vz31) ?hiz31 ?haz31 ?hbz31 ?hcz31 ?hqz31 ?hyz31 (by assumption) ?restz31
      case hiz31 => (simp only [List.getElem?_toArray, List.getElem?_cons_zero, List.getElem?_cons_succ]; rfl)
      case haz31 => kernel_rfl
      case hbz31 => kernel_rfl
      case hcz31 => kernel_rfl
      case hyz31 => exact Or.inl ⟨by rfl, by (intro w hSw; (try dsimp only at hSw); go_split_ands; go_simp; (try with_reducible rfl))⟩
      case hqz31 => exact fun _ _ _ h => h
      try simp only [Act.put, List.setIfInBounds_toArray, List.set_cons_zero, List.set_cons_succ]
      refine wpAnyH_take (i := 31) (oi := ?oiz32) (v := ?vz32) ?hiz32 ?haz32 ?hbz32 ?hcz32 ?hqz32 ?hyz32 (by assumption) ?restz32
      case hiz32 => (simp only [List.getElem?_toArray, List.getElem?_cons_zero, List.getElem?_cons_succ]; rfl)
      case haz32 => kernel_rfl
      case hbz32 => kernel_rfl
      case hcz32 => kernel_rfl
      case hyz32 => exact Or.inl ⟨by rfl, by (intro w hSw; (try dsimp only at hSw); go_split_ands; go_simp; (try with_reducible rfl))⟩
      case hqz32 => exact fun _ _ _ h => h
      try simp only [Act.put, List.setIfInBounds_toArray, List.set_cons_zero, List.set_cons_succ]
      refine wpAnyH_ready (rs := [26]) (by kernel_rfl) (by simp) ?_
      refine AllReadyH.cons (o := ?oiz33) ?hiz33 (fun K hK => ?stepz33) AllReadyH.nil
      case hiz33 => (simp only [List.getElem?_toArray, List.getElem?_cons_zero, List.getElem?_cons_succ]; rfl)
      go_simp
      refine (dleft_is F w6 d S' hF6).mono ?_
      rintro e w7 ⟨rfl, hO7⟩
      have hF7 := hF6.only hO7 (fun _ _ hk => hk)
      have hG7 := hG6.only hO7 (fun _ _ hk => hk)
      have hT7 := cells3_below (hO7.nothing_below (Nat.le_refl _)) hT6
      have hL7 := hL6.trans ((hO7.nothing_below (Nat.le_refl _)).mono hL6.size)
      rw [← Hrm.out, ← Hus.out]
      refine hK.out _ _ hT7 (fun hHeld => ?_)
      clear hK K
      try simp only [Act.put, List.setIfInBounds_toArray, List.set_cons_zero, List.set_cons_succ]
      refine wpAnyH_ready (rs := [32]) (by kernel_rfl) (by simp) ?_
      refine AllReadyH.cons (o := ?oiz34) ?hiz34 (fun K hK => ?stepz34) AllReadyH.nil
      case hiz34 => (simp only [List.getElem?_toArray, List.getElem?_cons_zero, List.getElem?_cons_succ]; rfl)
      go_simp
      refine (rused_is G w7 c S' hG7).mono ?_
      rintro e w8 ⟨rfl, hW8⟩
      obtain rfl := hW8.symm
      rw [← Hus.out]
      refine hK.out _ _ hT7 (fun hHeld => ?_)
      clear hK K
      try simp only [Act.put, List.setIfInBounds_toArray, List.set_cons_zero, List.set_cons_succ]
      refine wpAnyH_take (i := 33) (oi := ?oiz35) (v := ?vz35) ?hiz35 ?haz35 ?hbz35 ?hcz35 ?hqz35 ?hyz35 (by assumption) ?restz35
      case hiz35 => (simp only [List.getElem?_toArray, List.getElem?_cons_zero, List.getElem?_cons_succ]; rfl)
      case haz35 => kernel_rfl
      case hbz35 => kernel_rfl
      case hcz35 => kernel_rfl
      case hyz35 => exact Or.inl ⟨by rfl, by (intro w hSw; (try dsimp only at hSw); go_split_ands; go_simp; (try with_reducible rfl))⟩
      case hqz35 => exact fun _ _ _ h => h
      try simp only [Act.put, List.setIfInBounds_toArray, List.set_cons_zero, List.set_cons_succ]
      refine wpAnyH_take (i := 34) (oi := ?oiz36) (v := ?vz36) ?hiz36 ?haz36 ?hbz36 ?hcz36 ?hqz36 ?hyz36 (by assumption) ?restz36
      case hiz36 => (simp only [List.getElem?_toArray, List.getElem?_cons_zero, List.getElem?_cons_succ]; rfl)
      case haz36 => kernel_rfl
      case hbz36 => kernel_rfl
      case hcz36 => kernel_rfl
      case hyz36 => exact Or.inl ⟨by rfl, by (intro w hSw; (try dsimp only at hSw); go_split_ands; go_simp; (try with_reducible rfl))⟩
      case hqz36 => exact fun _ _ _ h => h
      try simp only [Act.put, List.setIfInBounds_toArray, List.set_cons_zero, List.set_cons_succ]
      refine wpAnyH_take (i := 35) (oi := ?oiz37) (v := ?vz37) ?hiz37 ?haz37 ?hbz37 ?hcz37 ?hqz37 ?hyz37 (by assumption) ?restz37
      case hiz37 => (simp only [List.getElem?_toArray, List.getElem?_cons_zero, List.getElem?_cons_succ]; rfl)
      case haz37 => kernel_rfl
      case hbz37 => kernel_rfl
      case hcz37 => kernel_rfl
      case hyz37 => exact Or.inl ⟨by rfl, by (intro w hSw; (try dsimp only at hSw); go_split_ands; go_simp; (try with_reducible rfl))⟩
      case hqz37 => exact fun _ _ _ h => h
      try simp only [Act.put, List.setIfInBounds_toArray, List.set_cons_zero, List.set_cons_succ]
      refine wpAnyH_done (by kernel_rfl) ?_ _
      clear hHeld Hslm hp0 hp1 hp2 hPd hbothd
      try go_wp2_with fail
      exact ⟨⟨k + 1, S', by omega, rfl, ⟨F, G, hF7, hG7, hFG, hFB, hGB⟩, ((hbt.trans (below_drewN (Below.refl _ _) 1)).trans hb4).trans (hL7.mono (Nat.le_trans hbt.size hb4.size)), by omega⟩, by simp only [intOf]; omega⟩
    · obtain ⟨F, G, hF0, hG0, hFG, hFB, hGB⟩ := hboth
      have hwf := hF0.wf
      obtain ⟨o0, o1, o2, hops⟩ := three_of hwf.ops3
      go_wp2_with fail
      refine (dmeter_is F wr d S hF0).mono ?_
      rintro e w1 ⟨mb, L, rfl, hP1, hL1, hO1⟩
      rw [hops] at hL1
      have he := met_three hL1
      have hF1 := hF0.only hO1 (fun _ _ hk => hk)
      have hG1 := hG0.only hO1 (fun _ _ hk => hk)
      have hB1 := hb.trans ((hO1.nothing_below (Nat.le_refl _)).mono hb.size)
      go_wp2_with fail
      obtain ⟨kb, ib, ob, ck, ci2, spk, spi, vw, kv, ps, hA1⟩ := hG1.2
      have hop := hA1.ops
      rw [hops] at hop
      have hT1 := And.intro (hA1.head.cell (i := 6) rfl) (And.intro (hop.cell (i := 0) rfl) (And.intro (hop.cell (i := 1) rfl) (hop.cell (i := 2) rfl)))
      have hn2 := hwf.n2
      obtain ⟨xs5, hxs5⟩ : ∃ x, x = S.kept.flatten := ⟨_, rfl⟩
      obtain ⟨kn, hkn⟩ : ∃ x, x = 128 * S.kept.length := ⟨_, rfl⟩
      have hknm : kn ≤ 9223372036854775807 := by omega
      clear hA1 hop hL1 hops hO1 hF0 hG0
      have Hxs5 := Lib.hid hxs5
      have Hkn := Lib.hid hkn
      have Hknm := Lib.hid hknm
      clear hxs5 hkn hknm
      refine wp_region_held_drew (S := fun w0 => w0.cell? ⟨c, 6, none⟩ = some (.slice (some ⟨ob, 0, none⟩) 3 3) ∧ w0.cell? ⟨ob, 0, none⟩ = some (.int .i64 o0) ∧ w0.cell? ⟨ob, 1, none⟩ = some (.int .i64 o1) ∧ w0.cell? ⟨ob, 2, none⟩ = some (.int .i64 o2)) (by kernel_rfl) hT1 (fun hHeld => ?_)
      refine wpAnyH_take (i := 0) (oi := ?oiz39) (v := ?vz39) ?hiz39 ?haz39 ?hbz39 ?hcz39 ?hqz39 ?hyz39 (by assumption) ?restz39
      case hiz39 => (simp only [List.getElem?_toArray, List.getElem?_cons_zero, List.getElem?_cons_succ]; rfl)
      case haz39 => kernel_rfl
      case hbz39 => kernel_rfl
      case hcz39 => kernel_rfl
      case hyz39 => exact Or.inl ⟨by rfl, by (intro w hSw; (try dsimp only at hSw); go_split_ands; go_simp; (try with_reducible rfl))⟩
      case hqz39 => exact fun _ _ _ h => h
      try simp only [Act.put, List.setIfInBounds_toArray, List.set_cons_zero, List.set_cons_succ]
      refine wpAnyH_take (i := 2) (oi := ?oiz40) (v := ?vz40) ?hiz40 ?haz40 ?hbz40 ?hcz40 ?hqz40 ?hyz40 (by assumption) ?restz40
      case hiz40 => (simp only [List.getElem?_toArray, List.getElem?_cons_zero, List.getElem?_cons_succ]; rfl)
      case haz40 => kernel_rfl
      case hbz40 => kernel_rfl
      case hcz40 => kernel_rfl
      case hyz40 => exact Or.inl ⟨by rfl, by (intro w hSw; (try dsimp only at hSw); go_split_ands; go_simp; (try with_reducible rfl))⟩
      case hqz40 => exact fun _ _ _ h => h
      try simp only [Act.put, List.setIfInBounds_toArray, List.set_cons_zero, List.set_cons_succ]
      refine wpAnyH_ready (rs := [1]) (by kernel_rfl) (by simp) ?_
      refine AllReadyH.cons (o := ?oiz41) ?hiz41 (fun K hK => ?stepz41) AllReadyH.nil
      case hiz41 => (simp only [List.getElem?_toArray, List.getElem?_cons_zero, List.getElem?_cons_succ]; rfl)
      go_simp
      refine (dimage_is F w1.drew d S hF1.drew).mono ?_
      rintro e w3 ⟨v3, rfl, hv3, hb3⟩
      rw [← Hkn.out, ← Hxs5.out] at hv3
      have hT3 := cells4_below hb3 hT1
      have hP3 : PMet w3 mb L := PMet.below (w := w1.drew) hP1 hb3
      have hG3 := (hG1.only ((Only.refl Nothing w1).drew) (fun _ _ hk => hk)).only (Only.of_below (F := Nothing) hb3) (fun _ _ hk => hk)
      have hB3 := (hB1.trans (below_drewN (Below.refl _ _) 1)).trans (hb3.mono hB1.size)
      obtain ⟨A3, c3, rfl, hs3⟩ := own_form hv3
      clear hb3 hv3
      refine hK.out _ _ hT3 (fun hHeld => ?_)
      clear hK K
      try simp only [Act.put, List.setIfInBounds_toArray, List.set_cons_zero, List.set_cons_succ]
      refine wpAnyH_ready (rs := [3]) (by kernel_rfl) (by simp) ?_
      refine AllReadyH.cons (o := ?oiz42) ?hiz42 (fun K hK => ?stepz42) AllReadyH.nil
      case hiz42 => (simp only [List.getElem?_toArray, List.getElem?_cons_zero, List.getElem?_cons_succ]; rfl)
      go_simp
      refine (rimage_is G w3 c S hG3).mono ?_
      rintro e w4 ⟨v4, rfl, hv4, hb4⟩
      rw [← Hkn.out, ← Hxs5.out] at hv4
      have hT4 := cells4_below hb4 hT3
      have hP4 := hP3.below hb4
      have hs34 := hs3.below hb4
      have hB4 := hB3.trans (hb4.mono hB3.size)
      obtain ⟨A4, c4, rfl, hs4⟩ := own_form hv4
      clear hb4 hv4 hs3
      refine hK.out _ _ hT4 (fun hHeld => ?_)
      clear hK K
      try simp only [Act.put, List.setIfInBounds_toArray, List.set_cons_zero, List.set_cons_succ]
      refine wpAnyH_ready (rs := [4]) (by kernel_rfl) (by simp) ?_
      refine AllReadyH.cons (o := ?oiz43) ?hiz43 (fun K hK => ?stepz43) AllReadyH.nil
      case hiz43 => (simp only [List.getElem?_toArray, List.getElem?_cons_zero, List.getElem?_cons_succ]; rfl)
      go_simp
      refine (same_any A3 A4 kn kn c3 c4 xs5 xs5 w4 hs34 hs4 Hknm.out Hknm.out).mono ?_
      rintro e w5 ⟨rfl, q5, hw5⟩
      have hb5 : Below w4.heap.size w4 w5 := by rw [hw5]; exact below_drewN (Below.refl _ _) q5
      have hT5 := cells4_below hb5 hT4
      have hP5 := hP4.below hb5
      have hB5 := hB4.trans (hb5.mono hB4.size)
      rw [show decide (xs5 = xs5) = true from decide_eq_true rfl]
      clear hw5 hb5 hs34 hs4
      refine hK.out _ _ hT5 (fun hHeld => ?_)
      clear hK K
      try simp only [Act.put, List.setIfInBounds_toArray, List.set_cons_zero, List.set_cons_succ]
      refine wpAnyH_take (i := 5) (oi := ?oiz44) (v := ?vz44) ?hiz44 ?haz44 ?hbz44 ?hcz44 ?hqz44 ?hyz44 (by assumption) ?restz44
      case hiz44 => (simp only [List.getElem?_toArray, List.getElem?_cons_zero, List.getElem?_cons_succ]; rfl)
      case haz44 => kernel_rfl
      case hbz44 => kernel_rfl
      case hcz44 => kernel_rfl
      case hyz44 => exact Or.inl ⟨by rfl, by (intro w hSw; (try dsimp only at hSw); go_split_ands; go_simp; (try with_reducible rfl))⟩
      case hqz44 => exact fun _ _ _ h => h
      try simp only [Act.put, List.setIfInBounds_toArray, List.set_cons_zero, List.set_cons_succ]
      refine wpAnyH_take (i := 6) (oi := ?oiz45) (v := ?vz45) ?hiz45 ?haz45 ?hbz45 ?hcz45 ?hqz45 ?hyz45 (by assumption) ?restz45
      case hiz45 => (simp only [List.getElem?_toArray, List.getElem?_cons_zero, List.getElem?_cons_succ]; rfl)
      case haz45 => kernel_rfl
      case hbz45 => kernel_rfl
      case hcz45 => kernel_rfl
      case hyz45 => exact Or.inl ⟨by rfl, by (intro w hSw; (try dsimp only at hSw); go_split_ands; go_simp; (try with_reducible rfl))⟩
      case hqz45 => exact fun _ _ _ h => h
      try simp only [Act.put, List.setIfInBounds_toArray, List.set_cons_zero, List.set_cons_succ]
      refine wpAnyH_take (i := 8) (oi := ?oiz46) (v := ?vz46) ?hiz46 ?haz46 ?hbz46 ?hcz46 ?hqz46 ?hyz46 (by assumption) ?restz46
      case hiz46 => (simp only [List.getElem?_toArray, List.getElem?_cons_zero, List.getElem?_cons_succ]; rfl)
      case haz46 => kernel_rfl
      case hbz46 => kernel_rfl
      case hcz46 => kernel_rfl
      case hyz46 => exact Or.inl ⟨by rfl, by (intro w hSw; (try dsimp only at hSw); go_split_ands; go_simp; (try with_reducible rfl))⟩
      case hqz46 => exact fun _ _ _ h => h
      try simp only [Act.put, List.setIfInBounds_toArray, List.set_cons_zero, List.set_cons_succ]
      refine wpAnyH_take (i := 9) (oi := ?oiz47) (v := ?vz47) ?hiz47 ?haz47 ?hbz47 ?hcz47 ?hqz47 ?hyz47 (by assumption) ?restz47
      case hiz47 => (simp only [List.getElem?_toArray, List.getElem?_cons_zero, List.getElem?_cons_succ]; rfl)
      case haz47 => kernel_rfl
      case hbz47 => kernel_rfl
      case hcz47 => kernel_rfl
      case hyz47 => exact Or.inl ⟨by rfl, by (intro w hSw; (try dsimp only at hSw); go_split_ands; go_simp; (try with_reducible rfl))⟩
      case hqz47 => exact fun _ _ _ h => h
      try simp only [Act.put, List.setIfInBounds_toArray, List.set_cons_zero, List.set_cons_succ]
      refine wpAnyH_take (i := 10) (oi := ?oiz48) (v := ?vz48) ?hiz48 ?haz48 ?hbz48 ?hcz48 ?hqz48 ?hyz48 (by assumption) ?restz48
      case hiz48 => (simp only [List.getElem?_toArray, List.getElem?_cons_zero, List.getElem?_cons_succ]; rfl)
      case haz48 => kernel_rfl
      case hbz48 => kernel_rfl
      case hcz48 => kernel_rfl
      case hyz48 => exact Or.inl ⟨by rfl, by (intro w hSw; (try dsimp only at hSw); go_split_ands; go_simp; (try with_reducible rfl))⟩
      case hqz48 => exact fun _ _ _ h => h
      try simp only [Act.put, List.setIfInBounds_toArray, List.set_cons_zero, List.set_cons_succ]
      refine wpAnyH_take (i := 11) (oi := ?oiz49) (v := ?vz49) ?hiz49 ?haz49 ?hbz49 ?hcz49 ?hqz49 ?hyz49 (by assumption) ?restz49
      case hiz49 => (simp only [List.getElem?_toArray, List.getElem?_cons_zero, List.getElem?_cons_succ]; rfl)
      case haz49 => kernel_rfl
      case hbz49 => kernel_rfl
      case hcz49 => kernel_rfl
      case hyz49 => exact Or.inl ⟨by rfl, by (intro w hSw; (try dsimp only at hSw); go_split_ands; go_simp; (try with_reducible rfl))⟩
      case hqz49 => exact fun _ _ _ h => h
      try simp only [Act.put, List.setIfInBounds_toArray, List.set_cons_zero, List.set_cons_succ]
      refine wpAnyH_take (i := 12) (oi := ?oiz50) (v := ?vz50) ?hiz50 ?haz50 ?hbz50 ?hcz50 ?hqz50 ?hyz50 (by assumption) ?restz50
      case hiz50 => (simp only [List.getElem?_toArray, List.getElem?_cons_zero, List.getElem?_cons_succ]; rfl)
      case haz50 => kernel_rfl
      case hbz50 => kernel_rfl
      case hcz50 => kernel_rfl
      case hyz50 => exact Or.inl ⟨by rfl, by (intro w hSw; (try dsimp only at hSw); go_split_ands; go_simp; (try with_reducible rfl))⟩
      case hqz50 => exact fun _ _ _ h => h
      try simp only [Act.put, List.setIfInBounds_toArray, List.set_cons_zero, List.set_cons_succ]
      refine wpAnyH_take (i := 13) (oi := ?oiz51) (v := ?vz51) ?hiz51 ?haz51 ?hbz51 ?hcz51 ?hqz51 ?hyz51 (by assumption) ?restz51
      case hiz51 => (simp only [List.getElem?_toArray, List.getElem?_cons_zero, List.getElem?_cons_succ]; rfl)
      case haz51 => kernel_rfl
      case hbz51 => kernel_rfl
      case hcz51 => kernel_rfl
      case hyz51 => exact Or.inl ⟨by rfl, by (intro w hSw; (try dsimp only at hSw); go_split_ands; go_simp; (try with_reducible rfl))⟩
      case hqz51 => exact fun _ _ _ h => h
      try simp only [Act.put, List.setIfInBounds_toArray, List.set_cons_zero, List.set_cons_succ]
      refine wpAnyH_ready (rs := [7]) (by kernel_rfl) (by simp) ?_
      refine AllReadyH.cons (o := ?oiz52) ?hiz52 (fun K hK => ?stepz52) AllReadyH.nil
      case hiz52 => (simp only [List.getElem?_toArray, List.getElem?_cons_zero, List.getElem?_cons_succ]; rfl)
      go_simp
      refine (pcount_is w5 mb L 1 hP5).mono ?_
      rintro e w6 ⟨rfl, hW6⟩
      obtain rfl := hW6.symm
      rw [he.1]
      refine hK.out _ _ hT5 (fun hHeld => ?_)
      clear hK K
      try simp only [Act.put, List.setIfInBounds_toArray, List.set_cons_zero, List.set_cons_succ]
      refine wpAnyH_take (i := 14) (oi := ?oiz53) (v := ?vz53) ?hiz53 ?haz53 ?hbz53 ?hcz53 ?hqz53 ?hyz53 (by assumption) ?restz53
      case hiz53 => (simp only [List.getElem?_toArray, List.getElem?_cons_zero, List.getElem?_cons_succ]; rfl)
      case haz53 => kernel_rfl
      case hbz53 => kernel_rfl
      case hcz53 => kernel_rfl
      case hyz53 => exact Or.inl ⟨by rfl, by (intro w hSw; (try dsimp only at hSw); go_split_ands; go_simp; (try with_reducible rfl))⟩
      case hqz53 => exact fun _ _ _ h => h
      try simp only [Act.put, List.setIfInBounds_toArray, List.set_cons_zero, List.set_cons_succ]
      refine wpAnyH_take (i := 15) (oi := ?oiz54) (v := ?vz54) ?hiz54 ?haz54 ?hbz54 ?hcz54 ?hqz54 ?hyz54 (by assumption) ?restz54
      case hiz54 => (simp only [List.getElem?_toArray, List.getElem?_cons_zero, List.getElem?_cons_succ]; rfl)
      case haz54 => kernel_rfl
      case hbz54 => kernel_rfl
      case hcz54 => kernel_rfl
      case hyz54 => exact Or.inl ⟨by rfl, by (intro w hSw; (try dsimp only at hSw); go_split_ands; go_simp; (try with_reducible rfl))⟩
      case hqz54 => exact fun _ _ _ h => h
      try simp only [Act.put, List.setIfInBounds_toArray, List.set_cons_zero, List.set_cons_succ]
      refine wpAnyH_take (i := 16) (oi := ?oiz55) (v := ?vz55) ?hiz55 ?haz55 ?hbz55 ?hcz55 ?hqz55 ?hyz55 (by assumption) ?restz55
      case hiz55 => (simp only [List.getElem?_toArray, List.getElem?_cons_zero, List.getElem?_cons_succ]; rfl)
      case haz55 => kernel_rfl
      case hbz55 => kernel_rfl
      case hcz55 => kernel_rfl
      case hyz55 => exact Or.inl ⟨by rfl, by (intro w hSw; (try dsimp only at hSw); go_split_ands; go_simp; (try with_reducible rfl))⟩
      case hqz55 => exact fun _ _ _ h => h
      try simp only [Act.put, List.setIfInBounds_toArray, List.set_cons_zero, List.set_cons_succ]
      refine wpAnyH_take (i := 17) (oi := ?oiz56) (v := ?vz56) ?hiz56 ?haz56 ?hbz56 ?hcz56 ?hqz56 ?hyz56 (by assumption) ?restz56
      case hiz56 => (simp only [List.getElem?_toArray, List.getElem?_cons_zero, List.getElem?_cons_succ]; rfl)
      case haz56 => kernel_rfl
      case hbz56 => kernel_rfl
      case hcz56 => kernel_rfl
      case hyz56 => exact Or.inl ⟨by rfl, by (intro w hSw; (try dsimp only at hSw); go_split_ands; go_simp; (try with_reducible rfl))⟩
      case hqz56 => exact fun _ _ _ h => h
      try simp only [Act.put, List.setIfInBounds_toArray, List.set_cons_zero, List.set_cons_succ]
      refine wpAnyH_take (i := 19) (oi := ?oiz57) (v := ?vz57) ?hiz57 ?haz57 ?hbz57 ?hcz57 ?hqz57 ?hyz57 (by assumption) ?restz57
      case hiz57 => (simp only [List.getElem?_toArray, List.getElem?_cons_zero, List.getElem?_cons_succ]; rfl)
      case haz57 => kernel_rfl
      case hbz57 => kernel_rfl
      case hcz57 => kernel_rfl
      case hyz57 => exact Or.inl ⟨by rfl, by (intro w hSw; (try dsimp only at hSw); go_split_ands; go_simp; (try with_reducible rfl))⟩
      case hqz57 => exact fun _ _ _ h => h
      try simp only [Act.put, List.setIfInBounds_toArray, List.set_cons_zero, List.set_cons_succ]
      refine wpAnyH_take (i := 20) (oi := ?oiz58) (v := ?vz58) ?hiz58 ?haz58 ?hbz58 ?hcz58 ?hqz58 ?hyz58 (by assumption) ?restz58
      case hiz58 => (simp only [List.getElem?_toArray, List.getElem?_cons_zero, List.getElem?_cons_succ]; rfl)
      case haz58 => kernel_rfl
      case hbz58 => kernel_rfl
      case hcz58 => kernel_rfl
      case hyz58 => exact Or.inl ⟨by rfl, by (intro w hSw; (try dsimp only at hSw); go_split_ands; go_simp; (try with_reducible rfl))⟩
      case hqz58 => exact fun _ _ _ h => h
      try simp only [Act.put, List.setIfInBounds_toArray, List.set_cons_zero, List.set_cons_succ]
      refine wpAnyH_take (i := 21) (oi := ?oiz59) (v := ?vz59) ?hiz59 ?haz59 ?hbz59 ?hcz59 ?hqz59 ?hyz59 (by assumption) ?restz59
      case hiz59 => (simp only [List.getElem?_toArray, List.getElem?_cons_zero, List.getElem?_cons_succ]; rfl)
      case haz59 => kernel_rfl
      case hbz59 => kernel_rfl
      case hcz59 => kernel_rfl
      case hyz59 => exact Or.inl ⟨by rfl, by (intro w hSw; (try dsimp only at hSw); go_split_ands; go_simp; (try with_reducible rfl))⟩
      case hqz59 => exact fun _ _ _ h => h
      try simp only [Act.put, List.setIfInBounds_toArray, List.set_cons_zero, List.set_cons_succ]
      refine wpAnyH_take (i := 22) (oi := ?oiz60) (v := ?vz60) ?hiz60 ?haz60 ?hbz60 ?hcz60 ?hqz60 ?hyz60 (by assumption) ?restz60
      case hiz60 => (simp only [List.getElem?_toArray, List.getElem?_cons_zero, List.getElem?_cons_succ]; rfl)
      case haz60 => kernel_rfl
      case hbz60 => kernel_rfl
      case hcz60 => kernel_rfl
      case hyz60 => exact Or.inl ⟨by rfl, by (intro w hSw; (try dsimp only at hSw); go_split_ands; go_simp; (try with_reducible rfl))⟩
      case hqz60 => exact fun _ _ _ h => h
      try simp only [Act.put, List.setIfInBounds_toArray, List.set_cons_zero, List.set_cons_succ]
      refine wpAnyH_take (i := 23) (oi := ?oiz61) (v := ?vz61) ?hiz61 ?haz61 ?hbz61 ?hcz61 ?hqz61 ?hyz61 (by assumption) ?restz61
      case hiz61 => (simp only [List.getElem?_toArray, List.getElem?_cons_zero, List.getElem?_cons_succ]; rfl)
      case haz61 => kernel_rfl
      case hbz61 => kernel_rfl
      case hcz61 => kernel_rfl
      case hyz61 => exact Or.inl ⟨by rfl, by (intro w hSw; (try dsimp only at hSw); go_split_ands; go_simp; (try with_reducible rfl))⟩
      case hqz61 => exact fun _ _ _ h => h
      try simp only [Act.put, List.setIfInBounds_toArray, List.set_cons_zero, List.set_cons_succ]
      refine wpAnyH_take (i := 24) (oi := ?oiz62) (v := ?vz62) ?hiz62 ?haz62 ?hbz62 ?hcz62 ?hqz62 ?hyz62 (by assumption) ?restz62
      case hiz62 => (simp only [List.getElem?_toArray, List.getElem?_cons_zero, List.getElem?_cons_succ]; rfl)
      case haz62 => kernel_rfl
      case hbz62 => kernel_rfl
      case hcz62 => kernel_rfl
      case hyz62 => exact Or.inl ⟨by rfl, by (intro w hSw; (try dsimp only at hSw); go_split_ands; go_simp; (try with_reducible rfl))⟩
      case hqz62 => exact fun _ _ _ h => h
      try simp only [Act.put, List.setIfInBounds_toArray, List.set_cons_zero, List.set_cons_succ]
      refine wpAnyH_ready (rs := [18]) (by kernel_rfl) (by simp) ?_
      refine AllReadyH.cons (o := ?oiz63) ?hiz63 (fun K hK => ?stepz63) AllReadyH.nil
      case hiz63 => (simp only [List.getElem?_toArray, List.getElem?_cons_zero, List.getElem?_cons_succ]; rfl)
      go_simp
      refine (pcount_is w5 mb L 2 hP5).mono ?_
      rintro e w6 ⟨rfl, hW6⟩
      obtain rfl := hW6.symm
      rw [he.2.1]
      refine hK.out _ _ hT5 (fun hHeld => ?_)
      clear hK K
      try simp only [Act.put, List.setIfInBounds_toArray, List.set_cons_zero, List.set_cons_succ]
      refine wpAnyH_take (i := 25) (oi := ?oiz64) (v := ?vz64) ?hiz64 ?haz64 ?hbz64 ?hcz64 ?hqz64 ?hyz64 (by assumption) ?restz64
      case hiz64 => (simp only [List.getElem?_toArray, List.getElem?_cons_zero, List.getElem?_cons_succ]; rfl)
      case haz64 => kernel_rfl
      case hbz64 => kernel_rfl
      case hcz64 => kernel_rfl
      case hyz64 => exact Or.inl ⟨by rfl, by (intro w hSw; (try dsimp only at hSw); go_split_ands; go_simp; (try with_reducible rfl))⟩
      case hqz64 => exact fun _ _ _ h => h
      try simp only [Act.put, List.setIfInBounds_toArray, List.set_cons_zero, List.set_cons_succ]
      refine wpAnyH_take (i := 26) (oi := ?oiz65) (v := ?vz65) ?hiz65 ?haz65 ?hbz65 ?hcz65 ?hqz65 ?hyz65 (by assumption) ?restz65
      case hiz65 => (simp only [List.getElem?_toArray, List.getElem?_cons_zero, List.getElem?_cons_succ]; rfl)
      case haz65 => kernel_rfl
      case hbz65 => kernel_rfl
      case hcz65 => kernel_rfl
      case hyz65 => exact Or.inl ⟨by rfl, by (intro w hSw; (try dsimp only at hSw); go_split_ands; go_simp; (try with_reducible rfl))⟩
      case hqz65 => exact fun _ _ _ h => h
      try simp only [Act.put, List.setIfInBounds_toArray, List.set_cons_zero, List.set_cons_succ]
      refine wpAnyH_take (i := 27) (oi := ?oiz66) (v := ?vz66) ?hiz66 ?haz66 ?hbz66 ?hcz66 ?hqz66 ?hyz66 (by assumption) ?restz66
      case hiz66 => (simp only [List.getElem?_toArray, List.getElem?_cons_zero, List.getElem?_cons_succ]; rfl)
      case haz66 => kernel_rfl
      case hbz66 => kernel_rfl
      case hcz66 => kernel_rfl
      case hyz66 => exact Or.inl ⟨by rfl, by (intro w hSw; (try dsimp only at hSw); go_split_ands; go_simp; (try with_reducible rfl))⟩
      case hqz66 => exact fun _ _ _ h => h
      try simp only [Act.put, List.setIfInBounds_toArray, List.set_cons_zero, List.set_cons_succ]
      refine wpAnyH_take (i := 28) (oi := ?oiz67) (v := ?vz67) ?hiz67 ?haz67 ?hbz67 ?hcz67 ?hqz67 ?hyz67 (by assumption) ?restz67
      case hiz67 => (simp only [List.getElem?_toArray, List.getElem?_cons_zero, List.getElem?_cons_succ]; rfl)
      case haz67 => kernel_rfl
      case hbz67 => kernel_rfl
      case hcz67 => kernel_rfl
      case hyz67 => exact Or.inl ⟨by rfl, by (intro w hSw; (try dsimp only at hSw); go_split_ands; go_simp; (try with_reducible rfl))⟩
      case hqz67 => exact fun _ _ _ h => h
      try simp only [Act.put, List.setIfInBounds_toArray, List.set_cons_zero, List.set_cons_succ]
      refine wpAnyH_take (i := 30) (oi := ?oiz68) (v := ?vz68) ?hiz68 ?haz68 ?hbz68 ?hcz68 ?hqz68 ?hyz68 (by assumption) ?restz68
      case hiz68 => (simp only [List.getElem?_toArray, List.getElem?_cons_zero, List.getElem?_cons_succ]; rfl)
      case haz68 => kernel_rfl
      case hbz68 => kernel_rfl
      case hcz68 => kernel_rfl
      case hyz68 => exact Or.inl ⟨by rfl, by (intro w hSw; (try dsimp only at hSw); go_split_ands; go_simp; (try with_reducible rfl))⟩
      case hqz68 => exact fun _ _ _ h => h
      try simp only [Act.put, List.setIfInBounds_toArray, List.set_cons_zero, List.set_cons_succ]
      refine wpAnyH_take (i := 31) (oi := ?oiz69) (v := ?vz69) ?hiz69 ?haz69 ?hbz69 ?hcz69 ?hqz69 ?hyz69 (by assumption) ?restz69
      case hiz69 => (simp only [List.getElem?_toArray, List.getElem?_cons_zero, List.getElem?_cons_succ]; rfl)
      case haz69 => kernel_rfl
      case hbz69 => kernel_rfl
      case hcz69 => kernel_rfl
      case hyz69 => exact Or.inl ⟨by rfl, by (intro w hSw; (try dsimp only at hSw); go_split_ands; go_simp; (try with_reducible rfl))⟩
      case hqz69 => exact fun _ _ _ h => h
      try simp only [Act.put, List.setIfInBounds_toArray, List.set_cons_zero, List.set_cons_succ]
      refine wpAnyH_take (i := 32) (oi := ?oiz70) (v := ?vz70) ?hiz70 ?haz70 ?hbz70 ?hcz70 ?hqz70 ?hyz70 (by assumption) ?restz70
      case hiz70 => (simp only [List.getElem?_toArray, List.getElem?_cons_zero, List.getElem?_cons_succ]; rfl)
      case haz70 => kernel_rfl
      case hbz70 => kernel_rfl
      case hcz70 => kernel_rfl
      case hyz70 => exact Or.inl ⟨by rfl, by (intro w hSw; (try dsimp only at hSw); go_split_ands; go_simp; (try with_reducible rfl))⟩
      case hqz70 => exact fun _ _ _ h => h
      try simp only [Act.put, List.setIfInBounds_toArray, List.set_cons_zero, List.set_cons_succ]
      refine wpAnyH_take (i := 33) (oi := ?oiz71) (v := ?vz71) ?hiz71 ?haz71 ?hbz71 ?hcz71 ?hqz71 ?hyz71 (by assumption) ?restz71
      case hiz71 => (simp only [List.getElem?_toArray, List.getElem?_cons_zero, List.getElem?_cons_succ]; rfl)
      case haz71 => kernel_rfl
      case hbz71 => kernel_rfl
      case hcz71 => kernel_rfl
      case hyz71 => exact Or.inl ⟨by rfl, by (intro w hSw; (try dsimp only at hSw); go_split_ands; go_simp; (try with_reducible rfl))⟩
      case hqz71 => exact fun _ _ _ h => h
      try simp only [Act.put, List.setIfInBounds_toArray, List.set_cons_zero, List.set_cons_succ]
      refine wpAnyH_take (i := 34) (oi := ?oiz72) (v := ?vz72) ?hiz72 ?haz72 ?hbz72 ?hcz72 ?hqz72 ?hyz72 (by assumption) ?restz72
      case hiz72 => (simp only [List.getElem?_toArray, List.getElem?_cons_zero, List.getElem?_cons_succ]; rfl)
      case haz72 => kernel_rfl
      case hbz72 => kernel_rfl
      case hcz72 => kernel_rfl
      case hyz72 => exact Or.inl ⟨by rfl, by (intro w hSw; (try dsimp only at hSw); go_split_ands; go_simp; (try with_reducible rfl))⟩
      case hqz72 => exact fun _ _ _ h => h
      try simp only [Act.put, List.setIfInBounds_toArray, List.set_cons_zero, List.set_cons_succ]
      refine wpAnyH_take (i := 35) (oi := ?oiz73) (v := ?vz73) ?hiz73 ?haz73 ?hbz73 ?hcz73 ?hqz73 ?hyz73 (by assumption) ?restz73
      case hiz73 => (simp only [List.getElem?_toArray, List.getElem?_cons_zero, List.getElem?_cons_succ]; rfl)
      case haz73 => kernel_rfl
      case hbz73 => kernel_rfl
      case hcz73 => kernel_rfl
      case hyz73 => exact Or.inl ⟨by rfl, by (intro w hSw; (try dsimp only at hSw); go_split_ands; go_simp; (try with_reducible rfl))⟩
      case hqz73 => exact fun _ _ _ h => h
      try simp only [Act.put, List.setIfInBounds_toArray, List.set_cons_zero, List.set_cons_succ]
      refine wpAnyH_ready (rs := [29]) (by kernel_rfl) (by simp) ?_
      refine AllReadyH.cons (o := ?oiz74) ?hiz74 (fun K hK => ?stepz74) AllReadyH.nil
      case hiz74 => (simp only [List.getElem?_toArray, List.getElem?_cons_zero, List.getElem?_cons_succ]; rfl)
      go_simp
      refine (pcount_is w5 mb L 3 hP5).mono ?_
      rintro e w6 ⟨rfl, hW6⟩
      obtain rfl := hW6.symm
      rw [he.2.2]
      refine hK.out _ _ hT5 (fun hHeld => ?_)
      clear hK K
      try simp only [Act.put, List.setIfInBounds_toArray, List.set_cons_zero, List.set_cons_succ]
      refine wpAnyH_take (i := 36) (oi := ?oiz75) (v := ?vz75) ?hiz75 ?haz75 ?hbz75 ?hcz75 ?hqz75 ?hyz75 (by assumption) ?restz75
      case hiz75 => (simp only [List.getElem?_toArray, List.getElem?_cons_zero, List.getElem?_cons_succ]; rfl)
      case haz75 => kernel_rfl
      case hbz75 => kernel_rfl
      case hcz75 => kernel_rfl
      case hyz75 => exact Or.inl ⟨by rfl, by (intro w hSw; (try dsimp only at hSw); go_split_ands; go_simp; (try with_reducible rfl))⟩
      case hqz75 => exact fun _ _ _ h => h
      try simp only [Act.put, List.setIfInBounds_toArray, List.set_cons_zero, List.set_cons_succ]
      refine wpAnyH_take (i := 37) (oi := ?oiz76) (v := ?vz76) ?hiz76 ?haz76 ?hbz76 ?hcz76 ?hqz76 ?hyz76 (by assumption) ?restz76
      case hiz76 => (simp only [List.getElem?_toArray, List.getElem?_cons_zero, List.getElem?_cons_succ]; rfl)
      case haz76 => kernel_rfl
      case hbz76 => kernel_rfl
      case hcz76 => kernel_rfl
      case hyz76 => exact Or.inl ⟨by rfl, by (intro w hSw; (try dsimp only at hSw); go_split_ands; go_simp; (try with_reducible rfl))⟩
      case hqz76 => exact fun _ _ _ h => h
      try simp only [Act.put, List.setIfInBounds_toArray, List.set_cons_zero, List.set_cons_succ]
      refine wpAnyH_ready (rs := [38]) (by kernel_rfl) (by simp) ?_
      refine AllReadyH.cons (o := ?oiz77) ?hiz77 (fun K hK => ?stepz77) AllReadyH.nil
      case hiz77 => (simp only [List.getElem?_toArray, List.getElem?_cons_zero, List.getElem?_cons_succ]; rfl)
      go_simp
      refine hK.out _ _ hT5 (fun hHeld => ?_)
      clear hK K
      try simp only [Act.put, List.setIfInBounds_toArray, List.set_cons_zero, List.set_cons_succ]
      refine wpAnyH_done (by kernel_rfl) ?_ _
      clear hHeld
      try go_wp2_with fail
      try go_ret
      exact ⟨rfl, hB5⟩
end Go.Proofs.Ythdclncgmhgmfaa
