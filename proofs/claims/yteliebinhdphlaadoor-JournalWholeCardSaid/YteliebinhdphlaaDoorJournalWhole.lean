/- The law JournalWhole, walked. -/
import Derived.Test.YteliebinhdphlaaDoorLists4
import Derived.Deep.CutBlock
namespace Go.Proofs.YteliebinhdphlaaDoor
set_option maxRecDepth 100000
open Go.RowKit Go.Deep
set_option linter.unusedSimpArgs false
set_option linter.unusedVariables false

/-- Where a round begins. -/
structure WInv (B : Nat) (w wr : World) (a d j : Nat) (va vs : Value) (nx : Nat) (K R : Nat → Prop) (S : DS) (all : List (List Int)) (s : Nat) : Prop where
  pk : PK B K wr d S
  ka : K a
  kj : K j
  ar : PArea wr a d 1 8
  pj : PJ wr j a 3 nx
  nx8 : nx ≤ 8
  nxs : S.off = false → nx = all.length
  good : Good S all s
  lp : LP wr B (fun k => K k ∧ k ≠ j) R va all vs s
  bel : Below B w wr
theorem WInv.below {B : Nat} {w wr w' : World} {a d j nx s : Nat} {va vs : Value} {K R : Nat → Prop} {S : DS} {all : List (List Int)} (h : WInv B w wr a d j va vs nx K R S all s) (hB : B ≤ wr.heap.size) (hb : Below wr.heap.size wr w') : WInv B w w' a d j va vs nx K R S all s :=
  ⟨h.pk.below hb, h.ka, h.kj, h.ar.kept (hb.block _ h.ar.lt), h.pj.kept (hb.block _ h.pj.lt), h.nx8, h.nxs, h.good, h.lp.stay (fun k hk => hb.block k (h.pk.lt hk.1).2) (hb.mono hB), h.bel.trans (hb.mono hB)⟩
/-- New blocks are kept, too. -/
theorem WInv.new {B : Nat} {w wr w' : World} {a d j nx s : Nat} {va vs : Value} {K R : Nat → Prop} {S : DS} {all : List (List Int)} (h : WInv B w wr a d j va vs nx K R S all s) (hB : B ≤ wr.heap.size) (hb : Below wr.heap.size wr w') : WInv B w w' a d j va vs nx (fun k => K k ∨ (wr.heap.size ≤ k ∧ k < w'.heap.size)) R S all s :=
  ⟨h.pk.new hB hb, Or.inl h.ka, Or.inl h.kj, h.ar.kept (hb.block _ h.ar.lt), h.pj.kept (hb.block _ h.pj.lt), h.nx8, h.nxs, h.good, (h.lp.stay (fun k hk => hb.block k (h.pk.lt hk.1).2) (hb.mono hB)).more (fun _ hk => ⟨Or.inl hk.1, hk.2⟩), h.bel.trans (hb.mono hB)⟩

set_option maxHeartbeats 12800000 in
theorem journalWhole_walk (w : World) (ht : Tabs w) (A : Option Addr) (n c1 : Nat) (V : Nat → Nat → Int) (Bv : Nat → Value) (Z : Nat → List Int) (hx : Dos w A n 2 V Bv Z) (hok : DosOk n 2 V Z) (hn : n ≤ 9223372036854775807)
    (A2 : Option Addr) (m2 c2 : Nat) (Zc : Nat → List Int) (hx2 : Rows2 w A2 m2 Zc) (hok2 : RowsOk m2 Zc) (hm2 : m2 ≤ 9223372036854775807) :
    Calls Tryd.prog 4 #[.slice A n c1, .slice A2 m2 c2] w fun e w' => e = .returned (.bool true) ∧ Below w.heap.size w w' := by
  have Ht := Lib.hid ht
  obtain ⟨B, hBw⟩ : ∃ B, B = w.heap.size := ⟨_, rfl⟩
  have hTB0 := NoTabs.of_tabs (F := fun k => w.heap.size ≤ k) ht (fun k h => h)
  rw [← hBw] at hTB0
  have HTB := Lib.hid hTB0
  have HB := Lib.hid hBw
  have Haw := Lib.hid (awake9_any w ht)
  clear ht hTB0 hBw
  go_enter Tryd.func4, Tryd.ntmps4
  go_wp2_with fail
  refine Haw.out.mono ?_
  rintro e w1 ⟨rfl, hb1⟩
  have Hfew := Lib.hid (few9_is w1 A n c1 V Bv Z (hx.below hb1) hok hn)
  clear Haw
  go_wp2_with fail
  refine Hfew.out.mono ?_
  rintro e w2 ⟨qf, rfl, hqf, hb2⟩
  have hbt2 := hb1.trans (hb2.mono hb1.size)
  cases qf with
  | false =>
    go_wp2_with fail
    go_ret
    exact ⟨rfl, hbt2⟩
  | true =>
  have hn40 := hqf rfl
  by_cases hbig : 20 < m2
  · have hbigi : (20 : Int) < (m2 : Int) := by omega
    go_wp2_with fail
    go_ret
    exact ⟨rfl, hbt2⟩
  have hbigi : (m2 : Int) ≤ 20 := by omega
  clear Hfew hqf hb1 hb2
  go_wp2_with fail
  go_loopw [34, 6] (fun i _ wr => ∃ k : Nat, k ≤ m2 ∧ i = .int .i64 k ∧ wr = w2) (fun i _ _ => m2 - (intOf i).toNat)
  case atStart => exact ⟨0, by omega, rfl, rfl⟩
  case round =>
    obtain ⟨k, hk, rfl, hwr⟩ := hrel
    obtain rfl := hwr.symm
    by_cases hlt : k < m2
    · obtain ⟨ad, A', c', rfl, e0, hsl⟩ := hx2 k hlt
      replace e0 := (hbt2.cell (World.block_lt_of_cell? w _ e0)).trans e0
      obtain ⟨zl, hzl⟩ : ∃ x, x = (Zc k).length := ⟨_, rfl⟩
      rw [← hzl] at e0
      have hzl2 := (hok2 k hlt).2
      rw [← hzl] at hzl2
      clear hzl hsl
      by_cases h200 : 200 < zl
      · have h200i : (200 : Int) < (zl : Int) := by omega
        go_wp2
        go_ret
        exact ⟨rfl, hbt2⟩
      · have h200i : (zl : Int) ≤ 200 := by omega
        go_wp2
        go_roundw
        case rel => exact ⟨k + 1, by omega, by go_num, trivial⟩
        case measure => simp [intOf]; omega
    · obtain rfl : m2 = k := by omega
      have hbB2 : Below B w w2 := hbt2.mono (Nat.le_of_eq HB.out)
      have Hmade := Lib.hid (made9_is w2 none 0 0 10 [] (Sl.nil_ _ _) (Nat.le_refl _) (fun x hx => by simp at hx) (by omega) (by omega))
      go_wp2_with fail
      refine Hmade.out.mono ?_
      rintro e w3 ⟨hb3, ⟨_, d, a, F, rfl, hF, hFB, ha3, hal, hFa⟩ | ⟨h0, _⟩⟩
      rotate_left
      · exact absurd h0 (by decide)
      have hB2 : B ≤ w2.heap.size := by rw [HB.out]; exact hbt2.size
      have hpk3 : PK B (fun k => k = a) w3 d (DS.loaded 10 10 []) := ⟨F, hF, fun k hk => Nat.le_trans hB2 (hFB k hk), fun k hk => by rw [hk]; exact ⟨hFa, Nat.le_trans hB2 hal, ha3.lt⟩⟩
      have hbB3 := hbB2.trans (hb3.mono hB2)
      have hB3 : B ≤ w3.heap.size := Nat.le_trans hB2 hb3.size
      have ht3 : Tabs w3 := (Ht.out).base hbB3 HTB.out
      have hgood := good_new
      have hpre := hgood.pre rfl
      obtain ⟨r, hr⟩ : ∃ r, r = (DS.loaded 10 10 []).jOpen 1 8 3 := ⟨_, rfl⟩
      have hop := hpre.open
      have hr0 := hpre.open_cut rfl
      have hmany0 : (DS.loaded 10 10 []).waits.length ≤ 100000 := by show ([] : List (Int × List Int)).length ≤ _; simp
      rw [← hr] at hop hr0
      have hst : r.2.1 = 0 ∧ r.2.2.off = false ∧ Good r.2.2 [] 0 := by
        rcases hop with ⟨h1, h2, h3, h4, h5⟩ | ⟨h1, _⟩
        · exact ⟨h3, h4, h5⟩
        · rw [hr0] at h1; exact absurd h1 (by decide)
      have Hop := Lib.hid (pk_open B _ w3 a d _ hpk3 ha3 rfl hgood.len hB3 ht3 HTB.out 3 (by omega) hmany0 r hr)
      clear hr hop hF hFB hpre Hmade
      go_wp2_with fail
      refine Hop.out.mono ?_
      rintro e w4 ⟨hb4, hst4, ⟨h0, _⟩ | ⟨_, j, rfl, hjl, hj4, hpk4⟩⟩
      · exact absurd hr0 h0
      obtain ⟨rn, roff, hg⟩ := hst
      rw [rn] at hj4
      have ha4 : PArea w4 a d 1 8 := ha3.kept (hst4 a rfl (fun h => h))
      obtain ⟨S1, hS1⟩ : ∃ S, S = r.2.2 := ⟨_, rfl⟩
      rw [← hS1] at roff hg hpk4
      have hbB4 := hbB3.trans hb4
      have hW : WInv B w w4 a d j (.slice none 0 0) (.slice none 0 0) 0 (fun k => k = a ∨ k = j) (fun _ => False) S1 [] 0 := ⟨hpk4, Or.inl rfl, Or.inr rfl, ha4, hj4, by omega, fun _ => rfl, hg, ⟨fun _ hk => hk.elim, [], ⟨by simp, Or.inl ⟨rfl, rfl⟩⟩, fun k hk => (by cases hk), fun i l hl => (by simp at hl), none, 0, rfl, Sl.nil_ _ _, fun ad e => (by cases e)⟩, hbB4⟩
      clear hS1 Hop hst4 hpk3 ha3 ha4 hj4 hpk4 hg hbt2 hb3 hb4 hbB3 hbB4 hB3 ht3
      obtain ⟨i8, hi8, hz8, hs8, hb8⟩ := info_parts' info_row9
      have HX := Lib.hid hx
      have HX2 := Lib.hid hx2
      have HOK := Lib.hid hok
      have HOK2 := Lib.hid hok2
      clear hx hx2 hok hok2
      go_wp2_with fail
      go_loopw [55, 9, 11, 12, 13] (fun iv jv sv av cv wr => ∃ (k : Nat) (S : DS) (all : List (List Int)) (s j : Nat) (K R : Nat → Prop) (va vs : Value) (cr : Nat), k ≤ n ∧ iv = .int .i64 (k : Int) ∧ jv = .pointer (some ⟨j, 0, none⟩) ∧ vs = sv ∧ va = av ∧ cv = .int .i64 (cr : Int) ∧ cr ≤ 2 * k ∧ S.off = false ∧ WInv B w wr a d j va vs all.length K R S all s) (fun iv _ _ _ _ _ => n - (intOf iv).toNat)
      case atStart => exact ⟨0, S1, [], 0, j, _, _, _, _, 0, by omega, rfl, rfl, rfl, rfl, rfl, by omega, roff, hW⟩
      case round =>
        clear hW roff
        obtain ⟨k, S, all, s, j, K, R, va, vs, cr, hk, rfl, rfl, rfl, rfl, rfl, hcr, hoff, hW⟩ := hrel
        by_cases hlt : k < n
        · obtain ⟨ad, A', c', rfl, e0, e1, e2, hsl⟩ := HX.out.three hlt
          have hbr := hW.bel
          have hBr : B ≤ wr.heap.size := by have := hbr.size; rw [HB.out]; exact this
          have hbw : Below w.heap.size w wr := by rw [← HB.out]; exact hbr
          replace e0 := (hbw.cell (World.block_lt_of_cell? w _ e0)).trans e0
          replace e1 := (hbw.cell (World.block_lt_of_cell? w _ e1)).trans e1
          replace e2 := (hbw.cell (World.block_lt_of_cell? w _ e2)).trans e2
          have hokk := HOK.out k hlt
          have hV1 := hokk.1 1 (by omega)
          have hA' : ∀ ad, A' = some ad → 0 < (Z k).length → ad.block < B := by
            intro ad2 e hpos
            obtain ⟨ad3, u3, ee, hc3, _⟩ := hsl.num hpos
            have e4 : ad3 = ad2 := Option.some.inj (ee.symm.trans e)
            have := World.block_lt_of_cell? w _ hc3
            rw [addr_block, e4] at this
            rw [HB.out]; exact this
          obtain ⟨kind, hkind⟩ : ∃ x, x = V k 0 := ⟨_, rfl⟩
          obtain ⟨m1, hm1⟩ : ∃ x, x = V k 1 := ⟨_, rfl⟩
          obtain ⟨zs, hzs⟩ : ∃ x, x = Z k := ⟨_, rfl⟩
          rw [← hkind] at e0
          rw [← hm1] at e1 hV1
          rw [← hzs] at e2 hsl hA' hokk
          have hzlm := hokk.2.2
          have hzb : Bytes zs := hokk.2.1
          obtain ⟨zl, hzl⟩ : ∃ x, x = zs.length := ⟨_, rfl⟩
          rw [← hzl] at e2
          have Hzl := Lib.hid hzl
          have Hzb := Lib.hid hzb
          have HA' := Lib.hid hA'
          clear hkind hm1 hzs hokk hzl hzb hA'
          obtain ⟨pd, hpd⟩ : ∃ pd, pd = wr.heap.size := ⟨_, rfl⟩
          obtain ⟨wd, hwd⟩ : ∃ wd, wd = wr.alloc (.cells #[.int .i64 kind, .int .i64 m1, .slice A' zl c'] 47) := ⟨_, rfl⟩
          have hbd : Below wr.heap.size wr wd := by rw [hwd]; exact below_alloc _ _
          have hPd : Blk wd pd 47 [.int .i64 kind, .int .i64 m1, .slice A' zl c'] := by rw [hwd, hpd]; exact Blk.new _ _ _
          have hW1 := hW.new hBr hbd
          have hKpd : (fun k => K k ∨ (wr.heap.size ≤ k ∧ k < wd.heap.size)) pd := Or.inr ⟨by omega, hPd.lt⟩
          obtain ⟨K1, hK1⟩ : ∃ K1 : Nat → Prop, K1 = fun k => K k ∨ (wr.heap.size ≤ k ∧ k < wd.heap.size) := ⟨_, rfl⟩
          rw [← hK1] at hW1 hKpd
          have hBd : B ≤ wd.heap.size := Nat.le_trans hBr hbd.size
          have Hwd := Lib.hid hwd
          have Hpd := Lib.hid hpd
          clear hwd hpd hK1 hW hbd hbr hbw
          go_upto_block 4 with fail
          rw [← Hwd.out, ← Hpd.out]
          clear Hwd e0 e1 e2
          go_cut [11, 12, 16, 17] from 61 to 93 (fun s11 s12 _ _ wc => ∃ (S' : DS) (all' : List (List Int)) (s' nx : Nat) (K' R' : Nat → Prop) (va' vs' : Value), vs' = s11 ∧ va' = s12 ∧ K' pd ∧ WInv B w wc a d j va' vs' nx K' R' S' all' s' ∧ Blk wc pd 47 [.int .i64 kind, .int .i64 m1, .slice A' zl c'])
          case first =>
            have hq0 := hPd.cell (i := 0) rfl
            have hq1 := hPd.cell (i := 1) rfl
            have hq2 := hPd.cell (i := 2) rfl
            have htd : Tabs wd := (Ht.out).base hW1.bel HTB.out
            have hlen := hW1.good.len
            have hmany : S.waits.length ≤ 100000 := by have := hW1.good.wlen; have := hW1.good.many; omega
            by_cases k1 : kind = 1
            · subst k1
              have hbwd : Below w.heap.size w wd := by rw [← HB.out]; exact hW1.bel
              have hzx : Sl wd A' zl (u8s zs) := by rw [Hzl.out]; exact hsl.below hbwd
              obtain ⟨r, hr⟩ : ∃ r, r = S.jAdd 1 8 3 all.length zs := ⟨_, rfl⟩
              have hadd := hW1.good.add hoff zs Hzb.out
              rw [← hr] at hadd
              have Hadd := Lib.hid (pk_add B K1 wd a d S hW1.pk hW1.ar hW1.ka hlen hBd htd HTB.out j 3 all.length hW1.pj hW1.kj hW1.nx8 (by omega) A' zl c' zs hzx Hzb.out (by rw [Hzl.out]; exact hzlm) hmany r hr)
              clear hr
              go_wp2_with fail
              refine Hadd.out.mono ?_
              rintro e w5 ⟨rfl, hpj5, hpk5, hb5, hst5⟩
              have haj : a ≠ j := hW1.pj.ne hW1.ar (by decide)
              have hpdj : pd ≠ j := hW1.pj.ne hPd (by decide)
              have ha5 : PArea w5 a d 1 8 := hW1.ar.kept (hst5 a hW1.ka haj)
              have hPd5 : Blk w5 pd 47 [.int .i64 1, .int .i64 m1, .slice A' zl c'] := hPd.kept (hst5 pd hKpd hpdj)
              have hq52 := hPd5.cell (i := 2) rfl
              have hbt5 : Below B w w5 := hW1.bel.trans hb5
              have hB5 : B ≤ w5.heap.size := Nat.le_trans hBd hb5.size
              have hlp5 : LP w5 B (fun k => K1 k ∧ k ≠ j) R va all vs s := hW1.lp.stay (fun b hb2 => hst5 b hb2.1 hb2.2) hb5
              have hadd0 := hadd
              have hpk1 := hW1.pk
              rcases hadd with ⟨_, h1, h2, h3, h4⟩ | ⟨_, _, h1, h2, h3, h4⟩ | ⟨_, h1, h2x, h3, h4⟩
              · rw [h4] at hpk5
                rw [h3] at hpj5
                obtain ⟨re, hre⟩ : ∃ re, re = r.2.1 := ⟨_, rfl⟩
                rw [← hre] at h1 h2 ⊢
                have hne1 : (re == 0) = false := by simpa using h1
                have hne2 : (re == 50) = false := by simpa using h2
                have hend := Lib.hid (show WInv B w w5 a d j va vs all.length K1 R S all s from ⟨hpk5, hW1.ka, hW1.kj, ha5, hpj5, hW1.nx8, hW1.nxs, hW1.good, hlp5, hbt5⟩)
                clear hre hpk5 hpj5 ha5 hlp5 h1 h2 h3 h4 hadd0 Hadd
                go_wp2_with fail
                go_meet
                exact ⟨S, all, s, _, K1, R, va, vs, rfl, rfl, hKpd, hend.out, hPd5⟩
              · have hm8 := hW1.good.many
                obtain ⟨h0, us, g1, g2, g3, As, cs, eS, g5, g6⟩ := hlp5
                obtain ⟨S5, hS5⟩ : ∃ S5, S5 = r.2.2.2 := ⟨_, rfl⟩
                rw [← hS5] at h3 h4 hpk5
                rw [h2] at hpj5
                rw [h1]
                have hx5 : Sl w5 A' zs.length (u8s zs) := hsl.below (by rw [← HB.out]; exact hbt5)
                clear hS5 Hadd hadd0 hpk1
                go_wp2_with (at_builtin; refine wpList_push_keep (.tmp 76) (.tmp 79) 56 22 i8 _ (.slice A' zl c') 24 rfl rfl Tryd.underlying56 hi8 hz8 hs8 hb8 rfl B _ _ _ g1 rfl rfl rfl (by omega) (by omega) hB5 ?_; intro v6 w6 hown6 hb6 hat6 hst6 hsl6)
                have hO6 : Only (fun b => va.ownBlock = some b) w5 w6 := ⟨hb6.os, hb6.tape, hb6.output, hb6.size, fun b hb2 hn2 => hst6 b hb2 hn2⟩
                have hpk6 := hpk5.grow hB5 hO6 (fun b hb2 => (g2 b hb2).1.1)
                have ha6 : PArea w6 a d 1 8 := ha5.kept (hst6 a ha5.lt (fun e => own_ne g1 ha5 (by decide) e.symm))
                have hPd6 := hPd5.kept (hst6 pd hPd5.lt (fun e => own_ne g1 hPd5 (by decide) e.symm))
                have hpj6 := hpj5.kept (hst6 j hpj5.lt (fun e => by obtain ⟨bs, hbs⟩ := own_typed g1 e; exact hpj5.ne hbs (by decide) rfl))
                have hlp6 := lp_push (l := zs) (c' := c') h0 g1 g2 g3 eS g5 g6 hW1.good.le (fun b hb2 => (hpk5.lt hb2.1).2) hx5 HA'.out hzlm (by rw [← Hzl.out]; exact hown6) hb6 hat6 hst6 hsl6
                have hjl5 := hpj5.lt
                have hlp7 := hlp6.more (K' := fun b => (K1 b ∨ (w5.heap.size ≤ b ∧ b < w6.heap.size)) ∧ b ≠ j) (fun b hb2 => by
                  rcases hb2 with hb2 | hb2
                  · exact ⟨Or.inl hb2.1, hb2.2⟩
                  · exact ⟨Or.inr hb2, by omega⟩)
                have hend := Lib.hid (show WInv B w w6 a d j v6 vs (all.length + 1) (fun b => K1 b ∨ (w5.heap.size ≤ b ∧ b < w6.heap.size)) R S5 (all ++ [zs]) s from
                  ⟨hpk6, Or.inl hW1.ka, Or.inl hW1.kj, ha6, hpj6, (by have := h4.many; simp at this; omega), fun _ => by simp, h4, hlp7, hbt5.trans hb6⟩)
                clear hpk5 hpk6 hlp6 hlp7 hO6 hown6 hat6 hst6 hsl6 hb6 g1 g2 g3 g5 g6 h0 ha6 hpj6 ha5
                go_wp2_with fail
                go_meet
                exact ⟨S5, all ++ [zs], s, _, _, R, v6, vs, eS, rfl, Or.inl hKpd, hend.out, hPd6⟩
              · have hm8 := hW1.good.many
                obtain ⟨h0, us, g1, g2, g3, As, cs, eS, g5, g6⟩ := hlp5
                obtain ⟨S5, hS5⟩ : ∃ S5, S5 = r.2.2.2 := ⟨_, rfl⟩
                rw [← hS5] at h3 h4 hpk5
                rw [h1]
                have hx5 : Sl w5 A' zs.length (u8s zs) := hsl.below (by rw [← HB.out]; exact hbt5)
                clear hS5 Hadd hadd0 hpk1
                go_wp2_with (at_builtin; refine wpList_push_keep (.tmp 76) (.tmp 79) 56 22 i8 _ (.slice A' zl c') 24 rfl rfl Tryd.underlying56 hi8 hz8 hs8 hb8 rfl B _ _ _ g1 rfl rfl rfl (by omega) (by omega) hB5 ?_; intro v6 w6 hown6 hb6 hat6 hst6 hsl6)
                have hO6 : Only (fun b => va.ownBlock = some b) w5 w6 := ⟨hb6.os, hb6.tape, hb6.output, hb6.size, fun b hb2 hn2 => hst6 b hb2 hn2⟩
                have hpk6 := hpk5.grow hB5 hO6 (fun b hb2 => (g2 b hb2).1.1)
                have ha6 : PArea w6 a d 1 8 := ha5.kept (hst6 a ha5.lt (fun e => own_ne g1 ha5 (by decide) e.symm))
                have hPd6 := hPd5.kept (hst6 pd hPd5.lt (fun e => own_ne g1 hPd5 (by decide) e.symm))
                have hpj6 := hpj5.kept (hst6 j hpj5.lt (fun e => by obtain ⟨bs, hbs⟩ := own_typed g1 e; exact hpj5.ne hbs (by decide) rfl))
                have hlp6 := lp_push (l := zs) (c' := c') h0 g1 g2 g3 eS g5 g6 hW1.good.le (fun b hb2 => (hpk5.lt hb2.1).2) hx5 HA'.out hzlm (by rw [← Hzl.out]; exact hown6) hb6 hat6 hst6 hsl6
                have hjl5 := hpj5.lt
                have hlp7 := hlp6.more (K' := fun b => (K1 b ∨ (w5.heap.size ≤ b ∧ b < w6.heap.size)) ∧ b ≠ j) (fun b hb2 => by
                  rcases hb2 with hb2 | hb2
                  · exact ⟨Or.inl hb2.1, hb2.2⟩
                  · exact ⟨Or.inr hb2, by omega⟩)
                have hend := Lib.hid (show WInv B w w6 a d j v6 vs r.2.2.1 (fun b => K1 b ∨ (w5.heap.size ≤ b ∧ b < w6.heap.size)) R S5 (all ++ [zs]) s from
                  ⟨hpk6, Or.inl hW1.ka, Or.inl hW1.kj, ha6, hpj6, h2x, fun ho => (by rw [h3] at ho; cases ho), h4, hlp7, hbt5.trans hb6⟩)
                clear hpk5 hpk6 hlp6 hlp7 hO6 hown6 hat6 hst6 hsl6 hb6 g1 g2 g3 g5 g6 h0 ha6 hpj6 ha5
                go_wp2_with fail
                go_meet
                exact ⟨S5, all ++ [zs], s, _, _, R, v6, vs, eS, rfl, Or.inl hKpd, hend.out, hPd6⟩
            by_cases k2 : kind = 2
            · subst k2
              obtain ⟨r, hr⟩ : ∃ r, r = S.flushOf := ⟨_, rfl⟩
              have hfl := hW1.good.flush hoff (Good.waits_pos hW1.pk.wf)
              rw [← hr] at hfl
              have Hfl := Lib.hid (pk_jflush B K1 wd a d S hW1.pk hW1.ar hW1.ka hlen hBd htd HTB.out j 3 all.length hW1.pj hW1.kj hW1.nx8 (by omega) r hr)
              clear hr
              go_wp2_with fail
              refine Hfl.out.mono ?_
              rintro e w5 ⟨rfl, hpk5, hb5, hst5⟩
              have hst5' : ∀ b, K1 b → w5.heap[b]? = wd.heap[b]? := fun b hb2 => hst5 b hb2 (fun h => h)
              have hPd5 := hPd.kept (hst5' pd hKpd)
              have hlp5 := hW1.lp.stay (fun b hb2 => hst5' b hb2.1) hb5
              rcases hfl with ⟨_, h1, h2, h3⟩ | ⟨_, h1, h2, h3⟩
              · have hend := Lib.hid (show WInv B w w5 a d j va va all.length K1 R r.2 all all.length from ⟨hpk5, hW1.ka, hW1.kj, hW1.ar.kept (hst5' a hW1.ka), hW1.pj.kept (hst5' j hW1.kj), hW1.nx8, fun _ => rfl, h3, hlp5.flushed, hW1.bel.trans hb5⟩)
                rw [h1]
                clear hpk5 hlp5 Hfl
                go_wp2_with fail
                go_meet
                exact ⟨_, all, _, _, K1, R, va, va, rfl, rfl, hKpd, hend.out, hPd5⟩
              · have hend := Lib.hid (show WInv B w w5 a d j va vs all.length K1 R r.2 all s from ⟨hpk5, hW1.ka, hW1.kj, hW1.ar.kept (hst5' a hW1.ka), hW1.pj.kept (hst5' j hW1.kj), hW1.nx8, fun _ => rfl, h3, hlp5, hW1.bel.trans hb5⟩)
                rw [h1]
                clear hpk5 hlp5 Hfl
                go_wp2_with fail
                go_meet
                exact ⟨_, all, _, _, K1, R, va, vs, rfl, rfl, hKpd, hend.out, hPd5⟩
            by_cases k34 : kind = 3 ∨ kind = 4
            · have Hcut := Lib.hid (pk_cut B K1 wd d S hW1.pk hBd m1 hV1)
              have k1' : (kind == 1) = false := by simpa using k1
              have k2' : (kind == 2) = false := by simpa using k2
              rcases k34 with rfl | rfl
              · go_wp2_with fail
                refine Hcut.out.mono ?_
                rintro e w5 ⟨rfl, hpk5, hb5, hst5⟩
                have hst5' : ∀ b, K1 b → w5.heap[b]? = wd.heap[b]? := fun b hb2 => hst5 b hb2 (fun h => h)
                have hPd5 := hPd.kept (hst5' pd hKpd)
                have hend := Lib.hid (show WInv B w w5 a d j va vs all.length K1 R { S with cut := if m1 < 0 then -1 else m1 } all s from ⟨hpk5, hW1.ka, hW1.kj, hW1.ar.kept (hst5' a hW1.ka), hW1.pj.kept (hst5' j hW1.kj), hW1.nx8, fun _ => rfl, hW1.good.cut _, hW1.lp.stay (fun b hb2 => hst5' b hb2.1) hb5, hW1.bel.trans hb5⟩)
                clear hpk5 Hcut
                go_wp2_with fail
                go_meet
                exact ⟨_, all, _, _, K1, R, va, vs, rfl, rfl, hKpd, hend.out, hPd5⟩
              · go_wp2_with fail
                refine Hcut.out.mono ?_
                rintro e w5 ⟨rfl, hpk5, hb5, hst5⟩
                have hst5' : ∀ b, K1 b → w5.heap[b]? = wd.heap[b]? := fun b hb2 => hst5 b hb2 (fun h => h)
                have hPd5 := hPd.kept (hst5' pd hKpd)
                have hend := Lib.hid (show WInv B w w5 a d j va vs all.length K1 R { S with cut := if m1 < 0 then -1 else m1 } all s from ⟨hpk5, hW1.ka, hW1.kj, hW1.ar.kept (hst5' a hW1.ka), hW1.pj.kept (hst5' j hW1.kj), hW1.nx8, fun _ => rfl, hW1.good.cut _, hW1.lp.stay (fun b hb2 => hst5' b hb2.1) hb5, hW1.bel.trans hb5⟩)
                clear hpk5 Hcut
                go_wp2_with fail
                go_meet
                exact ⟨_, all, _, _, K1, R, va, vs, rfl, rfl, hKpd, hend.out, hPd5⟩
            · have k1' : (kind == 1) = false := by simpa using k1
              have k2' : (kind == 2) = false := by simpa using k2
              have k3' : (kind == 3) = false := by simp; omega
              have k4' : (kind == 4) = false := by simp; omega
              have hend := Lib.hid hW1
              go_wp2_with fail
              go_meet
              exact ⟨_, all, _, _, K1, R, va, vs, rfl, rfl, hKpd, hend.out, hPd⟩
          case rest =>
            obtain ⟨S', all', s', nx, K', R', va', vs', rfl, rfl, hKpd', hW', hPd'⟩ := hcut
            clear hW1 hKpd hPd
            obtain ⟨wm, hwm⟩ : ∃ wm : World, wm = wc := ⟨_, rfl⟩
            obtain rfl := hwm
            have hBc : B ≤ wm.heap.size := by have := hW'.bel.size; rw [HB.out]; exact this
            obtain ⟨bq, hbq⟩ : ∃ b : Bool, b = (!S'.off && decide (kind < 5)) := ⟨_, rfl⟩
            have Hon := Lib.hid (pk_on B K' wm d S' hW'.pk hBc)
            have Hbq := Lib.hid hbq
            clear hbq
            go_upto_region 31 with fail
            go_cut [100] from 94 to 99 (fun s100 wx => s100 = .bool bq ∧ Below wm.heap.size wm wx)
            case first =>
              go_wp2_with fail
              refine Hon.out.mono ?_
              rintro e w5 ⟨rfl, hb5⟩
              have hq50 := (hPd'.kept (hb5.block _ hPd'.lt)).cell (i := 0) rfl
              have hbq := Hbq.out
              cases hof : S'.off with
              | true =>
                rw [hof] at hbq
                go_wp2_with fail
                go_meet
                exact ⟨by rw [hbq]; rfl, hb5⟩
              | false =>
                rw [hof] at hbq
                by_cases h5 : kind < 5
                · go_wp2_with fail
                  go_meet
                  exact ⟨by rw [hbq]; simp [h5], hb5⟩
                · go_wp2_with fail
                  go_meet
                  exact ⟨by rw [hbq]; simp [h5], hb5⟩
            case rest =>
              obtain ⟨rfl, hb5⟩ := hcut
              obtain ⟨w5, hw5⟩ : ∃ w5 : World, w5 = wc := ⟨_, rfl⟩
              obtain rfl := hw5
              have hW5 := hW'.below hBc hb5
              have hPd5 := hPd'.kept (hb5.block _ hPd'.lt)
              have hB5 : B ≤ w5.heap.size := Nat.le_trans hBc hb5.size
              clear hW' hPd' Hon hb5
              cases bq with
              | true =>
                have hoff' : S'.off = false ∧ kind < 5 := by
                  have := Hbq.out.symm
                  simp at this
                  exact this
                have hnx := hW5.nxs hoff'.1
                have hpjx := hW5.pj
                rw [hnx] at hpjx
                have hend := Lib.hid (show WInv B w w5 a d j va' vs' all'.length K' R' S' all' s' from ⟨hW5.pk, hW5.ka, hW5.kj, hW5.ar, hpjx, hW5.good.many, fun _ => rfl, hW5.good, hW5.lp, hW5.bel⟩)
                clear hpjx hW5 hPd5
                go_wp2_with fail
                go_roundw
                case rel => exact ⟨k + 1, S', all', s', j, K', R', va', vs', cr, by omega, by go_num, rfl, rfl, rfl, rfl, by omega, hoff'.1, hend.out⟩
                case measure => simp [intOf]; omega
              | false =>
                have hm8 := hW5.good.many
                have hse := hW5.good.le
                go_upto_block 5 with fail
                go_cut [9, 10, 13, 18, 19] from 101 to 134 (fun s9 _ s13 _ _ wx => ∃ (S2 : DS) (k2 j2 cr2 : Nat) (K2 : Nat → Prop), s9 = .pointer (some ⟨j2, 0, none⟩) ∧ s13 = .int .i64 (cr2 : Int) ∧ cr2 ≤ 2 * k + 2 ∧ s' ≤ k2 ∧ k2 ≤ all'.length ∧ S2.off = false ∧ PK B K2 wx d S2 ∧ K2 a ∧ K2 j2 ∧ PArea wx a d 1 8 ∧ PJ wx j2 a 3 k2 ∧ Good S2 (all'.take k2) k2 ∧ LP wx B K2 R' va' all' vs' s' ∧ Below B w wx)
                case first =>
                  go_wp2_with fail
                  go_loopw [18, 13] (fun tv cv wr => ∃ (t cr' : Nat) (T : DS) (K3 : Nat → Prop), tv = .int .i64 (t : Int) ∧ cv = .int .i64 (cr' : Int) ∧ t ≤ 1 ∧ cr' ≤ 2 * k + t ∧ PK B K3 wr d T ∧ K3 a ∧ K3 pd ∧ PArea wr a d 1 8 ∧ Blk wr pd 47 [.int .i64 kind, .int .i64 m1, .slice A' zl c'] ∧ T.kept.length = 10 ∧ (∀ cs, ∃ k', Pre (T.crashed cs) all' s' k') ∧ LP wr B K3 R' va' all' vs' s' ∧ Below B w wr) (fun tv _ _ => 2 - (intOf tv).toNat)
                  case atStart => exact ⟨0, cr, S', K', rfl, rfl, by omega, by omega, hW5.pk, hW5.ka, hKpd', hW5.ar, hPd5, hW5.good.len, fun cs => hW5.good.crash cs, hW5.lp.more (fun b hb => hb.1), hW5.bel⟩
                  case round =>
                    clear hW5 hPd5 hKpd'
                    obtain ⟨t, cr', T, K3, rfl, rfl, ht1, hcr', hpk3, hKa3, hKpd3, har3, hPd3, hlen3, hall, hlp3, hbel3⟩ := hrel
                    obtain ⟨wr3, hwr3⟩ : ∃ w3 : World, w3 = wr := ⟨_, rfl⟩
                    obtain rfl := hwr3
                    have hbw3 : Below w.heap.size w wr3 := by rw [← HB.out]; exact hbel3
                    by_cases hlc : cr' < m2
                    · have hlci : (cr' : Int) < (m2 : Int) := by omega
                      obtain ⟨adc, Ac, cc, eA, ec, hslc⟩ := HX2.out cr' hlc
                      have hokc := HOK2.out cr' hlc
                      replace ec := (hbw3.cell (World.block_lt_of_cell? w _ ec)).trans ec
                      subst eA
                      have hAc : ∀ ad, Ac = some ad → 0 < (Zc cr').length → ad.block < B := by
                        intro ad2 e hpos
                        obtain ⟨ad3, u3, ee, hc3, _⟩ := hslc.num hpos
                        have e4 : ad3 = ad2 := Option.some.inj (ee.symm.trans e)
                        have := World.block_lt_of_cell? w _ hc3
                        rw [addr_block, e4] at this
                        rw [HB.out]; exact this
                      obtain ⟨csx, hcsx⟩ : ∃ x, x = Zc cr' := ⟨_, rfl⟩
                      rw [← hcsx] at ec hslc hokc hAc
                      obtain ⟨nc, hnc⟩ : ∃ x, x = csx.length := ⟨_, rfl⟩
                      rw [← hnc] at ec hslc hokc hAc
                      clear hnc hcsx
                      have hcb := hokc.1
                      have hncm := hokc.2
                      clear hokc
                      have hB3 : B ≤ wr3.heap.size := by have := hbel3.size; rw [HB.out]; exact this
                      have Hcr := Lib.hid (pk_crash B K3 wr3 d T hpk3 hB3 Ac nc cc csx (hslc.below hbw3) hcb hncm hAc)
                      obtain ⟨k', hpre⟩ := hall csx
                      clear hall
                      go_wp2_with fail
                      refine Hcr.out.mono ?_
                      rintro e w6 ⟨rfl, hpk6, hb6, hst6⟩
                      have hst6' : ∀ b, K3 b → w6.heap[b]? = wr3.heap[b]? := fun b hb2 => hst6 b hb2 (fun h => h)
                      have ha6 := har3.kept (hst6' a hKa3)
                      have hPd6 := hPd3.kept (hst6' pd hKpd3)
                      have hlp6 := hlp3.stay (fun b hb2 => hst6' b hb2) hb6
                      have hbel6 := hbel3.trans hb6
                      have hB6 : B ≤ w6.heap.size := Nat.le_trans hB3 hb6.size
                      obtain ⟨T6, hT6⟩ : ∃ T6, T6 = T.crashed csx := ⟨_, rfl⟩
                      have hcut6 : T6.cut = -1 := by rw [hT6]; rfl
                      rw [← hT6] at hpk6 hpre
                      clear hT6 Hcr hpk3 har3 hPd3 hlp3
                      rcases (by omega : t = 0 ∨ t = 1) with rfl | rfl
                      · have hq61 := hPd6.cell (i := 1) rfl
                        have Hcut := Lib.hid (pk_cut B K3 w6 d T6 hpk6 hB6 m1 hV1)
                        have hpre7 := hpre.cut (if m1 < 0 then -1 else m1)
                        obtain ⟨T7, hT7⟩ : ∃ T7, T7 = { T6 with cut := if m1 < 0 then -1 else m1 } := ⟨_, rfl⟩
                        rw [← hT7] at hpre7
                        go_wp2_with fail
                        refine Hcut.out.mono ?_
                        rintro e w7 ⟨rfl, hpk7, hb7, hst7⟩
                        rw [← hT7] at hpk7
                        have hst7' : ∀ b, K3 b → w7.heap[b]? = w6.heap[b]? := fun b hb2 => hst7 b hb2 (fun h => h)
                        have ha7 := ha6.kept (hst7' a hKa3)
                        have hPd7 := hPd6.kept (hst7' pd hKpd3)
                        have hlp7 := hlp6.stay (fun b hb2 => hst7' b hb2) hb7
                        have hbel7 := hbel6.trans hb7
                        have hB7 : B ≤ w7.heap.size := Nat.le_trans hB6 hb7.size
                        have ht7 : Tabs w7 := (Ht.out).base hbel7 HTB.out
                        obtain ⟨r, hr⟩ : ∃ r, r = T7.jOpen 1 8 3 := ⟨_, rfl⟩
                        have hop := hpre7.open
                        rw [← hr] at hop
                        have hsame := (jOpen_same T7 1 8 3).2.1
                        rw [← hr, hpre7.len] at hsame
                        have Hop := Lib.hid (pk_open B K3 w7 a d T7 hpk7 ha7 hKa3 hpre7.len hB7 ht7 HTB.out 3 (by omega) (by rw [hpre7.nowaits]; simp) r hr)
                        have hk1 := hpre7.le1
                        have hk2 := hpre7.le2
                        clear hT7 hr hpk6 hpk7 Hcut ha6 hPd6 hlp6
                        go_wp2_with fail
                        refine Hop.out.mono ?_
                        rintro e w8 ⟨hb8, hst8, hor⟩
                        have hst8' : ∀ b, K3 b → w8.heap[b]? = w7.heap[b]? := fun b hb2 => hst8 b hb2 (fun h => h)
                        have ha8 := ha7.kept (hst8' a hKa3)
                        have hPd8 := hPd7.kept (hst8' pd hKpd3)
                        have hlp8 := hlp7.stay (fun b hb2 => hst8' b hb2) hb8
                        have hbel8 := hbel7.trans hb8
                        clear Hop ha7 hPd7 hlp7
                        rcases hor with ⟨h0, rfl, hpk8⟩ | ⟨h0, j2, rfl, hj2l, hpj8, hpk8⟩
                        · rcases hop with ⟨_, h1, _⟩ | ⟨h1, hall8⟩
                          · exact absurd h1 h0
                          rw [h1]
                          have hend := Lib.hid (show (∃ (t cr' : Nat) (T : DS) (K3 : Nat → Prop), True) from ⟨0, 0, T7, K3, trivial⟩)
                          have hall8' : ∀ cs, ∃ k', Pre (r.2.2.crashed cs) all' s' k' := fun cs => ⟨_, hall8 cs⟩
                          clear hend
                          go_wp2_with fail
                          go_roundw
                          case rel => exact ⟨1, cr' + 1, r.2.2, K3, by go_num, by go_num, by omega, by omega, hpk8, hKa3, hKpd3, ha8, hPd8, hsame, hall8', hlp8, hbel8⟩
                          case measure => simp [intOf]
                        · rcases hop with ⟨_, _, h2, h3, h4⟩ | ⟨h1, _⟩
                          rotate_left
                          · rw [h0] at h1; exact absurd h1 (by decide)
                          rw [h2] at hpj8
                          obtain ⟨S8, hS8⟩ : ∃ S8, S8 = r.2.2 := ⟨_, rfl⟩
                          rw [← hS8] at hpk8 h3 h4
                          clear hS8
                          have hlp9 := hlp8.more (K' := fun b => K3 b ∨ b = j2) (fun b hb2 => Or.inl hb2)
                          go_wp2_with fail
                          go_meet
                          exact ⟨S8, k', j2, cr' + 1, _, rfl, by go_num, by omega, hk1, hk2, h3, hpk8, Or.inl hKa3, Or.inr rfl, ha8, hpj8, h4, hlp9, hbel8⟩
                      · have ht6 : Tabs w6 := (Ht.out).base hbel6 HTB.out
                        obtain ⟨r, hr⟩ : ∃ r, r = T6.jOpen 1 8 3 := ⟨_, rfl⟩
                        have hop := hpre.open
                        have hr0 := hpre.open_cut hcut6
                        rw [← hr] at hop hr0
                        have Hop := Lib.hid (pk_open B K3 w6 a d T6 hpk6 ha6 hKa3 hpre.len hB6 ht6 HTB.out 3 (by omega) (by rw [hpre.nowaits]; simp) r hr)
                        have hk1 := hpre.le1
                        have hk2 := hpre.le2
                        clear hr hpk6
                        go_wp2_with fail
                        refine Hop.out.mono ?_
                        rintro e w8 ⟨hb8, hst8, hor⟩
                        have hst8' : ∀ b, K3 b → w8.heap[b]? = w6.heap[b]? := fun b hb2 => hst8 b hb2 (fun h => h)
                        have ha8 := ha6.kept (hst8' a hKa3)
                        have hlp8 := hlp6.stay (fun b hb2 => hst8' b hb2) hb8
                        have hbel8 := hbel6.trans hb8
                        clear Hop ha6 hlp6 hPd6
                        rcases hor with ⟨h0, _⟩ | ⟨h0, j2, rfl, hj2l, hpj8, hpk8⟩
                        · exact absurd hr0 h0
                        rcases hop with ⟨_, _, h2, h3, h4⟩ | ⟨h1, _⟩
                        rotate_left
                        · rw [h0] at h1; exact absurd h1 (by decide)
                        rw [h2] at hpj8
                        obtain ⟨S8, hS8⟩ : ∃ S8, S8 = r.2.2 := ⟨_, rfl⟩
                        rw [← hS8] at hpk8 h3 h4
                        clear hS8
                        have hlp9 := hlp8.more (K' := fun b => K3 b ∨ b = j2) (fun b hb2 => Or.inl hb2)
                        go_wp2_with fail
                        go_meet
                        exact ⟨S8, k', j2, cr' + 1, _, rfl, by go_num, by omega, hk1, hk2, h3, hpk8, Or.inl hKa3, Or.inr rfl, ha8, hpj8, h4, hlp9, hbel8⟩
                    · have hlci : (m2 : Int) ≤ (cr' : Int) := by omega
                      have hB3 : B ≤ wr3.heap.size := by have := hbel3.size; rw [HB.out]; exact this
                      have Hcr := Lib.hid (pk_crash B K3 wr3 d T hpk3 hB3 none 0 0 [] (Sl.nil_ _ _) (fun x hx => by simp at hx) (by omega) (fun ad e => by cases e))
                      obtain ⟨k', hpre⟩ := hall []
                      clear hall
                      go_wp2_with fail
                      refine Hcr.out.mono ?_
                      rintro e w6 ⟨rfl, hpk6, hb6, hst6⟩
                      have hst6' : ∀ b, K3 b → w6.heap[b]? = wr3.heap[b]? := fun b hb2 => hst6 b hb2 (fun h => h)
                      have ha6 := har3.kept (hst6' a hKa3)
                      have hPd6 := hPd3.kept (hst6' pd hKpd3)
                      have hlp6 := hlp3.stay (fun b hb2 => hst6' b hb2) hb6
                      have hbel6 := hbel3.trans hb6
                      have hB6 : B ≤ w6.heap.size := Nat.le_trans hB3 hb6.size
                      obtain ⟨T6, hT6⟩ : ∃ T6, T6 = T.crashed [] := ⟨_, rfl⟩
                      have hcut6 : T6.cut = -1 := by rw [hT6]; rfl
                      rw [← hT6] at hpk6 hpre
                      clear hT6 Hcr hpk3 har3 hPd3 hlp3
                      rcases (by omega : t = 0 ∨ t = 1) with rfl | rfl
                      · have hq61 := hPd6.cell (i := 1) rfl
                        have Hcut := Lib.hid (pk_cut B K3 w6 d T6 hpk6 hB6 m1 hV1)
                        have hpre7 := hpre.cut (if m1 < 0 then -1 else m1)
                        obtain ⟨T7, hT7⟩ : ∃ T7, T7 = { T6 with cut := if m1 < 0 then -1 else m1 } := ⟨_, rfl⟩
                        rw [← hT7] at hpre7
                        go_wp2_with fail
                        refine Hcut.out.mono ?_
                        rintro e w7 ⟨rfl, hpk7, hb7, hst7⟩
                        rw [← hT7] at hpk7
                        have hst7' : ∀ b, K3 b → w7.heap[b]? = w6.heap[b]? := fun b hb2 => hst7 b hb2 (fun h => h)
                        have ha7 := ha6.kept (hst7' a hKa3)
                        have hPd7 := hPd6.kept (hst7' pd hKpd3)
                        have hlp7 := hlp6.stay (fun b hb2 => hst7' b hb2) hb7
                        have hbel7 := hbel6.trans hb7
                        have hB7 : B ≤ w7.heap.size := Nat.le_trans hB6 hb7.size
                        have ht7 : Tabs w7 := (Ht.out).base hbel7 HTB.out
                        obtain ⟨r, hr⟩ : ∃ r, r = T7.jOpen 1 8 3 := ⟨_, rfl⟩
                        have hop := hpre7.open
                        rw [← hr] at hop
                        have hsame := (jOpen_same T7 1 8 3).2.1
                        rw [← hr, hpre7.len] at hsame
                        have Hop := Lib.hid (pk_open B K3 w7 a d T7 hpk7 ha7 hKa3 hpre7.len hB7 ht7 HTB.out 3 (by omega) (by rw [hpre7.nowaits]; simp) r hr)
                        have hk1 := hpre7.le1
                        have hk2 := hpre7.le2
                        clear hT7 hr hpk6 hpk7 Hcut ha6 hPd6 hlp6
                        go_wp2_with fail
                        refine Hop.out.mono ?_
                        rintro e w8 ⟨hb8, hst8, hor⟩
                        have hst8' : ∀ b, K3 b → w8.heap[b]? = w7.heap[b]? := fun b hb2 => hst8 b hb2 (fun h => h)
                        have ha8 := ha7.kept (hst8' a hKa3)
                        have hPd8 := hPd7.kept (hst8' pd hKpd3)
                        have hlp8 := hlp7.stay (fun b hb2 => hst8' b hb2) hb8
                        have hbel8 := hbel7.trans hb8
                        clear Hop ha7 hPd7 hlp7
                        rcases hor with ⟨h0, rfl, hpk8⟩ | ⟨h0, j2, rfl, hj2l, hpj8, hpk8⟩
                        · rcases hop with ⟨_, h1, _⟩ | ⟨h1, hall8⟩
                          · exact absurd h1 h0
                          rw [h1]
                          have hend := Lib.hid (show (∃ (t cr' : Nat) (T : DS) (K3 : Nat → Prop), True) from ⟨0, 0, T7, K3, trivial⟩)
                          have hall8' : ∀ cs, ∃ k', Pre (r.2.2.crashed cs) all' s' k' := fun cs => ⟨_, hall8 cs⟩
                          clear hend
                          go_wp2_with fail
                          go_roundw
                          case rel => exact ⟨1, cr' + 1, r.2.2, K3, by go_num, by go_num, by omega, by omega, hpk8, hKa3, hKpd3, ha8, hPd8, hsame, hall8', hlp8, hbel8⟩
                          case measure => simp [intOf]
                        · rcases hop with ⟨_, _, h2, h3, h4⟩ | ⟨h1, _⟩
                          rotate_left
                          · rw [h0] at h1; exact absurd h1 (by decide)
                          rw [h2] at hpj8
                          obtain ⟨S8, hS8⟩ : ∃ S8, S8 = r.2.2 := ⟨_, rfl⟩
                          rw [← hS8] at hpk8 h3 h4
                          clear hS8
                          have hlp9 := hlp8.more (K' := fun b => K3 b ∨ b = j2) (fun b hb2 => Or.inl hb2)
                          go_wp2_with fail
                          go_meet
                          exact ⟨S8, k', j2, cr' + 1, _, rfl, by go_num, by omega, hk1, hk2, h3, hpk8, Or.inl hKa3, Or.inr rfl, ha8, hpj8, h4, hlp9, hbel8⟩
                      · have ht6 : Tabs w6 := (Ht.out).base hbel6 HTB.out
                        obtain ⟨r, hr⟩ : ∃ r, r = T6.jOpen 1 8 3 := ⟨_, rfl⟩
                        have hop := hpre.open
                        have hr0 := hpre.open_cut hcut6
                        rw [← hr] at hop hr0
                        have Hop := Lib.hid (pk_open B K3 w6 a d T6 hpk6 ha6 hKa3 hpre.len hB6 ht6 HTB.out 3 (by omega) (by rw [hpre.nowaits]; simp) r hr)
                        have hk1 := hpre.le1
                        have hk2 := hpre.le2
                        clear hr hpk6
                        go_wp2_with fail
                        refine Hop.out.mono ?_
                        rintro e w8 ⟨hb8, hst8, hor⟩
                        have hst8' : ∀ b, K3 b → w8.heap[b]? = w6.heap[b]? := fun b hb2 => hst8 b hb2 (fun h => h)
                        have ha8 := ha6.kept (hst8' a hKa3)
                        have hlp8 := hlp6.stay (fun b hb2 => hst8' b hb2) hb8
                        have hbel8 := hbel6.trans hb8
                        clear Hop ha6 hlp6 hPd6
                        rcases hor with ⟨h0, _⟩ | ⟨h0, j2, rfl, hj2l, hpj8, hpk8⟩
                        · exact absurd hr0 h0
                        rcases hop with ⟨_, _, h2, h3, h4⟩ | ⟨h1, _⟩
                        rotate_left
                        · rw [h0] at h1; exact absurd h1 (by decide)
                        rw [h2] at hpj8
                        obtain ⟨S8, hS8⟩ : ∃ S8, S8 = r.2.2 := ⟨_, rfl⟩
                        rw [← hS8] at hpk8 h3 h4
                        clear hS8
                        have hlp9 := hlp8.more (K' := fun b => K3 b ∨ b = j2) (fun b hb2 => Or.inl hb2)
                        go_wp2_with fail
                        go_meet
                        exact ⟨S8, k', j2, cr' + 1, _, rfl, by go_num, by omega, hk1, hk2, h3, hpk8, Or.inl hKa3, Or.inr rfl, ha8, hpj8, h4, hlp9, hbel8⟩
                case rest =>
                  obtain ⟨S2, k2, j2, cr2, K2, rfl, rfl, hcr2, hsk, hka, hoff2, hpk2, hKa2, hKj2, har2, hpj2, hgood2, hlp2, hbel2⟩ := hcut
                  obtain ⟨wm2, hwm2⟩ : ∃ w' : World, w' = wc := ⟨_, rfl⟩
                  obtain rfl := hwm2
                  clear hW5 hPd5 hKpd'
                  have hBx : B ≤ wm2.heap.size := by have := hbel2.size; rw [HB.out]; exact this
                  have Hcut := Lib.hid (pk_cut B K2 wm2 d S2 hpk2 hBx (-1) (by omega))
                  have hgood3 := hgood2.cut (if (-1 : Int) < 0 then -1 else -1)
                  obtain ⟨S3, hS3⟩ : ∃ S3, S3 = { S2 with cut := if (-1 : Int) < 0 then -1 else -1 } := ⟨_, rfl⟩
                  have hoff3 : S3.off = false := by rw [hS3]; exact hoff2
                  have HS3 := Lib.hid hS3
                  rw [← hS3] at hgood3
                  clear hS3
                  go_wp2_with fail
                  refine Hcut.out.mono ?_
                  rintro e w6 ⟨rfl, hpk6, hb6, hst6⟩
                  rw [← HS3.out] at hpk6
                  have hst6' : ∀ b, K2 b → w6.heap[b]? = wm2.heap[b]? := fun b hb2 => hst6 b hb2 (fun h => h)
                  have ha6 := har2.kept (hst6' a hKa2)
                  have hpj6 := hpj2.kept (hst6' j2 hKj2)
                  have hlp6 := hlp2.stay (fun b hb2 => hst6' b hb2) hb6
                  have hbel6 := hbel2.trans hb6
                  have hB6 : B ≤ w6.heap.size := Nat.le_trans hBx hb6.size
                  have ht6 : Tabs w6 := (Ht.out).base hbel6 HTB.out
                  obtain ⟨L2, hL2⟩ : ∃ L2, L2 = all'.take k2 := ⟨_, rfl⟩
                  rw [← hL2] at hgood3
                  have hl2 : L2.length = k2 := by rw [hL2, List.length_take]; omega
                  have hgt : ∀ t, Good (S3.reads t) L2 k2 ∧ (S3.reads t).off = false := fun t => by
                    refine ⟨?_, by rw [(reads_same S3 t).2.2.2.2.2]; exact hoff3⟩
                    induction t with
                    | zero => exact hgood3
                    | succ t ih => exact ih.count
                  have hget : ∀ (i : Nat) (l : List Int), L2[i]? = some l → ∀ t, (S3.reads t).jGet 1 8 3 L2.length i = (l, 0, S3.reads (t + 1)) := fun i l hl t => (hgt t).1.get (hgt t).2 hl
                  have HL2 := Lib.hid hL2
                  have Hlo := Lib.hid (loads_is B K2 w6 a d S3 hpk6 ha6 hKa2 hgood3.len hB6 ht6 HTB.out j2 L2 (by rw [hl2]; exact hpj6) hKj2 (by omega) (fun l hl => (hgood3.loads l hl).1) hget)
                  have hj6l := hpj6.lt
                  clear Hcut hL2 har2 hpj2 hlp2 hpk2 hget
                  go_wp2_with fail
                  refine Hlo.out.mono ?_
                  rintro e w7 ⟨v7, K7, R7, rfl, hKK, hRK, hvo, hpk7, hlo7, hb7, hst7⟩
                  have hst7' : ∀ b, K2 b → w7.heap[b]? = w6.heap[b]? := fun b hb2 => hst7 b hb2 (fun h => h)
                  have ha7 := ha6.kept (hst7' a hKa2)
                  have hpj7 := hpj6.kept (hst7' j2 hKj2)
                  have hlp7 := hlp6.stay (fun b hb2 => hst7' b hb2) hb7
                  have hbel7 := hbel6.trans hb7
                  have hB7 : B ≤ w7.heap.size := Nat.le_trans hB6 hb7.size
                  have hsure7 := hlp7.sure hse
                  have hall7 := hlp7.all
                  have hgot7 := hlo7.lr
                  have Hbg := Lib.hid (begins_is w7 vs' v7 (all'.take s') L2 hsure7 hgot7 (by rw [hl2, List.length_take]; omega) (by omega) (fun i l hl => by
                    have hi := (List.getElem?_eq_some_iff.1 hl).1
                    rw [List.length_take] at hi
                    rw [List.getElem?_take, if_pos (by omega)] at hl
                    rw [HL2.out, List.getElem?_take, if_pos (by omega)]
                    exact hl))
                  have hown7 : LP w7 B (fun b => K7 b ∧ b ≠ j2) R7 v7 L2 v7 L2.length := by
                    obtain ⟨us, g1, g2, g3⟩ := hlo7
                    exact LO.pair ⟨us, g1, fun b hb2 => ⟨⟨(g2 b hb2).1, fun e => by have := hvo b hb2; omega⟩, (g2 b hb2).2⟩, g3⟩ (fun b hb2 => ⟨(hRK b hb2).1, fun e => by have := (hRK b hb2).2; omega⟩)
                  have hend := Lib.hid (show WInv B w w7 a d j2 v7 v7 L2.length K7 R7 (S3.reads L2.length) L2 L2.length from ⟨hpk7, hKK a hKa2, hKK j2 hKj2, ha7, by rw [hl2]; exact hpj7, by omega, fun _ => rfl, by rw [hl2]; exact (hgt k2).1, hown7, hbel7⟩)
                  have hoffe : (S3.reads L2.length).off = false := (hgt L2.length).2
                  clear Hlo ha6 hpj6 hlp6 hpk6 hpk7 hown7 hlo7 hlp7 ha7 hpj7 hgt hsure7
                  go_wp2_with fail
                  refine Hbg.out.mono ?_
                  rintro e w8 ⟨rfl, hb8⟩
                  have Hbg2 := Lib.hid (begins_is w8 v7 va' L2 all' (hgot7.below hb8) (hall7.below hb8) (by omega) (by omega) (fun i l hl => by
                    have hi := (List.getElem?_eq_some_iff.1 hl).1
                    rw [HL2.out, List.getElem?_take, if_pos (by omega)] at hl
                    exact hl))
                  have hend8 := Lib.hid (hend.out.below hB7 hb8)
                  have hB8 : B ≤ w8.heap.size := Nat.le_trans hB7 hb8.size
                  clear Hbg hend hgot7 hall7
                  go_wp2_with fail
                  refine Hbg2.out.mono ?_
                  rintro e w9 ⟨rfl, hb9⟩
                  have hend9 := Lib.hid (hend8.out.below hB8 hb9)
                  clear Hbg2 hend8
                  go_wp2_with fail
                  go_roundw
                  case rel => exact ⟨k + 1, S3.reads L2.length, L2, L2.length, j2, K7, R7, v7, v7, cr2, by omega, by go_num, rfl, rfl, rfl, rfl, by omega, hoffe, hend9.out⟩
                  case measure => simp [intOf]; omega
        · obtain rfl : k = n := by omega
          go_wp2
          go_ret
          have := hW.bel
          rw [HB.out] at this
          exact ⟨rfl, this⟩
end Go.Proofs.YteliebinhdphlaaDoor
