/- The law JournalDoes, walked. -/
import Derived.Test.YteliebinhdphlaaDoorM7
namespace Go.Proofs.YteliebinhdphlaaDoor
set_option maxRecDepth 100000
open Go.RowKit Go.Deep
set_option linter.unusedSimpArgs false
set_option linter.unusedVariables false

theorem oneJ_is (B : Nat) (w : World) (bb d a c : Nat) (S : DS) (kd : Int) (next : Nat) (h : JInv B w bb d a c S kd next) (hB : B ≤ w.heap.size) (ht : Tabs w) (hTB : NoTabs (fun k => B ≤ k)) (kind n : Int) (hn : -9223372036854775808 ≤ n ∧ n ≤ 9223372036854775807)
    (A : Option Addr) (q cc : Nat) (xs : List Int) (hx : Sl w A q (u8s xs)) (hxb : ∀ x ∈ xs, 0 ≤ x ∧ x < 256) (hq : q ≤ 9223372036854775807) (hA : ∀ ad, A = some ad → 0 < q → ad.block < B) (hmany : S.waits.length ≤ 90000) :
    Calls Tryd.prog 16 #[.pointer (some ⟨bb, 0, none⟩), .agg #[.int .i64 kind, .int .i64 n, .slice A q cc]] w (OnePostJ B w bb d a c S) := by
  by_cases k1 : kind = 1
  · subst k1; exact onej_add B w bb d a c S kd next h hB ht hTB n hn A q cc xs hx hxb hq hA hmany
  by_cases k2 : kind = 2
  · subst k2; exact onej_flush B w bb d a c S kd next h hB ht hTB n hn A q cc xs hx hxb hq hA hmany
  by_cases k3 : kind = 3
  · subst k3; exact onej_get B w bb d a c S kd next h hB ht hTB n hn A q cc xs hx hxb hq hA hmany
  by_cases k4 : kind = 4
  · subst k4; exact onej_cut B w bb d a c S kd next h hB ht hTB n hn A q cc xs hx hxb hq hA hmany
  by_cases k5 : kind = 5
  · subst k5; exact onej_crash B w bb d a c S kd next h hB ht hTB n hn A q cc xs hx hxb hq hA hmany
  by_cases k6 : kind = 6
  · subst k6; exact onej_open B w bb d a c S kd next h hB ht hTB n hn A q cc xs hx hxb hq hA hmany
  exact onej_other B w bb d a c S kd next h hB ht hTB kind ⟨k1, k2, k3, k4, k5, k6⟩ n hn A q cc xs hx hxb hq hA hmany

set_option maxHeartbeats 12800000 in
theorem journalDoes_walk (w : World) (ht : Tabs w) (A0 : Option Addr) (n0 c0 : Nat) (xs : List Int) (hx0 : Sl w A0 n0 (u8s xs)) (hxb0 : ∀ x ∈ xs, 0 ≤ x ∧ x < 256) (hn0 : n0 ≤ 9223372036854775807) (hnc0 : n0 ≤ c0) (room : Int) (hroom : 0 ≤ room ∧ room ≤ 255)
    (A : Option Addr) (n c1 : Nat) (V : Nat → Nat → Int) (Bv : Nat → Value) (Z : Nat → List Int) (hx : Dos w A n 2 V Bv Z) (hok : DosOk n 2 V Z) (hn : n ≤ 9223372036854775807) :
    Calls Tryd.prog 3 #[.slice A0 n0 c0, .int .u8 room, .slice A n c1] w fun e w' => e = .returned (.bool true) ∧ Below w.heap.size w w' := by
  obtain ⟨room, rfl⟩ := Int.eq_ofNat_of_zero_le hroom.1
  obtain ⟨rr, hrr, hr2⟩ : ∃ rr, rr = room % 11 ∧ rr ≤ 10 := ⟨_, rfl, by omega⟩
  have hkm : Int.tmod (room : Int) 11 = (rr : Int) := by rw [Int.tmod_eq_emod_of_nonneg (by omega), hrr]; rfl
  have hkm2 : (room : Int) % 11 = (rr : Int) := by omega
  have hkw : IntKind.i64.wrap (rr : Int) = (rr : Int) := by rw [IntKind.wrap_i64]; omega
  have hk8 : (rr : Int) % 256 = (rr : Int) := by omega
  have Ht := Lib.hid ht
  have HTB := Lib.hid (NoTabs.of_tabs ht (fun k h => h))
  have Haw := Lib.hid (awake9_any w ht)
  have Hrr := Lib.hid hrr
  clear ht hrr
  go_enter Tryd.func3, Tryd.ntmps3
  go_wp2_with fail
  refine Haw.out.mono ?_
  rintro e w1 ⟨rfl, hb1⟩
  go_wp2_with fail
  refine (npj_add w1).mono ?_
  rintro e w2 ⟨rfl, hb2⟩
  go_wp2_with fail
  refine (npj_len w2).mono ?_
  rintro e w3 ⟨rfl, hb3⟩
  go_wp2_with fail
  refine (npj_room w3).mono ?_
  rintro e w4 ⟨rfl, hb4⟩
  go_wp2_with fail
  refine (npj_flush w4).mono ?_
  rintro e w5 ⟨rfl, hb5⟩
  go_wp2_with fail
  refine (pjopen_nil w5 3 (by omega)).mono ?_
  rintro e w6 ⟨rfl, hb6⟩
  have hbt6 : Below w.heap.size w w6 := by
    have s1 := hb1.size
    have s2 := hb2.size
    have s3 := hb3.size
    have s4 := hb4.size
    have s5 := hb5.size
    exact (((((hb1.trans (hb2.mono s1)).trans (hb3.mono (by omega))).trans (hb4.mono (by omega))).trans (hb5.mono (by omega))).trans (hb6.mono (by omega)))
  have hfew := few9_is w6 A n c1 V Bv Z (hx.below hbt6) hok hn
  have Hfew := Lib.hid hfew
  clear hfew hb1 hb2 hb3 hb4 hb5 hb6
  go_wp2_with fail
  refine Hfew.out.mono ?_
  rintro e w7 ⟨qf, rfl, hqf, hb7⟩
  have hbt7 := hbt6.trans (hb7.mono hbt6.size)
  cases qf with
  | false =>
    go_wp2_with fail
    go_ret
    exact ⟨rfl, hbt7⟩
  | true =>
  have hn40 := hqf rfl
  by_cases hbig : 1280 < n0
  · have hbigi : (1280 : Int) < (n0 : Int) := by omega
    go_wp2_with fail
    go_ret
    exact ⟨rfl, hbt7⟩
  have hbigi : (n0 : Int) ≤ 1280 := by omega
  have hload := rload_in w7 A0 n0 c0 10 rr xs (hx0.below hbt7) hxb0 (by omega) (by omega) hr2 (by omega)
  have Hload := Lib.hid hload
  clear hload hqf Hfew hb7 hbt6
  go_wp2_with fail
  refine Hload.out.mono ?_
  rintro e w8 ⟨hb8, ⟨hsec, c, rfl, hG8⟩ | ⟨hsec, rfl⟩⟩
  rotate_left
  · go_wp2_with fail
    go_ret
    exact ⟨rfl, hbt7.trans (hb8.mono hbt7.size)⟩
  have hbt8 := hbt7.trans (hb8.mono hbt7.size)
  have hmade := made9_is w8 A0 n0 c0 rr xs (hx0.below hbt8) hnc0 hxb0 hr2 (by omega)
  have Hmade := Lib.hid hmade
  clear hmade Hload
  go_wp2_with fail
  refine Hmade.out.mono ?_
  rintro e w9 ⟨hb9, ⟨_, d, a, F, rfl, hF9, hFB9, ha9, hal9, hFa9⟩ | ⟨hsec2, _⟩⟩
  rotate_left
  · omega
  have hbt9 := hbt8.trans (hb9.mono hbt8.size)
  have hG9 := hG8.only (Only.of_below (F := Nothing) hb9) (fun _ _ hk => hk)
  have hGlo : ∀ k, (w7.heap.size ≤ k ∧ k < w8.heap.size) → k < w8.heap.size ∧ w.heap.size ≤ k := fun k hk => ⟨hk.2, Nat.le_trans hbt7.size hk.1⟩
  obtain ⟨w10, hw10⟩ : ∃ w10, w10 = w9.alloc (.cells #[.pointer (some ⟨d, 0, none⟩), .pointer (some ⟨a, 0, none⟩), .pointer none, .pointer (some ⟨c, 0, none⟩), .pointer none] 44) := ⟨_, rfl⟩
  obtain ⟨bb, hbb⟩ : ∃ bb, bb = w9.heap.size := ⟨_, rfl⟩
  have hb10 : Below w9.heap.size w9 w10 := by rw [hw10]; exact below_alloc _ _
  have hBB : BB w10 bb d a c (.pointer none) (.pointer none) := by rw [hw10, hbb]; exact Blk.new _ _ _
  have hbt10 := hbt9.trans (hb10.mono hbt9.size)
  have hF10 := hF9.only (Only.of_below (F := Nothing) hb10) (fun _ _ hk => hk)
  have hG10 := hG9.only (Only.of_below (F := Nothing) hb10) (fun _ _ hk => hk)
  have ha10 := ha9.kept (hb10.block _ ha9.lt)
  have hal := ha9.lt
  have hbbl := Blk.lt hBB
  have s8 := hbt8.size
  have s9 := hbt9.size
  have s89 := hb9.size
  obtain ⟨S0, hS0⟩ : ∃ S0, S0 = DS.loaded 10 (rr : Int) xs := ⟨_, rfl⟩
  rw [← hS0] at hF10 hG10
  have hlen0 : S0.kept.length = 10 := by rw [hS0]; simp [DS.loaded]
  have hw0 : S0.waits = [] := by rw [hS0]; rfl
  have hboth : BothK w.heap.size (fun k => k = a ∨ k = bb) w10 d c S0 := ⟨F, _, hF10, hG10, fun k hk hg => by have := hFB9 k hk; have := (hGlo k hg).1; omega, fun k hk => Nat.le_trans s8 (hFB9 k hk), fun k hg => (hGlo k hg).2, fun k hk => by
    rcases hk with rfl | rfl
    · exact ⟨hFa9, fun hg => by have := (hGlo _ hg).1; omega, by omega, by omega⟩
    · exact ⟨fun hf => by have := hF9.fin hf; omega, fun hg => by have := (hGlo _ hg).1; omega, by omega, hbbl⟩⟩
  obtain ⟨r, hr⟩ : ∃ r, r = S0.jOpen 1 8 3 := ⟨_, rfl⟩
  have hsame := jOpen_same S0 1 8 3
  have hkin := @jOpen_kind S0 1 8 3
  have Hop := Lib.hid (bothj_open w.heap.size _ w10 bb d a c S0 _ _ hboth (Or.inl rfl) (Or.inr rfl) ha10 hBB hlen0 hbt10.size (Ht.out.below hbt10) HTB.out 3 (by omega) (by rw [hw0]; simp) r hr)
  rw [← hr, hw0, hlen0] at hsame
  have Hw10 := Lib.hid hw10
  have Hbb := Lib.hid hbb
  clear hw10 hbb hr hS0 hboth hF9 hF10 hG8 hG9 hG10 ha9 ha10 hBB hGlo Hmade hb8 hb9 hb10 hkin hal hbbl
  go_upto_region 19 with fail
  rw [← Hw10.out, ← Hbb.out]
  go_wp2_with fail
  refine Hop.out.mono ?_
  rintro e w11 ⟨rfl, ha11, hb11, hor⟩
  have hbt11 := hbt10.trans hb11
  rcases hor with ⟨_, hb12, hBB11, _⟩ | ⟨h0, j, q, hjq, hboth, hBB11, hpj, hrj⟩
  · have hc4 := Blk.cell hBB11 (i := 4) rfl
    go_wp2_with fail
    go_ret
    exact ⟨rfl, hbt11⟩
  have hc4 := Blk.cell hBB11 (i := 4) rfl
  have hinv : JInv w.heap.size w11 bb d a c r.2.2 3 r.2.1 := ⟨j, q, hjq, hboth, ha11, hBB11, hpj, hrj, by omega, hsame.2.2, hsame.2.1⟩
  have hwt : r.2.2.waits.length ≤ 8 := by have := hsame.1; simp at this; omega
  obtain ⟨S1, hS1⟩ : ∃ S1, S1 = r.2.2 := ⟨_, rfl⟩
  obtain ⟨n1, hn1⟩ : ∃ n1, n1 = r.2.1 := ⟨_, rfl⟩
  rw [← hS1, ← hn1] at hinv
  rw [← hS1] at hwt
  clear hS1 hn1 hboth hBB11 hpj hrj ha11 hb11 h0 hsame Hop Hw10 Hbb
  go_wp2_with fail
  go_loopw [90] (fun i wr => ∃ (k : Nat) (S : DS) (kd : Int) (next : Nat), k ≤ n ∧ i = .int .i64 k ∧ JInv w.heap.size wr bb d a c S kd next ∧ Below w.heap.size w wr ∧ S.waits.length ≤ 8 + 8 * k) (fun i _ => n - (intOf i).toNat)
  case atStart => exact ⟨0, S1, 3, n1, by omega, rfl, hinv, hbt11, by omega⟩
  case round =>
    clear hinv hwt hc4
    obtain ⟨k, S, kd, next, hk, rfl, hinv, hb, hw⟩ := hrel
    by_cases hlt : k < n
    · obtain ⟨ad, A', c', rfl, e0, e1, e2, hsl⟩ := hx.three hlt
      replace e0 := (hb.cell (World.block_lt_of_cell? w _ e0)).trans e0
      replace e1 := (hb.cell (World.block_lt_of_cell? w _ e1)).trans e1
      replace e2 := (hb.cell (World.block_lt_of_cell? w _ e2)).trans e2
      have hokk := hok k hlt
      have hV1 := hokk.1 1 (by omega)
      have hA' : ∀ ad, A' = some ad → 0 < (Z k).length → ad.block < w.heap.size := by
        intro ad2 e hpos
        obtain ⟨ad3, u3, ee, hc3, _⟩ := hsl.num hpos
        have e4 : ad3 = ad2 := Option.some.inj (ee.symm.trans e)
        have := World.block_lt_of_cell? w _ hc3
        rw [addr_block, e4] at this
        exact this
      obtain ⟨kind, hkind⟩ : ∃ x, x = V k 0 := ⟨_, rfl⟩
      obtain ⟨m1, hm1⟩ : ∃ x, x = V k 1 := ⟨_, rfl⟩
      obtain ⟨zs, hzs⟩ : ∃ x, x = Z k := ⟨_, rfl⟩
      rw [← hkind] at e0
      rw [← hm1] at e1 hV1
      rw [← hzs] at e2 hsl hA' hokk
      obtain ⟨zl, hzl⟩ : ∃ x, x = zs.length := ⟨_, rfl⟩
      have hslm := hsl
      rw [← hzl] at e2 hslm hA' hokk
      have hzlm := hokk.2.2
      have hzb := hokk.2.1
      clear hkind hm1 hzs hokk hsl
      obtain ⟨wd, hwd⟩ : ∃ wd, wd = wr.alloc (.cells #[.int .i64 kind, .int .i64 m1, .slice A' zl c'] 47) := ⟨_, rfl⟩
      have hbd : Below wr.heap.size wr wd := by rw [hwd]; exact below_alloc _ _
      have hPd : Blk wd wr.heap.size 47 [.int .i64 kind, .int .i64 m1, .slice A' zl c'] := by rw [hwd]; exact Blk.new _ _ _
      have hbt := hb.trans (hbd.mono hb.size)
      have hbtd : Below w.heap.size w wd.drew := hbt.drew
      have Hone := Lib.hid (oneJ_is w.heap.size wd.drew bb d a c S kd next ((hinv.below hbd).below (Below.refl _ _).drew) hbtd.size (Ht.out.below hbtd) HTB.out kind m1 hV1 A' zl c' zs (hslm.below hbtd) hzb hzlm hA' (by omega))
      have q0 : wd.drew.cell? ⟨wr.heap.size, 0, none⟩ = some (.int .i64 kind) := hPd.cell (i := 0) rfl
      have q1 : wd.drew.cell? ⟨wr.heap.size, 1, none⟩ = some (.int .i64 m1) := hPd.cell (i := 1) rfl
      have q2 : wd.drew.cell? ⟨wr.heap.size, 2, none⟩ = some (.slice A' zl c') := hPd.cell (i := 2) rfl
      have Hwd := Lib.hid hwd
      clear hwd hslm hzl hA' hzb hPd hinv
      go_upto_region 26 with fail
      rw [← Hwd.out]
      clear Hwd e0 e1 e2
      refine wp_region_held_drew (S := fun _ => True) (by kernel_rfl) trivial (fun hHeld => ?_)
      refine wpAnyH_take (i := 0) (oi := ?oiz1) (v := ?vz1) ?hiz1 ?haz1 ?hbz1 ?hcz1 ?hqz1 ?hyz1 (by assumption) ?restz1
      case hiz1 => (simp only [List.getElem?_toArray, List.getElem?_cons_zero, List.getElem?_cons_succ]; rfl)
      case haz1 => kernel_rfl
      case hbz1 => kernel_rfl
      case hcz1 => kernel_rfl
      case hyz1 => exact Or.inl ⟨by rfl, by (intro w hSw; (try dsimp only at hSw); go_split_ands; go_simp; (try with_reducible rfl))⟩
      case hqz1 => exact fun _ _ _ h => h
      try simp only [Act.put, List.setIfInBounds_toArray, List.set_cons_zero, List.set_cons_succ]
      refine wpAnyH_ready (rs := [1]) (by kernel_rfl) (by simp) ?_
      refine AllReadyH.cons (o := ?oiz2) ?hiz2 (fun K hK => ?stepz2) AllReadyH.nil
      case hiz2 => (simp only [List.getElem?_toArray, List.getElem?_cons_zero, List.getElem?_cons_succ]; rfl)
      go_simp
      refine hK.out _ _ trivial (fun hHeld => ?_)
      clear hK K
      try simp only [Act.put, List.setIfInBounds_toArray, List.set_cons_zero, List.set_cons_succ]
      refine wpAnyH_ready (rs := [2]) (by kernel_rfl) (by simp) ?_
      refine AllReadyH.cons (o := ?oiz3) ?hiz3 (fun K hK => ?stepz3) AllReadyH.nil
      case hiz3 => (simp only [List.getElem?_toArray, List.getElem?_cons_zero, List.getElem?_cons_succ]; rfl)
      go_simp
      refine Hone.out.mono ?_
      rintro e w13 ⟨rfl, S', kd', next', hinv', hb13, hw13⟩
      obtain ⟨j, q, hjq, hboth, ha13, hBB13, hpj13, hrj13, hkd, hnx, hlen⟩ := hinv'
      obtain ⟨F, G, hF, hG, hFG, hFB, hGB, hKK⟩ := hboth
      have hbt13 := hbtd.trans hb13
      have ht13 : Tabs w13 := Ht.out.below hbt13
      have hs18 : Spot ((1 : Nat) : Int) ((8 : Nat) : Int) := by unfold Spot; omega
      have hT13 := And.intro (Blk.cell hBB13 (i := 2) rfl) (And.intro (Blk.cell hBB13 (i := 4) rfl) (Blk.cell hrj13 (i := 4) rfl))
      have hwn : IntKind.i64.wrap ((8 : Int) - (next' : Int)) = (8 : Int) - (next' : Int) := by rw [IntKind.wrap_i64]; omega
      clear Hone q0 q1 q2
      refine hK.out _ _ trivial (fun hHeld => ?_)
      clear hK K
      try simp only [Act.put, List.setIfInBounds_toArray, List.set_cons_zero, List.set_cons_succ]
      refine wpAnyH_weaken (T := fun w0 => w0.cell? ⟨bb, 2, none⟩ = some (.pointer (some ⟨j, 0, none⟩)) ∧ w0.cell? ⟨bb, 4, none⟩ = some (.pointer (some ⟨q, 0, none⟩)) ∧ w0.cell? ⟨q, 4, none⟩ = some (.int .i64 next')) (fun _ _ => trivial) _ _ _ _ ?_
      clear hHeld
      have hHeld := hT13
      refine wpAnyH_take (i := 3) (oi := ?oiz5) (v := ?vz5) ?hiz5 ?haz5 ?hbz5 ?hcz5 ?hqz5 ?hyz5 (by assumption) ?restz5
      case hiz5 => (simp only [List.getElem?_toArray, List.getElem?_cons_zero, List.getElem?_cons_succ]; rfl)
      case haz5 => kernel_rfl
      case hbz5 => kernel_rfl
      case hcz5 => kernel_rfl
      case hyz5 => exact Or.inl ⟨by rfl, by (intro w hSw; (try dsimp only at hSw); go_split_ands; go_simp; (try with_reducible rfl))⟩
      case hqz5 => exact fun _ _ _ h => h
      try simp only [Act.put, List.setIfInBounds_toArray, List.set_cons_zero, List.set_cons_succ]
      refine wpAnyH_take (i := 4) (oi := ?oiz6) (v := ?vz6) ?hiz6 ?haz6 ?hbz6 ?hcz6 ?hqz6 ?hyz6 (by assumption) ?restz6
      case hiz6 => (simp only [List.getElem?_toArray, List.getElem?_cons_zero, List.getElem?_cons_succ]; rfl)
      case haz6 => kernel_rfl
      case hbz6 => kernel_rfl
      case hcz6 => kernel_rfl
      case hyz6 => exact Or.inl ⟨by rfl, by (intro w hSw; (try dsimp only at hSw); go_split_ands; go_simp; (try with_reducible rfl))⟩
      case hqz6 => exact fun _ _ _ h => h
      try simp only [Act.put, List.setIfInBounds_toArray, List.set_cons_zero, List.set_cons_succ]
      refine wpAnyH_take (i := 5) (oi := ?oiz7) (v := ?vz7) ?hiz7 ?haz7 ?hbz7 ?hcz7 ?hqz7 ?hyz7 (by assumption) ?restz7
      case hiz7 => (simp only [List.getElem?_toArray, List.getElem?_cons_zero, List.getElem?_cons_succ]; rfl)
      case haz7 => kernel_rfl
      case hbz7 => kernel_rfl
      case hcz7 => kernel_rfl
      case hyz7 => exact Or.inl ⟨by rfl, by (intro w hSw; (try dsimp only at hSw); go_split_ands; go_simp; (try with_reducible rfl))⟩
      case hqz7 => exact fun _ _ _ h => h
      try simp only [Act.put, List.setIfInBounds_toArray, List.set_cons_zero, List.set_cons_succ]
      refine wpAnyH_take (i := 6) (oi := ?oiz8) (v := ?vz8) ?hiz8 ?haz8 ?hbz8 ?hcz8 ?hqz8 ?hyz8 (by assumption) ?restz8
      case hiz8 => (simp only [List.getElem?_toArray, List.getElem?_cons_zero, List.getElem?_cons_succ]; rfl)
      case haz8 => kernel_rfl
      case hbz8 => kernel_rfl
      case hcz8 => kernel_rfl
      case hyz8 => exact Or.inl ⟨by rfl, by (intro w hSw; (try dsimp only at hSw); go_split_ands; go_simp; (try with_reducible rfl))⟩
      case hqz8 => exact fun _ _ _ h => h
      try simp only [Act.put, List.setIfInBounds_toArray, List.set_cons_zero, List.set_cons_succ]
      refine wpAnyH_take (i := 7) (oi := ?oiz9) (v := ?vz9) ?hiz9 ?haz9 ?hbz9 ?hcz9 ?hqz9 ?hyz9 (by assumption) ?restz9
      case hiz9 => (simp only [List.getElem?_toArray, List.getElem?_cons_zero, List.getElem?_cons_succ]; rfl)
      case haz9 => kernel_rfl
      case hbz9 => kernel_rfl
      case hcz9 => kernel_rfl
      case hyz9 => exact Or.inl ⟨by rfl, by (intro w hSw; (try dsimp only at hSw); go_split_ands; go_simp; (try with_reducible rfl))⟩
      case hqz9 => exact fun _ _ _ h => h
      try simp only [Act.put, List.setIfInBounds_toArray, List.set_cons_zero, List.set_cons_succ]
      refine wpAnyH_take (i := 8) (oi := ?oiz10) (v := ?vz10) ?hiz10 ?haz10 ?hbz10 ?hcz10 ?hqz10 ?hyz10 (by assumption) ?restz10
      case hiz10 => (simp only [List.getElem?_toArray, List.getElem?_cons_zero, List.getElem?_cons_succ]; rfl)
      case haz10 => kernel_rfl
      case hbz10 => kernel_rfl
      case hcz10 => kernel_rfl
      case hyz10 => exact Or.inl ⟨by rfl, by (intro w hSw; (try dsimp only at hSw); go_split_ands; go_simp; (try with_reducible rfl))⟩
      case hqz10 => exact fun _ _ _ h => h
      try simp only [Act.put, List.setIfInBounds_toArray, List.set_cons_zero, List.set_cons_succ]
      refine wpAnyH_take (i := 10) (oi := ?oiz11) (v := ?vz11) ?hiz11 ?haz11 ?hbz11 ?hcz11 ?hqz11 ?hyz11 (by assumption) ?restz11
      case hiz11 => (simp only [List.getElem?_toArray, List.getElem?_cons_zero, List.getElem?_cons_succ]; rfl)
      case haz11 => kernel_rfl
      case hbz11 => kernel_rfl
      case hcz11 => kernel_rfl
      case hyz11 => exact Or.inl ⟨by rfl, by (intro w hSw; (try dsimp only at hSw); go_split_ands; go_simp; (try with_reducible rfl))⟩
      case hqz11 => exact fun _ _ _ h => h
      try simp only [Act.put, List.setIfInBounds_toArray, List.set_cons_zero, List.set_cons_succ]
      refine wpAnyH_take (i := 11) (oi := ?oiz12) (v := ?vz12) ?hiz12 ?haz12 ?hbz12 ?hcz12 ?hqz12 ?hyz12 (by assumption) ?restz12
      case hiz12 => (simp only [List.getElem?_toArray, List.getElem?_cons_zero, List.getElem?_cons_succ]; rfl)
      case haz12 => kernel_rfl
      case hbz12 => kernel_rfl
      case hcz12 => kernel_rfl
      case hyz12 => exact Or.inl ⟨by rfl, by (intro w hSw; (try dsimp only at hSw); go_split_ands; go_simp; (try with_reducible rfl))⟩
      case hqz12 => exact fun _ _ _ h => h
      try simp only [Act.put, List.setIfInBounds_toArray, List.set_cons_zero, List.set_cons_succ]
      refine wpAnyH_take (i := 12) (oi := ?oiz13) (v := ?vz13) ?hiz13 ?haz13 ?hbz13 ?hcz13 ?hqz13 ?hyz13 (by assumption) ?restz13
      case hiz13 => (simp only [List.getElem?_toArray, List.getElem?_cons_zero, List.getElem?_cons_succ]; rfl)
      case haz13 => kernel_rfl
      case hbz13 => kernel_rfl
      case hcz13 => kernel_rfl
      case hyz13 => exact Or.inl ⟨by rfl, by (intro w hSw; (try dsimp only at hSw); go_split_ands; go_simp; (try with_reducible rfl))⟩
      case hqz13 => exact fun _ _ _ h => h
      try simp only [Act.put, List.setIfInBounds_toArray, List.set_cons_zero, List.set_cons_succ]
      refine wpAnyH_take (i := 13) (oi := ?oiz14) (v := ?vz14) ?hiz14 ?haz14 ?hbz14 ?hcz14 ?hqz14 ?hyz14 (by assumption) ?restz14
      case hiz14 => (simp only [List.getElem?_toArray, List.getElem?_cons_zero, List.getElem?_cons_succ]; rfl)
      case haz14 => kernel_rfl
      case hbz14 => kernel_rfl
      case hcz14 => kernel_rfl
      case hyz14 => exact Or.inl ⟨by rfl, by (intro w hSw; (try dsimp only at hSw); go_split_ands; go_simp; (try with_reducible rfl))⟩
      case hqz14 => exact fun _ _ _ h => h
      try simp only [Act.put, List.setIfInBounds_toArray, List.set_cons_zero, List.set_cons_succ]
      refine wpAnyH_take (i := 14) (oi := ?oiz15) (v := ?vz15) ?hiz15 ?haz15 ?hbz15 ?hcz15 ?hqz15 ?hyz15 (by assumption) ?restz15
      case hiz15 => (simp only [List.getElem?_toArray, List.getElem?_cons_zero, List.getElem?_cons_succ]; rfl)
      case haz15 => kernel_rfl
      case hbz15 => kernel_rfl
      case hcz15 => kernel_rfl
      case hyz15 => exact Or.inl ⟨by rfl, by (intro w hSw; (try dsimp only at hSw); go_split_ands; go_simp; (try with_reducible rfl))⟩
      case hqz15 => exact fun _ _ _ h => h
      try simp only [Act.put, List.setIfInBounds_toArray, List.set_cons_zero, List.set_cons_succ]
      refine wpAnyH_take (i := 15) (oi := ?oiz16) (v := ?vz16) ?hiz16 ?haz16 ?hbz16 ?hcz16 ?hqz16 ?hyz16 (by assumption) ?restz16
      case hiz16 => (simp only [List.getElem?_toArray, List.getElem?_cons_zero, List.getElem?_cons_succ]; rfl)
      case haz16 => kernel_rfl
      case hbz16 => kernel_rfl
      case hcz16 => kernel_rfl
      case hyz16 => exact Or.inl ⟨by rfl, by (intro w hSw; (try dsimp only at hSw); go_split_ands; go_simp; (try with_reducible rfl))⟩
      case hqz16 => exact fun _ _ _ h => h
      try simp only [Act.put, List.setIfInBounds_toArray, List.set_cons_zero, List.set_cons_succ]
      refine wpAnyH_take (i := 16) (oi := ?oiz17) (v := ?vz17) ?hiz17 ?haz17 ?hbz17 ?hcz17 ?hqz17 ?hyz17 (by assumption) ?restz17
      case hiz17 => (simp only [List.getElem?_toArray, List.getElem?_cons_zero, List.getElem?_cons_succ]; rfl)
      case haz17 => kernel_rfl
      case hbz17 => kernel_rfl
      case hcz17 => kernel_rfl
      case hyz17 => exact Or.inl ⟨by rfl, by (intro w hSw; (try dsimp only at hSw); go_split_ands; go_simp; (try with_reducible rfl))⟩
      case hqz17 => exact fun _ _ _ h => h
      try simp only [Act.put, List.setIfInBounds_toArray, List.set_cons_zero, List.set_cons_succ]
      refine wpAnyH_ready (rs := [9]) (by kernel_rfl) (by simp) ?_
      refine AllReadyH.cons (o := ?oiz18) ?hiz18 (fun K hK => ?stepz18) AllReadyH.nil
      case hiz18 => (simp only [List.getElem?_toArray, List.getElem?_cons_zero, List.getElem?_cons_succ]; rfl)
      go_simp
      refine (pjlen_is F w13 a d S' 1 8 hF ha13 (hKK a (Or.inl rfl)).1 hs18 (by omega) (by omega) ht13 (HTB.out.mono hFB) j kd' next' hpj13 (hKK j (Or.inr (Or.inr (Or.inl rfl)))).1 hnx hkd).mono ?_
      rintro e w14 ⟨rfl, hb14⟩
      have hBB14 : BB w14 bb d a c (.pointer (some ⟨j, 0, none⟩)) (.pointer (some ⟨q, 0, none⟩)) := Blk.kept hBB13 (hb14.block _ (Blk.lt hBB13))
      have hrj14 := hrj13.kept (hb14.block _ hrj13.lt)
      have hT14 := And.intro (Blk.cell hBB14 (i := 2) rfl) (And.intro (Blk.cell hBB14 (i := 4) rfl) (Blk.cell hrj14 (i := 4) rfl))
      refine hK.out _ _ hT14 (fun hHeld => ?_)
      clear hK K
      try simp only [Act.put, List.setIfInBounds_toArray, List.set_cons_zero, List.set_cons_succ]
      refine wpAnyH_take (i := 17) (oi := ?oiz19) (v := ?vz19) ?hiz19 ?haz19 ?hbz19 ?hcz19 ?hqz19 ?hyz19 (by assumption) ?restz19
      case hiz19 => (simp only [List.getElem?_toArray, List.getElem?_cons_zero, List.getElem?_cons_succ]; rfl)
      case haz19 => kernel_rfl
      case hbz19 => kernel_rfl
      case hcz19 => kernel_rfl
      case hyz19 => exact Or.inl ⟨by rfl, by (intro w hSw; (try dsimp only at hSw); go_split_ands; go_simp; (try with_reducible rfl))⟩
      case hqz19 => exact fun _ _ _ h => h
      try simp only [Act.put, List.setIfInBounds_toArray, List.set_cons_zero, List.set_cons_succ]
      refine wpAnyH_take (i := 18) (oi := ?oiz20) (v := ?vz20) ?hiz20 ?haz20 ?hbz20 ?hcz20 ?hqz20 ?hyz20 (by assumption) ?restz20
      case hiz20 => (simp only [List.getElem?_toArray, List.getElem?_cons_zero, List.getElem?_cons_succ]; rfl)
      case haz20 => kernel_rfl
      case hbz20 => kernel_rfl
      case hcz20 => kernel_rfl
      case hyz20 => exact Or.inl ⟨by rfl, by (intro w hSw; (try dsimp only at hSw); go_split_ands; go_simp; (try with_reducible rfl))⟩
      case hqz20 => exact fun _ _ _ h => h
      try simp only [Act.put, List.setIfInBounds_toArray, List.set_cons_zero, List.set_cons_succ]
      refine wpAnyH_take (i := 19) (oi := ?oiz21) (v := ?vz21) ?hiz21 ?haz21 ?hbz21 ?hcz21 ?hqz21 ?hyz21 (by assumption) ?restz21
      case hiz21 => (simp only [List.getElem?_toArray, List.getElem?_cons_zero, List.getElem?_cons_succ]; rfl)
      case haz21 => kernel_rfl
      case hbz21 => kernel_rfl
      case hcz21 => kernel_rfl
      case hyz21 => exact Or.inl ⟨by rfl, by (intro w hSw; (try dsimp only at hSw); go_split_ands; go_simp; (try with_reducible rfl))⟩
      case hqz21 => exact fun _ _ _ h => h
      try simp only [Act.put, List.setIfInBounds_toArray, List.set_cons_zero, List.set_cons_succ]
      refine wpAnyH_take (i := 20) (oi := ?oiz22) (v := ?vz22) ?hiz22 ?haz22 ?hbz22 ?hcz22 ?hqz22 ?hyz22 (by assumption) ?restz22
      case hiz22 => (simp only [List.getElem?_toArray, List.getElem?_cons_zero, List.getElem?_cons_succ]; rfl)
      case haz22 => kernel_rfl
      case hbz22 => kernel_rfl
      case hcz22 => kernel_rfl
      case hyz22 => exact Or.inl ⟨by rfl, by (intro w hSw; (try dsimp only at hSw); go_split_ands; go_simp; (try with_reducible rfl))⟩
      case hqz22 => exact fun _ _ _ h => h
      try simp only [Act.put, List.setIfInBounds_toArray, List.set_cons_zero, List.set_cons_succ]
      refine wpAnyH_take (i := 21) (oi := ?oiz23) (v := ?vz23) ?hiz23 ?haz23 ?hbz23 ?hcz23 ?hqz23 ?hyz23 (by assumption) ?restz23
      case hiz23 => (simp only [List.getElem?_toArray, List.getElem?_cons_zero, List.getElem?_cons_succ]; rfl)
      case haz23 => kernel_rfl
      case hbz23 => kernel_rfl
      case hcz23 => kernel_rfl
      case hyz23 => exact Or.inl ⟨by rfl, by (intro w hSw; (try dsimp only at hSw); go_split_ands; go_simp; (try with_reducible rfl))⟩
      case hqz23 => exact fun _ _ _ h => h
      try simp only [Act.put, List.setIfInBounds_toArray, List.set_cons_zero, List.set_cons_succ]
      refine wpAnyH_take (i := 22) (oi := ?oiz24) (v := ?vz24) ?hiz24 ?haz24 ?hbz24 ?hcz24 ?hqz24 ?hyz24 (by assumption) ?restz24
      case hiz24 => (simp only [List.getElem?_toArray, List.getElem?_cons_zero, List.getElem?_cons_succ]; rfl)
      case haz24 => kernel_rfl
      case hbz24 => kernel_rfl
      case hcz24 => kernel_rfl
      case hyz24 => exact Or.inl ⟨by rfl, by (intro w hSw; (try dsimp only at hSw); go_split_ands; go_simp; (try with_reducible rfl))⟩
      case hqz24 => exact fun _ _ _ h => h
      try simp only [Act.put, List.setIfInBounds_toArray, List.set_cons_zero, List.set_cons_succ]
      refine wpAnyH_take (i := 23) (oi := ?oiz25) (v := ?vz25) ?hiz25 ?haz25 ?hbz25 ?hcz25 ?hqz25 ?hyz25 (by assumption) ?restz25
      case hiz25 => (simp only [List.getElem?_toArray, List.getElem?_cons_zero, List.getElem?_cons_succ]; rfl)
      case haz25 => kernel_rfl
      case hbz25 => kernel_rfl
      case hcz25 => kernel_rfl
      case hyz25 => exact Or.inl ⟨by rfl, by (intro w hSw; (try dsimp only at hSw); go_split_ands; go_simp; (try with_reducible rfl))⟩
      case hqz25 => exact fun _ _ _ h => h
      try simp only [Act.put, List.setIfInBounds_toArray, List.set_cons_zero, List.set_cons_succ]
      refine wpAnyH_take (i := 25) (oi := ?oiz26) (v := ?vz26) ?hiz26 ?haz26 ?hbz26 ?hcz26 ?hqz26 ?hyz26 (by assumption) ?restz26
      case hiz26 => (simp only [List.getElem?_toArray, List.getElem?_cons_zero, List.getElem?_cons_succ]; rfl)
      case haz26 => kernel_rfl
      case hbz26 => kernel_rfl
      case hcz26 => kernel_rfl
      case hyz26 => exact Or.inl ⟨by rfl, by (intro w hSw; (try dsimp only at hSw); go_split_ands; go_simp; (try with_reducible rfl))⟩
      case hqz26 => exact fun _ _ _ h => h
      try simp only [Act.put, List.setIfInBounds_toArray, List.set_cons_zero, List.set_cons_succ]
      refine wpAnyH_take (i := 26) (oi := ?oiz27) (v := ?vz27) ?hiz27 ?haz27 ?hbz27 ?hcz27 ?hqz27 ?hyz27 (by assumption) ?restz27
      case hiz27 => (simp only [List.getElem?_toArray, List.getElem?_cons_zero, List.getElem?_cons_succ]; rfl)
      case haz27 => kernel_rfl
      case hbz27 => kernel_rfl
      case hcz27 => kernel_rfl
      case hyz27 => exact Or.inl ⟨by rfl, by (intro w hSw; (try dsimp only at hSw); go_split_ands; go_simp; (try with_reducible rfl))⟩
      case hqz27 => exact fun _ _ _ h => h
      try simp only [Act.put, List.setIfInBounds_toArray, List.set_cons_zero, List.set_cons_succ]
      refine wpAnyH_take (i := 27) (oi := ?oiz28) (v := ?vz28) ?hiz28 ?haz28 ?hbz28 ?hcz28 ?hqz28 ?hyz28 (by assumption) ?restz28
      case hiz28 => (simp only [List.getElem?_toArray, List.getElem?_cons_zero, List.getElem?_cons_succ]; rfl)
      case haz28 => kernel_rfl
      case hbz28 => kernel_rfl
      case hcz28 => kernel_rfl
      case hyz28 => exact Or.inl ⟨by rfl, by (intro w hSw; (try dsimp only at hSw); go_split_ands; go_simp; (try with_reducible rfl))⟩
      case hqz28 => exact fun _ _ _ h => h
      try simp only [Act.put, List.setIfInBounds_toArray, List.set_cons_zero, List.set_cons_succ]
      refine wpAnyH_take (i := 28) (oi := ?oiz29) (v := ?vz29) ?hiz29 ?haz29 ?hbz29 ?hcz29 ?hqz29 ?hyz29 (by assumption) ?restz29
      case hiz29 => (simp only [List.getElem?_toArray, List.getElem?_cons_zero, List.getElem?_cons_succ]; rfl)
      case haz29 => kernel_rfl
      case hbz29 => kernel_rfl
      case hcz29 => kernel_rfl
      case hyz29 => exact Or.inl ⟨by rfl, by (intro w hSw; (try dsimp only at hSw); go_split_ands; go_simp; (try with_reducible rfl))⟩
      case hqz29 => exact fun _ _ _ h => h
      try simp only [Act.put, List.setIfInBounds_toArray, List.set_cons_zero, List.set_cons_succ]
      refine wpAnyH_take (i := 29) (oi := ?oiz30) (v := ?vz30) ?hiz30 ?haz30 ?hbz30 ?hcz30 ?hqz30 ?hyz30 (by assumption) ?restz30
      case hiz30 => (simp only [List.getElem?_toArray, List.getElem?_cons_zero, List.getElem?_cons_succ]; rfl)
      case haz30 => kernel_rfl
      case hbz30 => kernel_rfl
      case hcz30 => kernel_rfl
      case hyz30 => exact Or.inl ⟨by rfl, by (intro w hSw; (try dsimp only at hSw); go_split_ands; go_simp; (try with_reducible rfl))⟩
      case hqz30 => exact fun _ _ _ h => h
      try simp only [Act.put, List.setIfInBounds_toArray, List.set_cons_zero, List.set_cons_succ]
      refine wpAnyH_take (i := 30) (oi := ?oiz31) (v := ?vz31) ?hiz31 ?haz31 ?hbz31 ?hcz31 ?hqz31 ?hyz31 (by assumption) ?restz31
      case hiz31 => (simp only [List.getElem?_toArray, List.getElem?_cons_zero, List.getElem?_cons_succ]; rfl)
      case haz31 => kernel_rfl
      case hbz31 => kernel_rfl
      case hcz31 => kernel_rfl
      case hyz31 => exact Or.inl ⟨by rfl, by (intro w hSw; (try dsimp only at hSw); go_split_ands; go_simp; (try with_reducible rfl))⟩
      case hqz31 => exact fun _ _ _ h => h
      try simp only [Act.put, List.setIfInBounds_toArray, List.set_cons_zero, List.set_cons_succ]
      refine wpAnyH_take (i := 31) (oi := ?oiz32) (v := ?vz32) ?hiz32 ?haz32 ?hbz32 ?hcz32 ?hqz32 ?hyz32 (by assumption) ?restz32
      case hiz32 => (simp only [List.getElem?_toArray, List.getElem?_cons_zero, List.getElem?_cons_succ]; rfl)
      case haz32 => kernel_rfl
      case hbz32 => kernel_rfl
      case hcz32 => kernel_rfl
      case hyz32 => exact Or.inl ⟨by rfl, by (intro w hSw; (try dsimp only at hSw); go_split_ands; go_simp; (try with_reducible rfl))⟩
      case hqz32 => exact fun _ _ _ h => h
      try simp only [Act.put, List.setIfInBounds_toArray, List.set_cons_zero, List.set_cons_succ]
      refine wpAnyH_take (i := 32) (oi := ?oiz33) (v := ?vz33) ?hiz33 ?haz33 ?hbz33 ?hcz33 ?hqz33 ?hyz33 (by assumption) ?restz33
      case hiz33 => (simp only [List.getElem?_toArray, List.getElem?_cons_zero, List.getElem?_cons_succ]; rfl)
      case haz33 => kernel_rfl
      case hbz33 => kernel_rfl
      case hcz33 => kernel_rfl
      case hyz33 => exact Or.inl ⟨by rfl, by (intro w hSw; (try dsimp only at hSw); go_split_ands; go_simp; (try with_reducible rfl))⟩
      case hqz33 => exact fun _ _ _ h => h
      try simp only [Act.put, List.setIfInBounds_toArray, List.set_cons_zero, List.set_cons_succ]
      refine wpAnyH_ready (rs := [24]) (by kernel_rfl) (by simp) ?_
      refine AllReadyH.cons (o := ?oiz34) ?hiz34 (fun K hK => ?stepz34) AllReadyH.nil
      case hiz34 => (simp only [List.getElem?_toArray, List.getElem?_cons_zero, List.getElem?_cons_succ]; rfl)
      go_simp
      refine (pjroom_is F w14 a d S' 1 8 (hF.only (Only.of_below (F := Nothing) hb14) (fun _ _ hk => hk)) (ha13.kept (hb14.block _ ha13.lt)) (hKK a (Or.inl rfl)).1 hs18 (by omega) (by omega) (ht13.below hb14) (HTB.out.mono hFB) j kd' next' (hpj13.kept (hb14.block _ hpj13.lt)) (hKK j (Or.inr (Or.inr (Or.inl rfl)))).1 hnx hkd).mono ?_
      rintro e w15 ⟨rfl, hb15⟩
      have hBB15 : BB w15 bb d a c (.pointer (some ⟨j, 0, none⟩)) (.pointer (some ⟨q, 0, none⟩)) := Blk.kept hBB14 (hb15.block _ (Blk.lt hBB14))
      have hrj15 := hrj14.kept (hb15.block _ hrj14.lt)
      have hT15 := And.intro (Blk.cell hBB15 (i := 2) rfl) (And.intro (Blk.cell hBB15 (i := 4) rfl) (Blk.cell hrj15 (i := 4) rfl))
      refine hK.out _ _ hT15 (fun hHeld => ?_)
      clear hK K
      try simp only [Act.put, List.setIfInBounds_toArray, List.set_cons_zero, List.set_cons_succ]
      refine wpAnyH_take (i := 33) (oi := ?oiz35) (v := ?vz35) ?hiz35 ?haz35 ?hbz35 ?hcz35 ?hqz35 ?hyz35 (by assumption) ?restz35
      case hiz35 => (simp only [List.getElem?_toArray, List.getElem?_cons_zero, List.getElem?_cons_succ]; rfl)
      case haz35 => kernel_rfl
      case hbz35 => kernel_rfl
      case hcz35 => kernel_rfl
      case hyz35 => exact Or.inl ⟨by rfl, by (intro w hSw; (try dsimp only at hSw); go_split_ands; go_simp; (try with_reducible rfl))⟩
      case hqz35 => exact fun _ _ _ h => h
      try simp only [Act.put, List.setIfInBounds_toArray, List.set_cons_zero, List.set_cons_succ]
      refine wpAnyH_take (i := 34) (oi := ?oiz36) (v := ?vz36) ?hiz36 ?haz36 ?hbz36 ?hcz36 ?hqz36 ?hyz36 (by assumption) ?restz36
      case hiz36 => (simp only [List.getElem?_toArray, List.getElem?_cons_zero, List.getElem?_cons_succ]; rfl)
      case haz36 => kernel_rfl
      case hbz36 => kernel_rfl
      case hcz36 => kernel_rfl
      case hyz36 => exact Or.inl ⟨by rfl, by (intro w hSw; (try dsimp only at hSw); go_split_ands; go_simp; (try with_reducible rfl))⟩
      case hqz36 => exact fun _ _ _ h => h
      try simp only [Act.put, List.setIfInBounds_toArray, List.set_cons_zero, List.set_cons_succ]
      refine wpAnyH_done (by kernel_rfl) ?_ _
      clear hHeld
      have hbb15 : Below w13.heap.size w13 w15 := hb14.trans (hb15.mono hb14.size)
      have hinv15 : JInv w.heap.size w15 bb d a c S' kd' next' := JInv.below ⟨j, q, hjq, ⟨F, G, hF, hG, hFG, hFB, hGB, hKK⟩, ha13, hBB13, hpj13, hrj13, hkd, hnx, hlen⟩ hbb15
      have hbt15 := hbt13.trans (hbb15.mono hbt13.size)
      clear hT13 hT14 hT15 hF hG hFG hFB hGB hKK hBB13 hBB14 hBB15 hrj13 hrj14 hrj15 hpj13 ha13 hbb15 hb14 hb15
      try go_wp2_with fail
      exact ⟨⟨k + 1, S', kd', next', by omega, rfl, hinv15, hbt15, by omega⟩, by simp [intOf]; omega⟩
    · obtain rfl : k = n := by omega
      obtain ⟨j, q, hjq, hboth, ha, hBB, hpj, hrj, hkd, hnx, hlen⟩ := hinv
      obtain ⟨F, G, hF, hG, hFG, hFB, hGB, hK⟩ := hboth
      obtain ⟨kn, hkn⟩ : ∃ kn, kn = 128 * S.kept.length := ⟨_, rfl⟩
      obtain ⟨fl, hfl⟩ : ∃ fl, fl = S.kept.flatten := ⟨_, rfl⟩
      have hknm : kn ≤ 9223372036854775807 := by rw [hkn, hlen]; omega
      have Himg := Lib.hid (by have := dimage_is F wr d S hF; rw [← hkn, ← hfl] at this; exact this)
      have Himg2' := Lib.hid (fun (w12 : World) (hG12 : RD G w12 c S) => by have := rimage_is G w12 c S hG12; rw [← hkn, ← hfl] at this; exact this)
      have HG := Lib.hid hG
      clear hkn hfl hlen hF hFG hFB hGB hK ha hBB hpj hrj hkd hnx hw hG
      go_wp2_with fail
      refine Himg.out.mono ?_
      rintro e w12 ⟨v1, rfl, hv1, hb12⟩
      have hG12 := HG.out.only (Only.of_below (F := Nothing) hb12) (fun _ _ hk => hk)
      have Himg2 := Lib.hid (Himg2'.out w12 hG12)
      obtain ⟨A3, c3, rfl, hs3⟩ := own_form hv1
      clear Himg hv1
      go_wp2_with fail
      refine Himg2.out.mono ?_
      rintro e w13 ⟨v2, rfl, hv2, hb13⟩
      obtain ⟨A4, c4, rfl, hs4⟩ := own_form hv2
      have hbe := hb.trans ((hb12.trans (hb13.mono hb12.size)).mono hb.size)
      have Hsm := Lib.hid (same_any A3 A4 kn kn c3 c4 fl fl w13 (hs3.below hb13) hs4 hknm hknm)
      clear hs3 hs4 hv2 Himg2 Himg2' HG hG12 hb12 hb13 hknm
      go_wp2_with fail
      refine Hsm.out.mono ?_
      rintro e w14 ⟨rfl, q5, rfl⟩
      rw [decide_true]
      go_wp2_with fail
      go_ret
      exact ⟨rfl, below_drewN hbe q5⟩
end Go.Proofs.YteliebinhdphlaaDoor
