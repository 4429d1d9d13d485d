/- The law DiskWhole, walked. -/
import Derived.Test.YthdclncgmhgmfaaWr
import Derived.Test.YthdclncgmhgmfaaAwake6
namespace Go.Proofs.Ythdclncgmhgmfaa
open Go.RowKit Go.Deep
set_option linter.unusedSimpArgs false
set_option linter.unusedVariables false

set_option maxRecDepth 100000 in
set_option maxHeartbeats 12800000 in
theorem diskWhole_walk (w : World) (A1 : Option Addr) (n1 c1 : Nat) (V1 : Nat → Nat → Int) (B1 : Nat → Value) (Z1 : Nat → List Int) (hx1 : Dos w A1 n1 2 V1 B1 Z1) (hok1 : DosOk n1 2 V1 Z1) (hn1 : n1 ≤ 9223372036854775807)
    (A2 : Option Addr) (n2 c2 : Nat) (V2 : Nat → Nat → Int) (B2 : Nat → Value) (Z2 : Nat → List Int) (hx2 : Dos w A2 n2 2 V2 B2 Z2) (hok2 : DosOk n2 2 V2 Z2) (hn2 : n2 ≤ 9223372036854775807) :
    Calls Try.prog 6 #[.slice A1 n1 c1, .slice A2 n2 c2] w fun e w' => e = .returned (.bool true) ∧ Below w.heap.size w w' := by
  obtain ⟨i8, hi8, hz8, hs8, hby8⟩ := info_parts' info_u8
  go_enter Try.func6, Try.ntmps6
  go_wp2_with fail
  refine (awake6_any w).mono ?_
  rintro e w1 ⟨rfl, hb1⟩
  go_wp2_with fail
  refine (few_is w1 A1 n1 c1 V1 B1 Z1 (hx1.below hb1) hok1 hn1).mono ?_
  rintro e w2 ⟨q1, rfl, hq1, hb2⟩
  have hbt2 : Below w.heap.size w w2 := hb1.trans (hb2.mono hb1.size)
  cases q1
  · go_wp2
    go_ret
    exact ⟨rfl, hbt2⟩
  have hn40 : n1 ≤ 40 := hq1 rfl
  go_wp2_with fail
  refine (few_is w2 A2 n2 c2 V2 B2 Z2 (hx2.below hbt2) hok2 hn2).mono ?_
  rintro e w3 ⟨q2, rfl, hq2, hb3⟩
  have hbt3 : Below w.heap.size w w3 := hbt2.trans (hb3.mono hbt2.size)
  cases q2
  · go_wp2
    go_ret
    exact ⟨rfl, hbt3⟩
  have hm40 : n2 ≤ 40 := hq2 rfl
  clear hq1 hq2 hbt2 hb1 hb2 hb3
  go_wp2_with fail
  refine (new8_is w3).mono ?_
  rintro e w4 ⟨d, rfl, hp4, hb4⟩
  have hbt4 : Below w.heap.size w w4 := hbt3.trans (hb4.mono hbt3.size)
  go_wp2_with fail
  refine (new8_is w4).mono ?_
  rintro e w5 ⟨x, rfl, hq5, hb5⟩
  have hbt5 : Below w.heap.size w w5 := hbt4.trans (hb5.mono hbt4.size)
  have hp5 := hp4.only (Only.of_below (F := Nothing) hb5) (fun _ _ hk => hk)
  have hst : ∃ (F G : Nat → Prop) (S : DS), PD F w5 d S ∧ PD G w5 x S ∧ (∀ j, F j → ¬ G j) ∧ (∀ j, F j → w.heap.size ≤ j) ∧ (∀ j, G j → w.heap.size ≤ j) ∧ S.off = false ∧ S.cut = -1 ∧ S.waits.length ≤ 0 :=
    ⟨_, _, _, hp5, hq5, fun j hj hg => by omega, fun j hj => Nat.le_trans hbt3.size hj.1, fun j hj => Nat.le_trans hbt4.size hj.1, rfl, rfl, Nat.le_refl _⟩
  clear hp4 hp5 hq5 hb4 hb5 hbt3 hbt4
  go_wp2_with fail
  go_loopw [42] (fun i wr => ∃ (k : Nat) (F G : Nat → Prop) (S : DS), k ≤ n1 ∧ i = .int .i64 k ∧ PD F wr d S ∧ PD G wr x S ∧ (∀ j, F j → ¬ G j) ∧ (∀ j, F j → w.heap.size ≤ j) ∧ (∀ j, G j → w.heap.size ≤ j) ∧ S.off = false ∧ S.cut = -1 ∧ S.waits.length ≤ k ∧ Below w.heap.size w wr) (fun i _ => n1 - (intOf i).toNat)
  case atStart =>
    obtain ⟨F, G, S, a1, a2, a3, a4, a5, a6, a7, a8⟩ := hst
    exact ⟨0, F, G, S, Nat.zero_le _, rfl, a1, a2, a3, a4, a5, a6, a7, a8, hbt5⟩
  case round =>
    clear hst hbt5
    obtain ⟨k, F, G, S, hk, rfl, hpd, hpx, hFG, hFB, hGB, ho, hcu, hwl, hb⟩ := hrel
    by_cases hlt : k < n1
    · have hkI : (k : Int) < (n1 : Int) := by omega
      have hk0 : (0 : Int) ≤ (k : Int) := by omega
      obtain ⟨ad, A', c', rfl, hc0, hc1, hc2, hsl⟩ := hx1.three hlt
      replace hc0 := (hb.cell (World.block_lt_of_cell? w _ hc0)).trans hc0
      replace hc1 := (hb.cell (World.block_lt_of_cell? w _ hc1)).trans hc1
      replace hc2 := (hb.cell (World.block_lt_of_cell? w _ hc2)).trans hc2
      have hokk := hok1 k hlt
      obtain ⟨kind, hkind⟩ : ∃ q, q = V1 k 0 := ⟨_, rfl⟩
      obtain ⟨num, hnum⟩ : ∃ q, q = V1 k 1 := ⟨_, rfl⟩
      obtain ⟨zs, hzs⟩ : ∃ q, q = Z1 k := ⟨_, rfl⟩
      rw [← hkind] at hc0
      rw [← hnum] at hc1
      rw [← hzs] at hc2 hsl hokk
      obtain ⟨zl, hzl⟩ : ∃ q, q = zs.length := ⟨_, rfl⟩
      rw [← hzl] at hc2 hsl hokk
      have hzlm := hokk.2.2
      have hzb := fullOf_byte hokk.2.1
      obtain ⟨wd, hwd⟩ : ∃ wd, wd = wr.alloc (.cells #[.int .i64 kind, .int .i64 num, .slice A' zl c'] 36) := ⟨_, rfl⟩
      have hbd : Below wr.heap.size wr wd := by rw [hwd]; exact below_alloc _ _
      have hPd : Blk wd wr.heap.size 36 [.int .i64 kind, .int .i64 num, .slice A' zl c'] := by rw [hwd]; exact Blk.new _ _ _
      have hbt := hb.trans (hbd.mono hb.size)
      have hsld := hsl.below hbt
      have hp0 := hPd.cell (i := 0) rfl
      have Hwd := Lib.hid hwd
      clear hwd hkind hnum hzs hzl hokk
      have Hsl := Lib.hid hsl
      clear hsl
      have hpdd := hpd.only (Only.of_below (F := Nothing) hbd) (fun _ _ hk => hk)
      have hpxd := hpx.only (Only.of_below (F := Nothing) hbd) (fun _ _ hk => hk)
      have hFr13 : ∀ j, F j → j < wr.heap.size := fun j hj => hpd.fin hj
      have hGr13 : ∀ j, G j → j < wr.heap.size := fun j hj => hpx.fin hj
      by_cases hkind : kind = 1
      · subst hkind
        have hcells13 := And.intro (hPd.cell (i := 1) rfl) (hPd.cell (i := 2) rfl)
        have Hpdd := Lib.hid hpdd
        go_upto_region 13 with fail
        rw [← Hwd.out]
        go_upto_region 13 with fail
        have hS13 : wd.cell? ⟨wr.heap.size, 1, none⟩ = some (.int .i64 num) ∧ wd.cell? ⟨wr.heap.size, 2, none⟩ = some (.slice A' zl c') := hcells13
        refine wp_region_held_drew (S := fun w' => w'.cell? ⟨wr.heap.size, 1, none⟩ = some (.int .i64 num) ∧ w'.cell? ⟨wr.heap.size, 2, none⟩ = some (.slice A' zl c')) (by kernel_rfl) hS13 (fun hHeld => ?_)
        refine wpAnyH_take (i := 0) (oi := ?oiz1) (v := ?vz1) ?hiz1 ?haz1 ?hbz1 ?hcz1 ?hqz1 ?hyz1 (by assumption) ?restz1
        case hiz1 => (simp only [List.getElem?_toArray, List.getElem?_cons_zero, List.getElem?_cons_succ]; rfl)
        case haz1 => kernel_rfl
        case hbz1 => kernel_rfl
        case hcz1 => kernel_rfl
        case hyz1 => exact Or.inl ⟨by rfl, by (intro w hSw; (try dsimp only at hSw); go_split_ands; go_simp; (try with_reducible rfl))⟩
        case hqz1 => exact fun _ _ _ h => h
        try simp only [Act.put, List.setIfInBounds_toArray, List.set_cons_zero, List.set_cons_succ]
        refine wpAnyH_take (i := 1) (oi := ?oiz2) (v := ?vz2) ?hiz2 ?haz2 ?hbz2 ?hcz2 ?hqz2 ?hyz2 (by assumption) ?restz2
        case hiz2 => (simp only [List.getElem?_toArray, List.getElem?_cons_zero, List.getElem?_cons_succ]; rfl)
        case haz2 => kernel_rfl
        case hbz2 => kernel_rfl
        case hcz2 => kernel_rfl
        case hyz2 => exact Or.inl ⟨by rfl, by (intro w hSw; (try dsimp only at hSw); go_split_ands; go_simp; (try with_reducible rfl))⟩
        case hqz2 => exact fun _ _ _ h => h
        try simp only [Act.put, List.setIfInBounds_toArray, List.set_cons_zero, List.set_cons_succ]
        refine wpAnyH_take (i := 2) (oi := ?oiz3) (v := ?vz3) ?hiz3 ?haz3 ?hbz3 ?hcz3 ?hqz3 ?hyz3 (by assumption) ?restz3
        case hiz3 => (simp only [List.getElem?_toArray, List.getElem?_cons_zero, List.getElem?_cons_succ]; rfl)
        case haz3 => kernel_rfl
        case hbz3 => kernel_rfl
        case hcz3 => kernel_rfl
        case hyz3 => exact Or.inl ⟨by rfl, by (intro w hSw; (try dsimp only at hSw); go_split_ands; go_simp; (try with_reducible rfl))⟩
        case hqz3 => exact fun _ _ _ h => h
        try simp only [Act.put, List.setIfInBounds_toArray, List.set_cons_zero, List.set_cons_succ]
        refine wpAnyH_take (i := 3) (oi := ?oiz4) (v := ?vz4) ?hiz4 ?haz4 ?hbz4 ?hcz4 ?hqz4 ?hyz4 (by assumption) ?restz4
        case hiz4 => (simp only [List.getElem?_toArray, List.getElem?_cons_zero, List.getElem?_cons_succ]; rfl)
        case haz4 => kernel_rfl
        case hbz4 => kernel_rfl
        case hcz4 => kernel_rfl
        case hyz4 => exact Or.inl ⟨by rfl, by (intro w hSw; (try dsimp only at hSw); go_split_ands; go_simp; (try with_reducible rfl))⟩
        case hqz4 => exact fun _ _ _ h => h
        try simp only [Act.put, List.setIfInBounds_toArray, List.set_cons_zero, List.set_cons_succ]
        refine wpAnyH_take (i := 4) (oi := ?oiz5) (v := ?vz5) ?hiz5 ?haz5 ?hbz5 ?hcz5 ?hqz5 ?hyz5 (by assumption) ?restz5
        case hiz5 => (simp only [List.getElem?_toArray, List.getElem?_cons_zero, List.getElem?_cons_succ]; rfl)
        case haz5 => kernel_rfl
        case hbz5 => kernel_rfl
        case hcz5 => kernel_rfl
        case hyz5 => exact Or.inl ⟨by rfl, by (intro w hSw; (try dsimp only at hSw); go_split_ands; go_simp; (try with_reducible rfl))⟩
        case hqz5 => exact fun _ _ _ h => h
        try simp only [Act.put, List.setIfInBounds_toArray, List.set_cons_zero, List.set_cons_succ]
        refine wpAnyH_ready (rs := [5]) (by kernel_rfl) (by simp) ?_
        refine AllReadyH.cons (o := ?oiz6) ?hiz6 (fun K hK => ?stepz6) AllReadyH.nil
        case hiz6 => (simp only [List.getElem?_toArray, List.getElem?_cons_zero, List.getElem?_cons_succ]; rfl)
        go_simp
        refine (full_is wd.drew A' zl c' zs (hsld) hzlm).mono ?_
        rintro e wf13 ⟨rfl, hbf13'⟩
        have hbf13 : Below wd.heap.size wd wf13 := ⟨hbf13'.os, hbf13'.tape, hbf13'.output, hbf13'.size, hbf13'.block⟩
        clear hbf13'
        have hpf13 := hpdd.only (Only.of_below (F := Nothing) hbf13) (fun _ _ hk => hk)
        have hSf13 := cells2_only (F := Nothing) (Only.of_below hbf13) (fun h => h) hS13
        refine hK.out _ _ hSf13 (fun hHeld => ?_)
        clear hK K
        try simp only [Act.put, List.setIfInBounds_toArray, List.set_cons_zero, List.set_cons_succ]
        refine wpAnyH_ready (rs := [6]) (by kernel_rfl) (by simp) ?_
        refine AllReadyH.cons (o := ?oiz7) ?hiz7 (fun K hK => ?stepz7) AllReadyH.nil
        case hiz7 => (simp only [List.getElem?_toArray, List.getElem?_cons_zero, List.getElem?_cons_succ]; rfl)
        go_simp
        refine (dwrote_is F wf13 d S hpf13 num (fullOf zs) hzb ho hcu (by omega)).mono ?_
        rintro e w6 ⟨⟨er13, rfl⟩, hp13, hO13⟩
        have hSg13 := cells2_only hO13 (fun hk => by have := hFr13 _ hk; omega) hSf13
        refine hK.out _ _ hSg13 (fun hHeld => ?_)
        clear hK K
        try simp only [Act.put, List.setIfInBounds_toArray, List.set_cons_zero, List.set_cons_succ]
        refine wpAnyH_done (by kernel_rfl) ?_ _
        clear hHeld
        have hbt6 : Below w.heap.size w w6 := (hbt.trans (hbf13.mono hbt.size)).trans (hO13.below (Nat.le_trans hbt.size hbf13.size) hFB)
        have hpx6 := (hpxd.only (Only.of_below (F := Nothing) hbf13) (fun _ _ hk => hk)).only hO13 (fun j hg hf => hFG j hf hg)
        have hcells14 := hSg13
        have hFr14 : ∀ j, G j → j < wr.heap.size := hGr13
        have hsl6 := Hsl.out.below hbt6
        clear hSf13 hS13 hpf13 hcells13
        go_wp2_with fail
        go_upto_region 14 with fail
        have hS14 : w6.cell? ⟨wr.heap.size, 1, none⟩ = some (.int .i64 num) ∧ w6.cell? ⟨wr.heap.size, 2, none⟩ = some (.slice A' zl c') := hcells14
        refine wp_region_held_drew (S := fun w' => w'.cell? ⟨wr.heap.size, 1, none⟩ = some (.int .i64 num) ∧ w'.cell? ⟨wr.heap.size, 2, none⟩ = some (.slice A' zl c')) (by kernel_rfl) hS14 (fun hHeld => ?_)
        refine wpAnyH_take (i := 0) (oi := ?oiz9) (v := ?vz9) ?hiz9 ?haz9 ?hbz9 ?hcz9 ?hqz9 ?hyz9 (by assumption) ?restz9
        case hiz9 => (simp only [List.getElem?_toArray, List.getElem?_cons_zero, List.getElem?_cons_succ]; rfl)
        case haz9 => kernel_rfl
        case hbz9 => kernel_rfl
        case hcz9 => kernel_rfl
        case hyz9 => exact Or.inl ⟨by rfl, by (intro w hSw; (try dsimp only at hSw); go_split_ands; go_simp; (try with_reducible rfl))⟩
        case hqz9 => exact fun _ _ _ h => h
        try simp only [Act.put, List.setIfInBounds_toArray, List.set_cons_zero, List.set_cons_succ]
        refine wpAnyH_take (i := 1) (oi := ?oiz10) (v := ?vz10) ?hiz10 ?haz10 ?hbz10 ?hcz10 ?hqz10 ?hyz10 (by assumption) ?restz10
        case hiz10 => (simp only [List.getElem?_toArray, List.getElem?_cons_zero, List.getElem?_cons_succ]; rfl)
        case haz10 => kernel_rfl
        case hbz10 => kernel_rfl
        case hcz10 => kernel_rfl
        case hyz10 => exact Or.inl ⟨by rfl, by (intro w hSw; (try dsimp only at hSw); go_split_ands; go_simp; (try with_reducible rfl))⟩
        case hqz10 => exact fun _ _ _ h => h
        try simp only [Act.put, List.setIfInBounds_toArray, List.set_cons_zero, List.set_cons_succ]
        refine wpAnyH_take (i := 2) (oi := ?oiz11) (v := ?vz11) ?hiz11 ?haz11 ?hbz11 ?hcz11 ?hqz11 ?hyz11 (by assumption) ?restz11
        case hiz11 => (simp only [List.getElem?_toArray, List.getElem?_cons_zero, List.getElem?_cons_succ]; rfl)
        case haz11 => kernel_rfl
        case hbz11 => kernel_rfl
        case hcz11 => kernel_rfl
        case hyz11 => exact Or.inl ⟨by rfl, by (intro w hSw; (try dsimp only at hSw); go_split_ands; go_simp; (try with_reducible rfl))⟩
        case hqz11 => exact fun _ _ _ h => h
        try simp only [Act.put, List.setIfInBounds_toArray, List.set_cons_zero, List.set_cons_succ]
        refine wpAnyH_take (i := 3) (oi := ?oiz12) (v := ?vz12) ?hiz12 ?haz12 ?hbz12 ?hcz12 ?hqz12 ?hyz12 (by assumption) ?restz12
        case hiz12 => (simp only [List.getElem?_toArray, List.getElem?_cons_zero, List.getElem?_cons_succ]; rfl)
        case haz12 => kernel_rfl
        case hbz12 => kernel_rfl
        case hcz12 => kernel_rfl
        case hyz12 => exact Or.inl ⟨by rfl, by (intro w hSw; (try dsimp only at hSw); go_split_ands; go_simp; (try with_reducible rfl))⟩
        case hqz12 => exact fun _ _ _ h => h
        try simp only [Act.put, List.setIfInBounds_toArray, List.set_cons_zero, List.set_cons_succ]
        refine wpAnyH_take (i := 4) (oi := ?oiz13) (v := ?vz13) ?hiz13 ?haz13 ?hbz13 ?hcz13 ?hqz13 ?hyz13 (by assumption) ?restz13
        case hiz13 => (simp only [List.getElem?_toArray, List.getElem?_cons_zero, List.getElem?_cons_succ]; rfl)
        case haz13 => kernel_rfl
        case hbz13 => kernel_rfl
        case hcz13 => kernel_rfl
        case hyz13 => exact Or.inl ⟨by rfl, by (intro w hSw; (try dsimp only at hSw); go_split_ands; go_simp; (try with_reducible rfl))⟩
        case hqz13 => exact fun _ _ _ h => h
        try simp only [Act.put, List.setIfInBounds_toArray, List.set_cons_zero, List.set_cons_succ]
        refine wpAnyH_ready (rs := [5]) (by kernel_rfl) (by simp) ?_
        refine AllReadyH.cons (o := ?oiz14) ?hiz14 (fun K hK => ?stepz14) AllReadyH.nil
        case hiz14 => (simp only [List.getElem?_toArray, List.getElem?_cons_zero, List.getElem?_cons_succ]; rfl)
        go_simp
        refine (full_is w6.drew A' zl c' zs (hsl6) hzlm).mono ?_
        rintro e wf14 ⟨rfl, hbf14'⟩
        have hbf14 : Below w6.heap.size w6 wf14 := ⟨hbf14'.os, hbf14'.tape, hbf14'.output, hbf14'.size, hbf14'.block⟩
        clear hbf14'
        have hpf14 := hpx6.only (Only.of_below (F := Nothing) hbf14) (fun _ _ hk => hk)
        have hSf14 := cells2_only (F := Nothing) (Only.of_below hbf14) (fun h => h) hS14
        refine hK.out _ _ hSf14 (fun hHeld => ?_)
        clear hK K
        try simp only [Act.put, List.setIfInBounds_toArray, List.set_cons_zero, List.set_cons_succ]
        refine wpAnyH_ready (rs := [6]) (by kernel_rfl) (by simp) ?_
        refine AllReadyH.cons (o := ?oiz15) ?hiz15 (fun K hK => ?stepz15) AllReadyH.nil
        case hiz15 => (simp only [List.getElem?_toArray, List.getElem?_cons_zero, List.getElem?_cons_succ]; rfl)
        go_simp
        refine (dwrote_is G wf14 x S hpf14 num (fullOf zs) hzb ho hcu (by omega)).mono ?_
        rintro e w7 ⟨⟨er14, rfl⟩, hp14, hO14⟩
        have hSg14 := cells2_only hO14 (fun hk => by have := hFr14 _ hk; omega) hSf14
        refine hK.out _ _ hSg14 (fun hHeld => ?_)
        clear hK K
        try simp only [Act.put, List.setIfInBounds_toArray, List.set_cons_zero, List.set_cons_succ]
        refine wpAnyH_done (by kernel_rfl) ?_ _
        clear hHeld
        have hwr := wrote_same S num (fullOf zs)
        have hpd7 := (hp13.only (Only.of_below (F := Nothing) hbf14) (fun _ _ hk => hk)).only hO14 (fun j hf hg => by
          rcases hf with hf | hf
          · exact hFG j hf hg
          · have := hFr14 j hg; have := hbd.size; have := hbf13.size; omega)
        have hfin : ∃ (F G : Nat → Prop) (S : DS), PD F w7 d S ∧ PD G w7 x S ∧ (∀ j, F j → ¬ G j) ∧ (∀ j, F j → w.heap.size ≤ j) ∧ (∀ j, G j → w.heap.size ≤ j) ∧ S.off = false ∧ S.cut = -1 ∧ S.waits.length ≤ k + 1 ∧ Below w.heap.size w w7 := by
          refine ⟨_, _, _, hpd7, hp14, ?_, ?_, ?_, by rw [hwr.2.2.2.1]; exact ho, by rw [hwr.2.2.2.2.1]; exact hcu, by have := hwr.2.2.2.2.2; omega, (hbt6.trans (hbf14.mono hbt6.size)).trans (hO14.below (Nat.le_trans hbt6.size hbf14.size) hGB)⟩
          · intro j hf hg
            rcases hf with hf | hf
            · rcases hg with hg | hg
              · exact hFG j hf hg
              · have := hFr13 j hf; have := hbd.size; have := hbf13.size; have := hO13.size; have := hbf14.size; omega
            · rcases hg with hg | hg
              · have := hFr14 j hg; have := hbd.size; have := hbf13.size; omega
              · have := hbf14.size; omega
          · intro j hf
            rcases hf with hf | hf
            · exact hFB j hf
            · have := hbt.size; have := hbf13.size; omega
          · intro j hg
            rcases hg with hg | hg
            · exact hGB j hg
            · have := hbt6.size; have := hbf14.size; omega
        have Hfin := Lib.hid hfin
        clear hfin hpd7 hp14 hp13 hpx6 hpf14 hO14 hbf14 hO13 hbf13 hSf14 hSg14 hS14 hwr hpdd hpxd hpd hpx hFG hFB hGB
        go_wp2_with fail
        go_roundw
        case rel =>
          obtain ⟨F', G', S', a1, a2, a3, a4, a5, a6, a7, a8, a9⟩ := Hfin.out
          exact ⟨k + 1, F', G', S', by omega, by go_num, a1, a2, a3, a4, a5, a6, a7, a8, a9⟩
        case measure => simp [intOf]; omega
      · have hkb : (kind == 1) = false := by simpa using hkind
        go_wp2_with fail
        rw [← Hwd.out]
        go_roundw
        case rel => exact ⟨k + 1, F, G, S, by omega, by go_num, hpdd, hpxd, hFG, hFB, hGB, ho, hcu, by omega, hbt⟩
        case measure => simp [intOf]; omega
    · obtain rfl : k = n1 := by omega
      have hm40' : S.waits.length ≤ 40 := by omega
      obtain ⟨wo, hwo⟩ : ∃ wo : World, wo = wr := ⟨_, rfl⟩
      rw [← hwo] at hpd hpx hb ⊢
      clear hwo hx1 hok1
      go_wp2_with fail
      refine (dwaits_is F wo d S hpd).mono ?_
      rintro e w8 ⟨rfl, hO8⟩
      have hpd8 := hpd.only hO8 (fun _ _ hk => hk)
      have hpx8 := hpx.only hO8 (fun _ _ hk => hk)
      have hb8 : Below w.heap.size w w8 := hb.trans (hO8.below hb.size (fun _ h => h.elim))
      obtain ⟨m, hm⟩ : ∃ m, m = S.waits.length := ⟨_, rfl⟩
      rw [← hm] at hm40' ⊢
      have Hm := Lib.hid hm
      clear hpd hpx hO8 hb hm
      go_wp2_with fail
      go_loopw [11, 66] (fun al i wr => ∃ k2 : Nat, k2 ≤ m ∧ i = .int .i64 k2 ∧ wr.ownsRow w8.heap.size 5 1 al k2 (List.replicate k2 (.int .u8 128)) ∧ Below w8.heap.size w8 wr) (fun _ i _ => m - (intOf i).toNat)
      case atStart => exact ⟨0, Nat.zero_le _, rfl, ⟨rfl, Or.inl ⟨rfl, rfl⟩⟩, Below.refl _ _⟩
      case round =>
        obtain ⟨k2, hk2, rfl, hown, hb9⟩ := hrel
        by_cases hlt2 : k2 < m
        · have hkI : (k2 : Int) < (m : Int) := by omega
          have hsz := hb9.size
          go_wp2_with (refine wpList_push (.tmp 68) (.tmp 69) 22 5 i8 _ (.int .u8 128) 1 rfl rfl Try.underlying22 hi8 hz8 hs8 hby8 rfl w8.heap.size _ k2 _ hown rfl rfl rfl (by omega) (by omega) hsz ?_; intro v9 w9 hown9 hg9 hbb9 hs9)
          go_roundw
          case rel => exact ⟨k2 + 1, by omega, by go_num, by rw [List.replicate_succ']; exact hown9, hb9.trans hbb9⟩
          case measure => simp [intOf]; omega
        · obtain rfl : k2 = m := by omega
          obtain ⟨w9, hw9⟩ : ∃ w9 : World, w9 = wr := ⟨_, rfl⟩
          rw [← hw9] at hown hb9 ⊢
          clear hw9
          have hpd9 := hpd8.only (Only.of_below (F := Nothing) (hb9)) (fun _ _ hk => hk)
          have hpx9 := hpx8.only (Only.of_below (F := Nothing) (hb9)) (fun _ _ hk => hk)
          have hbt9 : Below w.heap.size w w9 := hb8.trans (hb9.mono hb8.size)
          have hF8 : ∀ j, F j → j < w8.heap.size := fun j hj => hpd8.fin hj
          obtain ⟨Aal, cal, rfl, hslal⟩ := own_form hown
          have haddr := own_addr hown
          obtain ⟨cs, hcs⟩ : ∃ cs, cs = List.replicate S.waits.length (128 : Int) := ⟨_, rfl⟩
          have hslcs : Sl w9 Aal k2 (u8s cs) := by
            rw [hcs, ← Hm.out]
            show Sl w9 Aal k2 ((List.replicate k2 (128 : Int)).map (Value.int .u8))
            rw [List.map_replicate]; exact hslal
          have Hcs := Lib.hid hcs
          clear hpd8 hpx8 hb9 hown hslal hcs
          go_wp2_with fail
          refine (dcrash_is F w9 d S hpd9 Aal k2 cal cs hslcs (fun x hx => by rw [Hcs.out] at hx; have := List.eq_of_mem_replicate hx; omega) (by omega) (fun ad hA _ hf => by have := (haddr ad hA).1; have := hF8 _ hf; omega)).mono ?_
          rintro e w10 ⟨rfl, hp10, hO10⟩
          have hpx10 := hpx9.only hO10 (fun j hg hf => hFG j hf hg)
          have hdis10 : ∀ j, More F w9 w10 j → ¬ G j := by
            intro j hf hg
            rcases hf with hf | hf
            · exact hFG j hf hg
            · have := hpx9.fin hg; omega
          have hFB10 : ∀ j, More F w9 w10 j → w.heap.size ≤ j := by
            intro j hf
            rcases hf with hf | hf
            · exact hFB j hf
            · have := hbt9.size; omega
          have hbt10 : Below w.heap.size w w10 := hbt9.trans (hO10.below hbt9.size hFB)
          obtain ⟨F1, hF1⟩ : ∃ F1 : Nat → Prop, F1 = More F w9 w10 := ⟨_, rfl⟩
          rw [← hF1] at hp10 hdis10 hFB10
          have hgo := goes_on hcu 2
          clear hpd9 hpx9 hO10 hbt9 hF8 haddr hslcs hF1 hFG hFB
          go_wp2_with fail
          refine (dflush_in G w10 x S hpx10 ho (by rw [hgo])).mono ?_
          rintro e w11 ⟨rfl, hp11, hO11⟩
          have hpd11 := hp10.only hO11 hdis10
          have hbt11 : Below w.heap.size w w11 := hbt10.trans (hO11.below hbt10.size hGB)
          rw [hgo] at hp11
          have hwf := hpx10.wf
          have hsame : (S.crashed cs).kept = (S.count 2).flushed.kept ∧ (S.crashed cs).inn = (S.count 2).flushed.inn ∧ (S.crashed cs).room = (S.count 2).flushed.room := by
            have h1 := crashTo_full hwf S.waits.length (Nat.le_refl _)
            have h2 : (S.count 2).flushed = { (S.count 2).keepTo S.waits.length with waits := [] } := rfl
            rw [h2]
            show (S.crashTo cs S.waits.length).kept = _ ∧ (S.crashTo cs S.waits.length).inn = _ ∧ (S.crashTo cs S.waits.length).room = _
            rw [Hcs.out, h1]
            exact ⟨rfl, rfl, rfl⟩
          have husame : (S.crashed cs).used = (S.count 2).flushed.used := used_same (by rw [hsame.1]) hsame.2.1 rfl
          obtain ⟨S1, hS1⟩ : ∃ S1, S1 = S.crashed cs := ⟨_, rfl⟩
          obtain ⟨X1, hX1⟩ : ∃ X1, X1 = (S.count 2).flushed := ⟨_, rfl⟩
          have hS1o : S1.off = false ∧ S1.cut = -1 ∧ S1.waits = [] := by rw [hS1]; exact ⟨rfl, rfl, rfl⟩
          rw [← hS1] at hpd11 hsame husame
          rw [← hX1] at hp11 hsame husame
          have Hsame := Lib.hid hsame
          have Husame := Lib.hid husame
          clear hp10 hpx10 hO11 hbt10 hwf hgo hdis10 hS1 hX1 Hcs Hm hsame husame
          go_wp2_with fail
          refine (dimage_is F1 w11 d S1 hpd11).mono ?_
          rintro e w12 ⟨v1, rfl, hown1, hb12⟩
          have hpd12 := hpd11.only (Only.of_below (F := Nothing) hb12) (fun _ _ hk => hk)
          have hp12 := hp11.only (Only.of_below (F := Nothing) hb12) (fun _ _ hk => hk)
          have hbt12 : Below w.heap.size w w12 := hbt11.trans (hb12.mono hbt11.size)
          clear hpd11 hp11
          go_wp2_with fail
          refine (dimage_is _ w12 x X1 hp12).mono ?_
          rintro e w13 ⟨v2, rfl, hown2, hb13⟩
          have hpd13 := hpd12.only (Only.of_below (F := Nothing) hb13) (fun _ _ hk => hk)
          have hp13 := hp12.only (Only.of_below (F := Nothing) hb13) (fun _ _ hk => hk)
          have hbt13 : Below w.heap.size w w13 := hbt12.trans (hb13.mono hbt12.size)
          obtain ⟨Aa, ca, rfl, hsla⟩ := own_form hown1
          obtain ⟨Ab, cb, rfl, hslb⟩ := own_form hown2
          rw [← Hsame.out.1] at hslb ⊢
          obtain ⟨ys, hys⟩ : ∃ ys, ys = S1.kept.flatten := ⟨_, rfl⟩
          rw [← hys] at hsla hslb
          obtain ⟨K, hK⟩ : ∃ K, K = 128 * S1.kept.length := ⟨_, rfl⟩
          rw [← hK] at hsla hslb ⊢
          have hK2 : K ≤ 9223372036854775807 := by have := hpd12.wf.n2; omega
          have hsla13 := hsla.below hb13
          have Hys := Lib.hid hys
          have HK := Lib.hid hK
          clear hpd12 hp12 hown1 hown2 hsla hys hK
          go_wp2_with fail
          refine (same_any Aa Ab K K ca cb ys ys w13 hsla13 hslb hK2 hK2).mono ?_
          rintro e w14 ⟨rfl, q14, hw14⟩
          rw [decide_eq_true rfl]
          have hO14 : Only Nothing w13 w14 := by rw [hw14]; exact (Only.refl Nothing w13).drewN q14
          have hpd14 := hpd13.only hO14 (fun _ _ hk => hk)
          have hp14 := hp13.only hO14 (fun _ _ hk => hk)
          have hbt14 : Below w.heap.size w w14 := hbt13.trans (hO14.below hbt13.size (fun _ h => h.elim))
          clear hw14 hsla13 hslb hpd13 hp13
          go_wp2_with fail
          refine (dleft_is F1 w14 d S1 hpd14).mono ?_
          rintro e w15 ⟨rfl, hO15⟩
          have hpd15 := hpd14.only hO15 (fun _ _ hk => hk)
          have hp15 := hp14.only hO15 (fun _ _ hk => hk)
          have hbt15 : Below w.heap.size w w15 := hbt14.trans (hO15.below hbt14.size (fun _ h => h.elim))
          go_wp2_with fail
          refine (dleft_is _ w15 x X1 hp15).mono ?_
          rintro e w16 ⟨rfl, hO16⟩
          have hpd16 := hpd15.only hO16 (fun _ _ hk => hk)
          have hbt16 : Below w.heap.size w w16 := hbt15.trans (hO16.below hbt15.size (fun _ h => h.elim))
          rw [← Hsame.out.2.2, ← Husame.out]
          obtain ⟨lf, hlf⟩ : ∃ lf, lf = S1.room - (S1.used : Int) := ⟨_, rfl⟩
          rw [← hlf]
          have Hlf := Lib.hid hlf
          clear hpd14 hp14 hpd15 hp15 hO14 hO15 hO16 hbt14 hbt15 hlf Hsame Husame
          go_wp2_with fail
          refine (dimage_is F1 w16 d S1 hpd16).mono ?_
          rintro e w17 ⟨v3, rfl, hown3, hb17⟩
          have hpd17 := hpd16.only (Only.of_below (F := Nothing) hb17) (fun _ _ hk => hk)
          have hbt17 : Below w.heap.size w w17 := hbt16.trans (hb17.mono hbt16.size)
          obtain ⟨Aw, cw, rfl, hslw⟩ := own_form hown3
          have hadw := own_addr hown3
          have hF16 : ∀ j, F1 j → j < w16.heap.size := fun j hj => hpd16.fin hj
          rw [← Hys.out, ← HK.out] at hslw
          rw [← HK.out]
          clear hpd16 hown3
          go_wp2_with fail
          refine (dleft_is F1 w17 d S1 hpd17).mono ?_
          rintro e w18 ⟨rfl, hO18⟩
          rw [← Hlf.out]
          have hpd18 := hpd17.only hO18 (fun _ _ hk => hk)
          have hbt18 : Below w.heap.size w w18 := hbt17.trans (hO18.below hbt17.size (fun _ h => h.elim))
          have hslw18 := hslw.only hO18 (fun _ _ _ h => h)
          have hst3 : ∃ (F : Nat → Prop) (T : DS), PD F w18 d T ∧ T.kept = S1.kept ∧ T.inn = S1.inn ∧ T.room = S1.room ∧ T.off = false ∧ T.cut = -1 ∧ T.waits.length ≤ 0 ∧ (∀ j, F j → w.heap.size ≤ j) ∧ (∀ ad, Aw = some ad → ad.block < w18.heap.size ∧ ¬ F ad.block) :=
            ⟨F1, S1, hpd18, rfl, rfl, rfl, hS1o.1, hS1o.2.1, by rw [hS1o.2.2]; exact Nat.le_refl _, hFB10, fun ad hA => ⟨Nat.lt_of_lt_of_le (hadw ad hA).2 hO18.size, fun hf => by have := hF16 _ hf; have := (hadw ad hA).1; omega⟩⟩
          have hwaits1 := Lib.hid hS1o.2.2
          clear hpd17 hpd18 hO18 hslw hadw hF16 hFB10 hbt17 hS1o ho hcu hwl hGB hbt16 hbt13 hbt12 hbt11 hb12 hb13 hb17 hb8
          go_wp2_with fail
          go_loopw [99] (fun i wr => ∃ (k : Nat) (F : Nat → Prop) (T : DS), k ≤ n2 ∧ i = .int .i64 k ∧ PD F wr d T ∧ T.kept = S1.kept ∧ T.inn = S1.inn ∧ T.room = S1.room ∧ T.off = false ∧ T.cut = -1 ∧ T.waits.length ≤ k ∧ (∀ j, F j → w.heap.size ≤ j) ∧ (∀ ad, Aw = some ad → ad.block < wr.heap.size ∧ ¬ F ad.block) ∧ Sl wr Aw K (u8s ys) ∧ Below w.heap.size w wr) (fun i _ => n2 - (intOf i).toNat)
          case atStart =>
            obtain ⟨F, T, a1, a2, a3, a4, a5, a6, a7, a8, a9⟩ := hst3
            exact ⟨0, F, T, Nat.zero_le _, rfl, a1, a2, a3, a4, a5, a6, a7, a8, a9, hslw18, hbt18⟩
          case round =>
            clear hst3 hslw18 hbt18
            obtain ⟨k, F, T, hk, rfl, hpd, hkept, hinn, hroom, ho, hcu, hwl, hFB, hAw, hslw, hb⟩ := hrel
            by_cases hlt : k < n2
            · have hkI : (k : Int) < (n2 : Int) := by omega
              have hk0 : (0 : Int) ≤ (k : Int) := by omega
              obtain ⟨ad, A', c', rfl, hc0, hc1, hc2, hsl⟩ := hx2.three hlt
              replace hc0 := (hb.cell (World.block_lt_of_cell? w _ hc0)).trans hc0
              replace hc1 := (hb.cell (World.block_lt_of_cell? w _ hc1)).trans hc1
              replace hc2 := (hb.cell (World.block_lt_of_cell? w _ hc2)).trans hc2
              have hokk := hok2 k hlt
              obtain ⟨kind, hkind⟩ : ∃ q, q = V2 k 0 := ⟨_, rfl⟩
              obtain ⟨num, hnum⟩ : ∃ q, q = V2 k 1 := ⟨_, rfl⟩
              obtain ⟨zs, hzs⟩ : ∃ q, q = Z2 k := ⟨_, rfl⟩
              rw [← hkind] at hc0
              rw [← hnum] at hc1
              rw [← hzs] at hc2 hsl hokk
              obtain ⟨zl, hzl⟩ : ∃ q, q = zs.length := ⟨_, rfl⟩
              rw [← hzl] at hc2 hsl hokk
              have hzlm := hokk.2.2
              have hzb := fullOf_byte hokk.2.1
              obtain ⟨wd, hwd⟩ : ∃ wd, wd = wr.alloc (.cells #[.int .i64 kind, .int .i64 num, .slice A' zl c'] 36) := ⟨_, rfl⟩
              have hbd : Below wr.heap.size wr wd := by rw [hwd]; exact below_alloc _ _
              have hPd : Blk wd wr.heap.size 36 [.int .i64 kind, .int .i64 num, .slice A' zl c'] := by rw [hwd]; exact Blk.new _ _ _
              have hbt := hb.trans (hbd.mono hb.size)
              have hsld := hsl.below hbt
              have hp0 := hPd.cell (i := 0) rfl
              have Hwd := Lib.hid hwd
              clear hwd hkind hnum hzs hzl hokk
              have Hsl := Lib.hid hsl
              clear hsl
              have hpdd := hpd.only (Only.of_below (F := Nothing) hbd) (fun _ _ hk => hk)
              have hFr29 : ∀ j, F j → j < wr.heap.size := fun j hj => hpd.fin hj
              have hslwd := hslw.below hbd
              by_cases hkind : kind = 1
              · subst hkind
                have hcells29 := And.intro (hPd.cell (i := 1) rfl) (hPd.cell (i := 2) rfl)
                go_upto_region 29 with fail
                rw [← Hwd.out]
                go_upto_region 29 with fail
                have hS29 : wd.cell? ⟨wr.heap.size, 1, none⟩ = some (.int .i64 num) ∧ wd.cell? ⟨wr.heap.size, 2, none⟩ = some (.slice A' zl c') := hcells29
                refine wp_region_held_drew (S := fun w' => w'.cell? ⟨wr.heap.size, 1, none⟩ = some (.int .i64 num) ∧ w'.cell? ⟨wr.heap.size, 2, none⟩ = some (.slice A' zl c')) (by kernel_rfl) hS29 (fun hHeld => ?_)
                refine wpAnyH_take (i := 0) (oi := ?oiz17) (v := ?vz17) ?hiz17 ?haz17 ?hbz17 ?hcz17 ?hqz17 ?hyz17 (by assumption) ?restz17
                case hiz17 => (simp only [List.getElem?_toArray, List.getElem?_cons_zero, List.getElem?_cons_succ]; rfl)
                case haz17 => kernel_rfl
                case hbz17 => kernel_rfl
                case hcz17 => kernel_rfl
                case hyz17 => exact Or.inl ⟨by rfl, by (intro w hSw; (try dsimp only at hSw); go_split_ands; go_simp; (try with_reducible rfl))⟩
                case hqz17 => exact fun _ _ _ h => h
                try simp only [Act.put, List.setIfInBounds_toArray, List.set_cons_zero, List.set_cons_succ]
                refine wpAnyH_take (i := 1) (oi := ?oiz18) (v := ?vz18) ?hiz18 ?haz18 ?hbz18 ?hcz18 ?hqz18 ?hyz18 (by assumption) ?restz18
                case hiz18 => (simp only [List.getElem?_toArray, List.getElem?_cons_zero, List.getElem?_cons_succ]; rfl)
                case haz18 => kernel_rfl
                case hbz18 => kernel_rfl
                case hcz18 => kernel_rfl
                case hyz18 => exact Or.inl ⟨by rfl, by (intro w hSw; (try dsimp only at hSw); go_split_ands; go_simp; (try with_reducible rfl))⟩
                case hqz18 => exact fun _ _ _ h => h
                try simp only [Act.put, List.setIfInBounds_toArray, List.set_cons_zero, List.set_cons_succ]
                refine wpAnyH_take (i := 2) (oi := ?oiz19) (v := ?vz19) ?hiz19 ?haz19 ?hbz19 ?hcz19 ?hqz19 ?hyz19 (by assumption) ?restz19
                case hiz19 => (simp only [List.getElem?_toArray, List.getElem?_cons_zero, List.getElem?_cons_succ]; rfl)
                case haz19 => kernel_rfl
                case hbz19 => kernel_rfl
                case hcz19 => kernel_rfl
                case hyz19 => exact Or.inl ⟨by rfl, by (intro w hSw; (try dsimp only at hSw); go_split_ands; go_simp; (try with_reducible rfl))⟩
                case hqz19 => exact fun _ _ _ h => h
                try simp only [Act.put, List.setIfInBounds_toArray, List.set_cons_zero, List.set_cons_succ]
                refine wpAnyH_take (i := 3) (oi := ?oiz20) (v := ?vz20) ?hiz20 ?haz20 ?hbz20 ?hcz20 ?hqz20 ?hyz20 (by assumption) ?restz20
                case hiz20 => (simp only [List.getElem?_toArray, List.getElem?_cons_zero, List.getElem?_cons_succ]; rfl)
                case haz20 => kernel_rfl
                case hbz20 => kernel_rfl
                case hcz20 => kernel_rfl
                case hyz20 => exact Or.inl ⟨by rfl, by (intro w hSw; (try dsimp only at hSw); go_split_ands; go_simp; (try with_reducible rfl))⟩
                case hqz20 => exact fun _ _ _ h => h
                try simp only [Act.put, List.setIfInBounds_toArray, List.set_cons_zero, List.set_cons_succ]
                refine wpAnyH_take (i := 4) (oi := ?oiz21) (v := ?vz21) ?hiz21 ?haz21 ?hbz21 ?hcz21 ?hqz21 ?hyz21 (by assumption) ?restz21
                case hiz21 => (simp only [List.getElem?_toArray, List.getElem?_cons_zero, List.getElem?_cons_succ]; rfl)
                case haz21 => kernel_rfl
                case hbz21 => kernel_rfl
                case hcz21 => kernel_rfl
                case hyz21 => exact Or.inl ⟨by rfl, by (intro w hSw; (try dsimp only at hSw); go_split_ands; go_simp; (try with_reducible rfl))⟩
                case hqz21 => exact fun _ _ _ h => h
                try simp only [Act.put, List.setIfInBounds_toArray, List.set_cons_zero, List.set_cons_succ]
                refine wpAnyH_ready (rs := [5]) (by kernel_rfl) (by simp) ?_
                refine AllReadyH.cons (o := ?oiz22) ?hiz22 (fun K hK => ?stepz22) AllReadyH.nil
                case hiz22 => (simp only [List.getElem?_toArray, List.getElem?_cons_zero, List.getElem?_cons_succ]; rfl)
                go_simp
                refine (full_is wd.drew A' zl c' zs (hsld) hzlm).mono ?_
                rintro e wf29 ⟨rfl, hbf29'⟩
                have hbf29 : Below wd.heap.size wd wf29 := ⟨hbf29'.os, hbf29'.tape, hbf29'.output, hbf29'.size, hbf29'.block⟩
                clear hbf29'
                have hpf29 := hpdd.only (Only.of_below (F := Nothing) hbf29) (fun _ _ hk => hk)
                have hSf29 := cells2_only (F := Nothing) (Only.of_below hbf29) (fun h => h) hS29
                refine hK.out _ _ hSf29 (fun hHeld => ?_)
                clear hK K
                try simp only [Act.put, List.setIfInBounds_toArray, List.set_cons_zero, List.set_cons_succ]
                refine wpAnyH_ready (rs := [6]) (by kernel_rfl) (by simp) ?_
                refine AllReadyH.cons (o := ?oiz23) ?hiz23 (fun K hK => ?stepz23) AllReadyH.nil
                case hiz23 => (simp only [List.getElem?_toArray, List.getElem?_cons_zero, List.getElem?_cons_succ]; rfl)
                go_simp
                refine (dwrote_is F wf29 d T hpf29 num (fullOf zs) hzb ho hcu (by omega)).mono ?_
                rintro e w19 ⟨⟨er29, rfl⟩, hp29, hO29⟩
                have hSg29 := cells2_only hO29 (fun hk => by have := hFr29 _ hk; omega) hSf29
                refine hK.out _ _ hSg29 (fun hHeld => ?_)
                clear hK K
                try simp only [Act.put, List.setIfInBounds_toArray, List.set_cons_zero, List.set_cons_succ]
                refine wpAnyH_done (by kernel_rfl) ?_ _
                clear hHeld
                have hbt19 : Below w.heap.size w w19 := (hbt.trans (hbf29.mono hbt.size)).trans (hO29.below (Nat.le_trans hbt.size hbf29.size) hFB)
                have hwr := wrote_same T num (fullOf zs)
                have hslw19 := (hslwd.below hbf29).only hO29 (fun ad hA _ => (hAw ad hA).2)
                have hfin : ∃ (F : Nat → Prop) (T : DS), PD F w19 d T ∧ T.kept = S1.kept ∧ T.inn = S1.inn ∧ T.room = S1.room ∧ T.off = false ∧ T.cut = -1 ∧ T.waits.length ≤ k + 1 ∧ (∀ j, F j → w.heap.size ≤ j) ∧ (∀ ad, Aw = some ad → ad.block < w19.heap.size ∧ ¬ F ad.block) := by
                  refine ⟨_, _, hp29, by rw [hwr.1]; exact hkept, by rw [hwr.2.1]; exact hinn, by rw [hwr.2.2.1]; exact hroom, by rw [hwr.2.2.2.1]; exact ho, by rw [hwr.2.2.2.2.1]; exact hcu, by have := hwr.2.2.2.2.2; omega, ?_, ?_⟩
                  · intro j hf
                    rcases hf with hf | hf
                    · exact hFB j hf
                    · have := hbt.size; have := hbf29.size; omega
                  · intro ad hA
                    have h1 := hAw ad hA
                    refine ⟨by have := hbd.size; have := hbf29.size; have := hO29.size; omega, ?_⟩
                    intro hf
                    rcases hf with hf | hf
                    · exact h1.2 hf
                    · have := hbd.size; have := hbf29.size; omega
                have Hfin := Lib.hid hfin
                clear hfin hp29 hpf29 hO29 hbf29 hSf29 hSg29 hS29 hwr hpdd hpd hFB hcells29 hslw hslwd hkept hinn hroom
                go_wp2_with fail
                go_roundw
                case rel =>
                  obtain ⟨F', T', a1, a2, a3, a4, a5, a6, a7, a8, a9⟩ := Hfin.out
                  exact ⟨k + 1, F', T', by omega, by go_num, a1, a2, a3, a4, a5, a6, a7, a8, a9, hslw19, hbt19⟩
                case measure => simp [intOf]; omega
              · have hkb : (kind == 1) = false := by simpa using hkind
                go_wp2_with fail
                rw [← Hwd.out]
                go_roundw
                case rel => exact ⟨k + 1, F, T, by omega, by go_num, hpdd, hkept, hinn, hroom, ho, hcu, by omega, hFB, fun ad hA => ⟨by have := (hAw ad hA).1; have := hbd.size; omega, (hAw ad hA).2⟩, hslwd, hbt⟩
                case measure => simp [intOf]; omega
            · obtain rfl : k = n2 := by omega
              obtain ⟨w20, hw20⟩ : ∃ w20 : World, w20 = wr := ⟨_, rfl⟩
              rw [← hw20] at hpd hslw hb hAw ⊢
              clear hw20
              go_wp2_with fail
              refine (dcrash_is F w20 d T hpd none 0 0 [] (Sl.nil_ _ _) (by simp) (by omega) (fun ad hA => by cases hA)).mono ?_
              rintro e w21 ⟨rfl, hp21, hO21⟩
              have hslw21 := hslw.only hO21 (fun ad hA _ => (hAw ad hA).2)
              have hbt21 : Below w.heap.size w w21 := hb.trans (hO21.below hb.size hFB)
              have hT1 : (T.crashed []).kept = S1.kept ∧ (T.crashed []).room = S1.room ∧ (T.crashed []).used = S1.used ∧ (T.crashed []).waits = [] := by
                have e1 : (T.crashed []).kept = S1.kept := by show (T.crashTo [] _).kept = _; rw [crashTo_none]; exact hkept
                have e2 : (T.crashed []).inn = S1.inn := by show (T.crashTo [] _).inn = _; rw [crashTo_none]; exact hinn
                refine ⟨e1, by show (T.crashTo [] _).room = _; rw [crashTo_none]; exact hroom, used_same (by rw [e1]) e2 (by rw [hwaits1.out]; rfl), rfl⟩
              obtain ⟨T1, hT1e⟩ : ∃ T1, T1 = T.crashed [] := ⟨_, rfl⟩
              rw [← hT1e] at hp21 hT1
              have HT1 := Lib.hid hT1
              clear hT1 hT1e hpd hslw hO21 hb hkept hinn hroom hFB hAw
              go_wp2_with fail
              refine (dimage_is _ w21 d T1 hp21).mono ?_
              rintro e w22 ⟨v4, rfl, hown4, hb22⟩
              have hp22 := hp21.only (Only.of_below (F := Nothing) hb22) (fun _ _ hk => hk)
              have hslw22 := hslw21.below hb22
              have hbt22 : Below w.heap.size w w22 := hbt21.trans (hb22.mono hbt21.size)
              obtain ⟨Ac, cc, rfl, hslc⟩ := own_form hown4
              rw [HT1.out.1, ← Hys.out, ← HK.out] at hslc
              rw [HT1.out.1, ← HK.out]
              clear hp21 hown4 hslw21
              go_wp2_with fail
              refine (same_any Ac Aw K K cc cw ys ys w22 hslc hslw22 hK2 hK2).mono ?_
              rintro e w23 ⟨rfl, q23, hw23⟩
              rw [decide_eq_true rfl]
              have hO23 : Only Nothing w22 w23 := by rw [hw23]; exact (Only.refl Nothing w22).drewN q23
              have hp23 := hp22.only hO23 (fun _ _ hk => hk)
              have hbt23 : Below w.heap.size w w23 := hbt22.trans (hO23.below hbt22.size (fun _ h => h.elim))
              clear hw23 hslc hslw22 hp22
              go_wp2_with fail
              refine (dleft_is _ w23 d T1 hp23).mono ?_
              rintro e w24 ⟨rfl, hO24⟩
              rw [HT1.out.2.1, HT1.out.2.2.1, ← Hlf.out]
              have hp24 := hp23.only hO24 (fun _ _ hk => hk)
              have hbt24 : Below w.heap.size w w24 := hbt23.trans (hO24.below hbt23.size (fun _ h => h.elim))
              go_wp2_with fail
              refine (dwaits_is _ w24 d T1 hp24).mono ?_
              rintro e w25 ⟨rfl, hO25⟩
              rw [HT1.out.2.2.2]
              have hbt25 : Below w.heap.size w w25 := hbt24.trans (hO25.below hbt24.size (fun _ h => h.elim))
              go_wp2
              go_ret
              exact ⟨rfl, hbt25⟩
end Go.Proofs.Ythdclncgmhgmfaa
