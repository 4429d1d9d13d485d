/- The law DiskKeeps, walked. -/
import Derived.Test.YthdclncgmhgmfaaKeep0
import Derived.Test.YthdclncgmhgmfaaAwake6
namespace Go.Proofs.Ythdclncgmhgmfaa
open Go.RowKit Go.Deep
set_option linter.unusedSimpArgs false
set_option linter.unusedVariables false

theorem cells4_of {w w' : World} {a1 a2 a3 a4 : Addr} {v1 v2 v3 v4 : Value} (hb : Below w.heap.size w w') (h : w.cell? a1 = some v1 ∧ w.cell? a2 = some v2 ∧ w.cell? a3 = some v3 ∧ w.cell? a4 = some v4) :
    w'.cell? a1 = some v1 ∧ w'.cell? a2 = some v2 ∧ w'.cell? a3 = some v3 ∧ w'.cell? a4 = some v4 :=
  ⟨(hb.cell (World.block_lt_of_cell? w _ h.1)).trans h.1, (hb.cell (World.block_lt_of_cell? w _ h.2.1)).trans h.2.1, (hb.cell (World.block_lt_of_cell? w _ h.2.2.1)).trans h.2.2.1, (hb.cell (World.block_lt_of_cell? w _ h.2.2.2)).trans h.2.2.2⟩
/-- What is done is a write of u at place i of sector n. -/
def GoodAt (V : Nat → Nat → Int) (Z : Nat → List Int) (n i : Nat) (u : Int) (j : Nat) : Prop := V j 0 = 1 ∧ V j 1 = (n : Int) ∧ (fullOf (Z j))[i]? = some u
theorem run_idx (zs : List Int) (i : Nat) (fv : Int) (hi : i < 128) (h : (u8s zs).toArray[i]? = some (.int .u8 fv)) (w : World) : (Instr.index 52 (.agg (u8s zs).toArray) (.int .i64 (i : Int))).run Try.prog w = .ok (.int .u8 fv) w := by
  have h0 : (0 : Int) ≤ (i : Int) := by omega
  have h1 : (i : Int) < 128 := by omega
  have h2 : Option.map (Value.int IntKind.u8) zs[i]? = some (.int .u8 fv) := by rw [List.getElem?_toArray, List.getElem?_map] at h; exact h
  clear h
  unfold Instr.index
  go_simp
theorem at_kept {T : DS} {n : Nat} {r : List Int} (hw : T.waits = []) (hr : T.kept[n]? = some r) : T.at_ n = r := by
  unfold DS.at_
  rw [hw]
  simp [List.getD, hr]

set_option maxRecDepth 100000 in
set_option maxHeartbeats 25600000 in
theorem diskKeeps_walk (w : World) (A1 : Option Addr) (n1 c1 : Nat) (V1 : Nat → Nat → Int) (B1 : Nat → Value) (Z1 : Nat → List Int) (hx1 : Dos w A1 n1 2 V1 B1 Z1) (hok1 : DosOk n1 2 V1 Z1) (hn1 : n1 ≤ 9223372036854775807)
    (A2 : Option Addr) (n2 c2 : Nat) (V2 : Nat → Nat → Int) (B2 : Nat → Value) (Z2 : Nat → List Int) (hx2 : Dos w A2 n2 2 V2 B2 Z2) (hok2 : DosOk n2 2 V2 Z2) (hn2 : n2 ≤ 9223372036854775807)
    (A3 : Option Addr) (n3 c3 : Nat) (cs : List Int) (hx3 : Sl w A3 n3 (u8s cs)) (hcs : ∀ x ∈ cs, 0 ≤ x ∧ x < 256) (hn3 : n3 ≤ 9223372036854775807) :
    Calls Try.prog 4 #[.slice A1 n1 c1, .slice A2 n2 c2, .slice A3 n3 c3] w fun e w' => e = .returned (.bool true) ∧ Below w.heap.size w w' := by
  go_enter Try.func4, Try.ntmps4
  go_wp2_with fail
  refine (awake6_any w).mono ?_
  rintro e w1 ⟨rfl, hb1⟩
  go_wp2_with fail
  refine (few_is w1 A1 n1 c1 V1 B1 Z1 (hx1.below hb1) hok1 hn1).mono ?_
  rintro e w2 ⟨q1, rfl, hq1, hb2⟩
  have hbt2 : Below w.heap.size w w2 := hb1.trans (hb2.mono hb1.size)
  cases q1
  · go_wp2
    go_ret
    exact ⟨rfl, hbt2⟩
  have hn40 : n1 ≤ 40 := hq1 rfl
  go_wp2_with fail
  refine (few_is w2 A2 n2 c2 V2 B2 Z2 (hx2.below hbt2) hok2 hn2).mono ?_
  rintro e w3 ⟨q2, rfl, hq2, hb3⟩
  have hbt3 : Below w.heap.size w w3 := hbt2.trans (hb3.mono hbt2.size)
  cases q2
  · go_wp2
    go_ret
    exact ⟨rfl, hbt3⟩
  have hm40 : n2 ≤ 40 := hq2 rfl
  clear hq1 hq2 hbt2 hb1 hb2 hb3
  by_cases hbig : 100 < n3
  · have hd : decide (100 < (n3 : Int)) = true := decide_eq_true (by omega)
    go_wp2
    go_ret
    exact ⟨rfl, hbt3⟩
  have hd : decide (100 < (n3 : Int)) = false := decide_eq_false (by omega)
  go_wp2_with fail
  refine (new8_is w3).mono ?_
  rintro e w4 ⟨d, rfl, hp4, hb4⟩
  have hbt4 : Below w.heap.size w w4 := hbt3.trans (hb4.mono hbt3.size)
  have hst : ∃ (F : Nat → Prop) (S : DS), PD F w4 d S ∧ (∀ j, F j → w.heap.size ≤ j) ∧ S.off = false ∧ S.cut = -1 ∧ S.kept.length = 8 ∧ S.waits.length ≤ 0 :=
    ⟨_, _, hp4, fun j hj => Nat.le_trans hbt3.size hj.1, rfl, rfl, rfl, Nat.le_refl _⟩
  clear hp4 hb4 hbt3 hd
  go_wp2_with fail
  go_loopw [47] (fun i wr => ∃ (k : Nat) (F : Nat → Prop) (S : DS), k ≤ n1 ∧ i = .int .i64 k ∧ PD F wr d S ∧ (∀ j, F j → w.heap.size ≤ j) ∧ S.off = false ∧ S.cut = -1 ∧ S.kept.length = 8 ∧ S.waits.length ≤ k ∧ Below w.heap.size w wr) (fun i _ => n1 - (intOf i).toNat)
  case atStart =>
    obtain ⟨F, S, a1, a2, a3, a4, a5, a6⟩ := hst
    exact ⟨0, F, S, Nat.zero_le _, rfl, a1, a2, a3, a4, a5, a6, hbt4⟩
  case round =>
    clear hst hbt4
    obtain ⟨k, F, S, hk, rfl, hpd, hFB, ho, hcu, hk8, hwl, hb⟩ := hrel
    by_cases hlt : k < n1
    · have hkI : (k : Int) < (n1 : Int) := by omega
      have hk0 : (0 : Int) ≤ (k : Int) := by omega
      obtain ⟨ad, A', c', rfl, hc0, hc1, hc2, hsl⟩ := hx1.three hlt
      replace hc0 := (hb.cell (World.block_lt_of_cell? w _ hc0)).trans hc0
      replace hc1 := (hb.cell (World.block_lt_of_cell? w _ hc1)).trans hc1
      replace hc2 := (hb.cell (World.block_lt_of_cell? w _ hc2)).trans hc2
      have hokk := hok1 k hlt
      obtain ⟨kind, hkind⟩ : ∃ q, q = V1 k 0 := ⟨_, rfl⟩
      obtain ⟨num, hnum⟩ : ∃ q, q = V1 k 1 := ⟨_, rfl⟩
      obtain ⟨zs, hzs⟩ : ∃ q, q = Z1 k := ⟨_, rfl⟩
      rw [← hkind] at hc0
      rw [← hnum] at hc1
      rw [← hzs] at hc2 hsl hokk
      obtain ⟨zl, hzl⟩ : ∃ q, q = zs.length := ⟨_, rfl⟩
      rw [← hzl] at hc2 hsl hokk
      have hzlm := hokk.2.2
      have hzb := fullOf_byte hokk.2.1
      obtain ⟨wd, hwd⟩ : ∃ wd, wd = wr.alloc (.cells #[.int .i64 kind, .int .i64 num, .slice A' zl c'] 36) := ⟨_, rfl⟩
      have hbd : Below wr.heap.size wr wd := by rw [hwd]; exact below_alloc _ _
      have hPd : Blk wd wr.heap.size 36 [.int .i64 kind, .int .i64 num, .slice A' zl c'] := by rw [hwd]; exact Blk.new _ _ _
      have hbt := hb.trans (hbd.mono hb.size)
      have hsld := hsl.below hbt
      have hp0 := hPd.cell (i := 0) rfl
      have Hwd := Lib.hid hwd
      have Hkind := Lib.hid hkind
      have Hnum := Lib.hid hnum
      have Hzs := Lib.hid hzs
      clear hwd hkind hnum hzs hzl hokk
      have Hsl := Lib.hid hsl
      clear hsl
      have hpdd := hpd.only (Only.of_below (F := Nothing) hbd) (fun _ _ hk => hk)
      have hFr12 : ∀ j, F j → j < wr.heap.size := fun j hj => hpd.fin hj
      by_cases hkind : kind = 1
      · subst hkind
        have hcells12 := And.intro (hPd.cell (i := 1) rfl) (hPd.cell (i := 2) rfl)
        go_upto_region 12 with fail
        rw [← Hwd.out]
        go_upto_region 12 with fail
        have hS12 : wd.cell? ⟨wr.heap.size, 1, none⟩ = some (.int .i64 num) ∧ wd.cell? ⟨wr.heap.size, 2, none⟩ = some (.slice A' zl c') := hcells12
        refine wp_region_held_drew (S := fun w' => w'.cell? ⟨wr.heap.size, 1, none⟩ = some (.int .i64 num) ∧ w'.cell? ⟨wr.heap.size, 2, none⟩ = some (.slice A' zl c')) (by kernel_rfl) hS12 (fun hHeld => ?_)
        refine wpAnyH_take (i := 0) (oi := ?oiz1) (v := ?vz1) ?hiz1 ?haz1 ?hbz1 ?hcz1 ?hqz1 ?hyz1 (by assumption) ?restz1
        case hiz1 => (simp only [List.getElem?_toArray, List.getElem?_cons_zero, List.getElem?_cons_succ]; rfl)
        case haz1 => kernel_rfl
        case hbz1 => kernel_rfl
        case hcz1 => kernel_rfl
        case hyz1 => exact Or.inl ⟨by rfl, by (intro w hSw; (try dsimp only at hSw); go_split_ands; go_simp; (try with_reducible rfl))⟩
        case hqz1 => exact fun _ _ _ h => h
        try simp only [Act.put, List.setIfInBounds_toArray, List.set_cons_zero, List.set_cons_succ]
        refine wpAnyH_take (i := 1) (oi := ?oiz2) (v := ?vz2) ?hiz2 ?haz2 ?hbz2 ?hcz2 ?hqz2 ?hyz2 (by assumption) ?restz2
        case hiz2 => (simp only [List.getElem?_toArray, List.getElem?_cons_zero, List.getElem?_cons_succ]; rfl)
        case haz2 => kernel_rfl
        case hbz2 => kernel_rfl
        case hcz2 => kernel_rfl
        case hyz2 => exact Or.inl ⟨by rfl, by (intro w hSw; (try dsimp only at hSw); go_split_ands; go_simp; (try with_reducible rfl))⟩
        case hqz2 => exact fun _ _ _ h => h
        try simp only [Act.put, List.setIfInBounds_toArray, List.set_cons_zero, List.set_cons_succ]
        refine wpAnyH_take (i := 2) (oi := ?oiz3) (v := ?vz3) ?hiz3 ?haz3 ?hbz3 ?hcz3 ?hqz3 ?hyz3 (by assumption) ?restz3
        case hiz3 => (simp only [List.getElem?_toArray, List.getElem?_cons_zero, List.getElem?_cons_succ]; rfl)
        case haz3 => kernel_rfl
        case hbz3 => kernel_rfl
        case hcz3 => kernel_rfl
        case hyz3 => exact Or.inl ⟨by rfl, by (intro w hSw; (try dsimp only at hSw); go_split_ands; go_simp; (try with_reducible rfl))⟩
        case hqz3 => exact fun _ _ _ h => h
        try simp only [Act.put, List.setIfInBounds_toArray, List.set_cons_zero, List.set_cons_succ]
        refine wpAnyH_take (i := 3) (oi := ?oiz4) (v := ?vz4) ?hiz4 ?haz4 ?hbz4 ?hcz4 ?hqz4 ?hyz4 (by assumption) ?restz4
        case hiz4 => (simp only [List.getElem?_toArray, List.getElem?_cons_zero, List.getElem?_cons_succ]; rfl)
        case haz4 => kernel_rfl
        case hbz4 => kernel_rfl
        case hcz4 => kernel_rfl
        case hyz4 => exact Or.inl ⟨by rfl, by (intro w hSw; (try dsimp only at hSw); go_split_ands; go_simp; (try with_reducible rfl))⟩
        case hqz4 => exact fun _ _ _ h => h
        try simp only [Act.put, List.setIfInBounds_toArray, List.set_cons_zero, List.set_cons_succ]
        refine wpAnyH_take (i := 4) (oi := ?oiz5) (v := ?vz5) ?hiz5 ?haz5 ?hbz5 ?hcz5 ?hqz5 ?hyz5 (by assumption) ?restz5
        case hiz5 => (simp only [List.getElem?_toArray, List.getElem?_cons_zero, List.getElem?_cons_succ]; rfl)
        case haz5 => kernel_rfl
        case hbz5 => kernel_rfl
        case hcz5 => kernel_rfl
        case hyz5 => exact Or.inl ⟨by rfl, by (intro w hSw; (try dsimp only at hSw); go_split_ands; go_simp; (try with_reducible rfl))⟩
        case hqz5 => exact fun _ _ _ h => h
        try simp only [Act.put, List.setIfInBounds_toArray, List.set_cons_zero, List.set_cons_succ]
        refine wpAnyH_ready (rs := [5]) (by kernel_rfl) (by simp) ?_
        refine AllReadyH.cons (o := ?oiz6) ?hiz6 (fun K hK => ?stepz6) AllReadyH.nil
        case hiz6 => (simp only [List.getElem?_toArray, List.getElem?_cons_zero, List.getElem?_cons_succ]; rfl)
        go_simp
        refine (full_is wd.drew A' zl c' zs (hsld) hzlm).mono ?_
        rintro e wf12 ⟨rfl, hbf12'⟩
        have hbf12 : Below wd.heap.size wd wf12 := ⟨hbf12'.os, hbf12'.tape, hbf12'.output, hbf12'.size, hbf12'.block⟩
        clear hbf12'
        have hpf12 := hpdd.only (Only.of_below (F := Nothing) hbf12) (fun _ _ hk => hk)
        have hSf12 := cells2_only (F := Nothing) (Only.of_below hbf12) (fun h => h) hS12
        refine hK.out _ _ hSf12 (fun hHeld => ?_)
        clear hK K
        try simp only [Act.put, List.setIfInBounds_toArray, List.set_cons_zero, List.set_cons_succ]
        refine wpAnyH_ready (rs := [6]) (by kernel_rfl) (by simp) ?_
        refine AllReadyH.cons (o := ?oiz7) ?hiz7 (fun K hK => ?stepz7) AllReadyH.nil
        case hiz7 => (simp only [List.getElem?_toArray, List.getElem?_cons_zero, List.getElem?_cons_succ]; rfl)
        go_simp
        refine (dwrote_is F wf12 d S hpf12 num (fullOf zs) hzb ho hcu (by omega)).mono ?_
        rintro e w6 ⟨⟨er12, rfl⟩, hp12, hO12⟩
        have hSg12 := cells2_only hO12 (fun hk => by have := hFr12 _ hk; omega) hSf12
        refine hK.out _ _ hSg12 (fun hHeld => ?_)
        clear hK K
        try simp only [Act.put, List.setIfInBounds_toArray, List.set_cons_zero, List.set_cons_succ]
        refine wpAnyH_done (by kernel_rfl) ?_ _
        clear hHeld
        have hbt6 : Below w.heap.size w w6 := (hbt.trans (hbf12.mono hbt.size)).trans (hO12.below (Nat.le_trans hbt.size hbf12.size) hFB)
        have hwr := wrote_same S num (fullOf zs)
        have hfin : ∃ (F : Nat → Prop) (S : DS), PD F w6 d S ∧ (∀ j, F j → w.heap.size ≤ j) ∧ S.off = false ∧ S.cut = -1 ∧ S.kept.length = 8 ∧ S.waits.length ≤ k + 1 := by
          refine ⟨_, _, hp12, ?_, by rw [hwr.2.2.2.1]; exact ho, by rw [hwr.2.2.2.2.1]; exact hcu, by rw [hwr.1]; exact hk8, by have := hwr.2.2.2.2.2; omega⟩
          intro j hf
          rcases hf with hf | hf
          · exact hFB j hf
          · have := hbt.size; have := hbf12.size; omega
        have Hfin := Lib.hid hfin
        clear hfin hp12 hpf12 hO12 hbf12 hSf12 hSg12 hS12 hwr hpdd hpd hFB hcells12
        go_wp2_with fail
        go_roundw
        case rel =>
          obtain ⟨F', S', a1, a2, a3, a4, a5, a6⟩ := Hfin.out
          exact ⟨k + 1, F', S', by omega, by go_num, a1, a2, a3, a4, a5, a6, hbt6⟩
        case measure => simp [intOf]; omega
      · have hkb : (kind == 1) = false := by simpa using hkind
        go_wp2_with fail
        rw [← Hwd.out]
        go_roundw
        case rel => exact ⟨k + 1, F, S, by omega, by go_num, hpdd, hFB, ho, hcu, hk8, by omega, hbt⟩
        case measure => simp [intOf]; omega
    · obtain rfl : n1 = k := by omega
      obtain ⟨wo, hwo⟩ : ∃ wo : World, wo = wr := ⟨_, rfl⟩
      rw [← hwo] at hpd hb ⊢
      clear hwo hx1 hok1
      have hgo := goes_on hcu 2
      have hff := flushed_facts hpd.wf
      go_wp2_with fail
      refine (dflush_in F wo d S hpd ho (by rw [hgo])).mono ?_
      rintro e w5 ⟨rfl, hp5, hO5⟩
      rw [hgo] at hp5
      have hbt5 : Below w.heap.size w w5 := hb.trans (hO5.below hb.size hFB)
      have hFB5 : ∀ j, More F wo w5 j → w.heap.size ≤ j := by
        intro j hf
        rcases hf with hf | hf
        · exact hFB j hf
        · have := hb.size; omega
      obtain ⟨S1, hS1⟩ : ∃ S1, S1 = (S.count 2).flushed := ⟨_, rfl⟩
      rw [← hS1] at hp5 hff
      rw [ho, hcu, hk8] at hff
      obtain ⟨K0, hK0⟩ : ∃ K0, K0 = S1.kept := ⟨_, rfl⟩
      have hK0l : K0.length = 8 := by rw [hK0]; exact hff.2.2.2
      have hK0b : ∀ r ∈ K0, Byte128 r := by rw [hK0]; exact hp5.wf.rows
      obtain ⟨wb, hwb⟩ : ∃ wb, wb = w5.heap.size := ⟨_, rfl⟩
      obtain ⟨w6, hw6⟩ : ∃ w6, w6 = w5.alloc (.cells zeroWas 55) := ⟨_, rfl⟩
      have hW6 : Blk w6 wb 55 zeroWas.toList := by rw [hw6, hwb]; exact was_new w5
      have hb6 : Below w5.heap.size w5 w6 := by rw [hw6]; exact below_alloc _ _
      have hp6 := hp5.only (Only.of_below (F := Nothing) hb6) (fun _ _ hk => hk)
      have hbt6 : Below w.heap.size w w6 := hbt5.trans (hb6.mono hbt5.size)
      have hwbB : w.heap.size ≤ wb := by rw [hwb]; exact hbt5.size
      have hst2 : ∃ (F : Nat → Prop) (T : DS) (vs : List Value), PD F w6 d T ∧ T.kept = K0 ∧ T.waits = [] ∧ T.off = false ∧ T.cut = -1 ∧ (∀ j, F j → w.heap.size ≤ j) ∧ (∀ j, F j → j ≠ wb) ∧ Blk w6 wb 55 vs ∧ WasOf vs K0 0 :=
        ⟨_, S1, _, hp6, hK0.symm, hff.1, hff.2.1, hff.2.2.1, hFB5, fun j hf e => by have := hp5.fin hf; omega, hW6, by rw [Array.length_toList, zeroWas_size], fun n r hn => by omega⟩
      have Hst2 := Lib.hid hst2
      have Hw6 := Lib.hid hw6
      have Hwb := Lib.hid hwb
      clear hpd hb hO5 hbt5 hFB5 hp5 hff hS1 hK0 hW6 hb6 hp6 hst2 hw6 ho hcu hk8 hwl hFB hgo hwb
      go_wp2_with fail
      rw [← Hw6.out, ← Hwb.out]
      clear Hw6
      go_loopw [65] (fun i wr => ∃ (k : Nat) (F : Nat → Prop) (T : DS) (vs : List Value), k ≤ 8 ∧ i = .int .i64 k ∧ PD F wr d T ∧ T.kept = K0 ∧ T.waits = [] ∧ T.off = false ∧ T.cut = -1 ∧ (∀ j, F j → w.heap.size ≤ j) ∧ (∀ j, F j → j ≠ wb) ∧ Blk wr wb 55 vs ∧ WasOf vs K0 k ∧ Below w.heap.size w wr) (fun i _ => 8 - (intOf i).toNat)
      case atStart =>
        obtain ⟨F, T, vs, a1, a2, a3, a4, a5, a6, a7, a8, a9⟩ := Hst2.out
        exact ⟨0, F, T, vs, Nat.zero_le _, rfl, a1, a2, a3, a4, a5, a6, a7, a8, a9, hbt6⟩
      case round =>
        clear Hst2 hbt6
        obtain ⟨k, F, T, vs, hk, rfl, hpd, hkept, hwts, ho, hcu, hFB, hFw, hW, hWas, hb⟩ := hrel
        by_cases hlt : k < 8
        · obtain ⟨r, hr⟩ : ∃ r, K0[k]? = some r := ⟨_, List.getElem?_eq_getElem (by rw [hK0l]; exact hlt)⟩
          have hat : T.at_ k = r := at_kept hwts (by rw [hkept]; exact hr)
          have hr128 := (hK0b r (List.mem_of_getElem? hr)).1
          have hread := dread_in F wr d T hpd k ho (by rw [hkept, hK0l]; exact hlt)
          rw [hat] at hread
          have hkI : (k : Int) < 8 := by omega
          have hk0 : (0 : Int) ≤ (k : Int) := by omega
          have hWl := hW.lt
          go_wp2_with fail
          refine hread.mono ?_
          rintro e w7 ⟨rfl, hp7, hO7⟩
          have hW7 := hO7.blk hW (fun hf => hFw _ hf rfl)
          have hbt7 : Below w.heap.size w w7 := hb.trans (hO7.below hb.size hFB)
          obtain ⟨w8, hw8⟩ : ∃ w8, w8 = (w7.alloc (.cells Try.zeroCells52 52)).setCells w7.heap.size 0 (u8s r) := ⟨_, rfl⟩
          have hz := zero_new w7
          have hb8 : Below w7.heap.size w7 w8 := by rw [hw8]; exact below_setCells (below_alloc _ _) (Nat.le_refl _) _ _
          have hR8 : Blk w8 w7.heap.size 52 (u8s r) := by rw [hw8]; exact setCells_whole hz (by simp [hr128, zeros_len])
          have Hth8 := Lib.hid (hz.there (n := (u8s r).toArray.size) (by rw [List.size_toArray, List.length_map, List.length_map, hr128, zeros_len]; omega))
          have hsizeA : (Try.prog.info? 52).map (·.size) = some (u8s r).toArray.size := by rw [size_arr, List.size_toArray, List.length_map, hr128]
          have hsizeL : (Try.prog.info? 52).map (·.size) = some (u8s r).length := by rw [size_arr, List.length_map, hr128]
          have hW8 := hW7.kept (hb8.block _ hW7.lt)
          have Hrange := Lib.hid hR8.range
          have Hth9 := Lib.hid (show w8.there wb (k * 128) (u8s r).toArray.size from fun j hj => by
            rw [List.size_toArray, List.length_map, hr128] at hj
            exact ⟨by rw [hW8.cell (List.getElem?_eq_getElem (show k * 128 + j < vs.length by rw [hWas.1]; omega))]; rfl, hW8.frozen _⟩)
          obtain ⟨w9, hw9⟩ : ∃ w9, w9 = w8.setCells wb (k * 128) (u8s r) := ⟨_, rfl⟩
          have hW9 : Blk w9 wb 55 (vs.take (k * 128) ++ u8s r ++ vs.drop (k * 128 + (u8s r).length)) := by
            rw [hw9]; exact setCells_blk _ _ _ _ hW8 (by rw [List.length_map, hr128, hWas.1]; omega)
          have hWas9 := hWas.next hlt hr (fun r hr => (hK0b r hr).1)
          have hp8 := hp7.only (Only.of_below (F := Nothing) hb8) (fun _ _ hk => hk)
          have hO9 : Only (fun j => j = wb) w8 w9 := by rw [hw9]; exact setCells_only w8 (F := fun j => j = wb) (rb := wb) rfl _ _
          have hFw7 : ∀ j, More F wr w7 j → j ≠ wb := by
            intro j hf
            rcases hf with hf | hf
            · exact hFw j hf
            · omega
          have hp9 := hp8.only hO9 hFw7
          have hbt8 : Below w.heap.size w w8 := hbt7.trans (hb8.mono hbt7.size)
          have hbt9 : Below w.heap.size w w9 := by rw [hw9]; exact below_setCells hbt8 hwbB _ _
          have hfin : ∃ (F : Nat → Prop) (T : DS) (vs : List Value), PD F w9 d T ∧ T.kept = K0 ∧ T.waits = [] ∧ T.off = false ∧ T.cut = -1 ∧ (∀ j, F j → w.heap.size ≤ j) ∧ (∀ j, F j → j ≠ wb) ∧ Blk w9 wb 55 vs ∧ WasOf vs K0 (k + 1) := by
            refine ⟨_, _, _, hp9, hkept, hwts, ho, hcu, ?_, hFw7, hW9, hWas9⟩
            intro j hf
            rcases hf with hf | hf
            · exact hFB j hf
            · have := hb.size; omega
          have Hfin := Lib.hid hfin
          have Hw8 := Lib.hid hw8
          have Hw9 := Lib.hid hw9
          clear hfin hp9 hp8 hp7 hpd hO9 hO7 hW9 hW8 hW7 hW hWas9 hWas hw8 hw9 hz hR8 hFw7 hFw hFB hat hr hread
          go_wp2_with (refine wpList_store_mid rfl 52 (.tmp 13) (.tmp 72) rfl w7.heap.size 0 (u8s r).toArray rfl rfl Hth8.out hsizeA (all_oneCell_toArray (one_u8s _)) ?_; rw [show (u8s r).toArray.toList = u8s r from rfl, ← Hw8.out])
          refine wp_load_mid 52 (.tmp 13) rfl w7.heap.size 0 rfl (u8s r) _ Hrange.out Try.underlying52 rfl hsizeL ?_
          go_wp2_with (refine wpList_store_mid rfl 52 (.tmp 78) (.tmp 77) rfl wb (k * 128) (u8s r).toArray rfl rfl Hth9.out hsizeA (all_oneCell_toArray (one_u8s _)) ?_; rw [show (u8s r).toArray.toList = u8s r from rfl, ← Hw9.out])
          go_roundw
          case rel =>
            obtain ⟨F', T', vs', a1, a2, a3, a4, a5, a6, a7, a8, a9⟩ := Hfin.out
            exact ⟨k + 1, F', T', vs', by omega, by go_num, a1, a2, a3, a4, a5, a6, a7, a8, a9, hbt9⟩
          case measure => simp [intOf]; omega
        · have hk8 : k = 8 := by omega
          have hd8 : decide ((k : Int) < 8) = false := decide_eq_false (by omega)
          rw [hk8] at hWas
          have hst3 : ∃ (F : Nat → Prop) (T : DS), PD F wr d T ∧ T.kept = K0 ∧ T.off = false ∧ T.cut = -1 ∧ T.waits.length ≤ 0 ∧ WaitsIn T 0 V2 Z2 ∧ (∀ j, F j → w.heap.size ≤ j) ∧ (∀ j, F j → j ≠ wb) ∧ Blk wr wb 55 vs :=
            ⟨F, T, hpd, hkept, ho, hcu, by rw [hwts]; exact Nat.le_refl _, fun p hp => (by rw [hwts] at hp; cases hp), hFB, hFw, hW⟩
          have Hst3 := Lib.hid hst3
          have hb10 := hb
          clear hst3 hpd hkept hwts ho hcu hFB hFw hW hb hk8 hk
          go_wp2_with fail
          go_loopw [82] (fun i wr => ∃ (k : Nat) (F : Nat → Prop) (T : DS), k ≤ n2 ∧ i = .int .i64 k ∧ PD F wr d T ∧ T.kept = K0 ∧ T.off = false ∧ T.cut = -1 ∧ T.waits.length ≤ k ∧ WaitsIn T k V2 Z2 ∧ (∀ j, F j → w.heap.size ≤ j) ∧ (∀ j, F j → j ≠ wb) ∧ Blk wr wb 55 vs ∧ Below w.heap.size w wr) (fun i _ => n2 - (intOf i).toNat)
          case atStart =>
            obtain ⟨F, T, a1, a2, a3, a4, a5, a6, a7, a8, a9⟩ := Hst3.out
            exact ⟨0, F, T, Nat.zero_le _, rfl, a1, a2, a3, a4, a5, a6, a7, a8, a9, hb10⟩
          case round =>
            clear Hst3 hb10
            obtain ⟨k, F, T, hk, rfl, hpd, hkept, ho, hcu, hwl, hwin, hFB, hFw, hW, hb⟩ := hrel
            by_cases hlt : k < n2
            · have hkI : (k : Int) < (n2 : Int) := by omega
              have hk0 : (0 : Int) ≤ (k : Int) := by omega
              obtain ⟨ad, A', c', rfl, hc0, hc1, hc2, hsl⟩ := hx2.three hlt
              replace hc0 := (hb.cell (World.block_lt_of_cell? w _ hc0)).trans hc0
              replace hc1 := (hb.cell (World.block_lt_of_cell? w _ hc1)).trans hc1
              replace hc2 := (hb.cell (World.block_lt_of_cell? w _ hc2)).trans hc2
              have hokk := hok2 k hlt
              obtain ⟨kind, hkind⟩ : ∃ q, q = V2 k 0 := ⟨_, rfl⟩
              obtain ⟨num, hnum⟩ : ∃ q, q = V2 k 1 := ⟨_, rfl⟩
              obtain ⟨zs, hzs⟩ : ∃ q, q = Z2 k := ⟨_, rfl⟩
              rw [← hkind] at hc0
              rw [← hnum] at hc1
              rw [← hzs] at hc2 hsl hokk
              obtain ⟨zl, hzl⟩ : ∃ q, q = zs.length := ⟨_, rfl⟩
              rw [← hzl] at hc2 hsl hokk
              have hzlm := hokk.2.2
              have hzb := fullOf_byte hokk.2.1
              obtain ⟨wd, hwd⟩ : ∃ wd, wd = wr.alloc (.cells #[.int .i64 kind, .int .i64 num, .slice A' zl c'] 36) := ⟨_, rfl⟩
              have hbd : Below wr.heap.size wr wd := by rw [hwd]; exact below_alloc _ _
              have hPd : Blk wd wr.heap.size 36 [.int .i64 kind, .int .i64 num, .slice A' zl c'] := by rw [hwd]; exact Blk.new _ _ _
              have hbt := hb.trans (hbd.mono hb.size)
              have hsld := hsl.below hbt
              have hp0 := hPd.cell (i := 0) rfl
              have Hwd := Lib.hid hwd
              have Hkind := Lib.hid hkind
              have Hnum := Lib.hid hnum
              have Hzs := Lib.hid hzs
              clear hwd hkind hnum hzs hzl hokk
              have Hsl := Lib.hid hsl
              clear hsl
              have hpdd := hpd.only (Only.of_below (F := Nothing) hbd) (fun _ _ hk => hk)
              have hFr29 : ∀ j, F j → j < wr.heap.size := fun j hj => hpd.fin hj
              have hWd := hW.kept (hbd.block _ hW.lt)
              have hWl := hW.lt
              by_cases hkind : kind = 1
              · subst hkind
                have hcells29 := And.intro (hPd.cell (i := 1) rfl) (hPd.cell (i := 2) rfl)
                go_upto_region 29 with fail
                rw [← Hwd.out]
                go_upto_region 29 with fail
                have hS29 : wd.cell? ⟨wr.heap.size, 1, none⟩ = some (.int .i64 num) ∧ wd.cell? ⟨wr.heap.size, 2, none⟩ = some (.slice A' zl c') := hcells29
                refine wp_region_held_drew (S := fun w' => w'.cell? ⟨wr.heap.size, 1, none⟩ = some (.int .i64 num) ∧ w'.cell? ⟨wr.heap.size, 2, none⟩ = some (.slice A' zl c')) (by kernel_rfl) hS29 (fun hHeld => ?_)
                refine wpAnyH_take (i := 0) (oi := ?oiz9) (v := ?vz9) ?hiz9 ?haz9 ?hbz9 ?hcz9 ?hqz9 ?hyz9 (by assumption) ?restz9
                case hiz9 => (simp only [List.getElem?_toArray, List.getElem?_cons_zero, List.getElem?_cons_succ]; rfl)
                case haz9 => kernel_rfl
                case hbz9 => kernel_rfl
                case hcz9 => kernel_rfl
                case hyz9 => exact Or.inl ⟨by rfl, by (intro w hSw; (try dsimp only at hSw); go_split_ands; go_simp; (try with_reducible rfl))⟩
                case hqz9 => exact fun _ _ _ h => h
                try simp only [Act.put, List.setIfInBounds_toArray, List.set_cons_zero, List.set_cons_succ]
                refine wpAnyH_take (i := 1) (oi := ?oiz10) (v := ?vz10) ?hiz10 ?haz10 ?hbz10 ?hcz10 ?hqz10 ?hyz10 (by assumption) ?restz10
                case hiz10 => (simp only [List.getElem?_toArray, List.getElem?_cons_zero, List.getElem?_cons_succ]; rfl)
                case haz10 => kernel_rfl
                case hbz10 => kernel_rfl
                case hcz10 => kernel_rfl
                case hyz10 => exact Or.inl ⟨by rfl, by (intro w hSw; (try dsimp only at hSw); go_split_ands; go_simp; (try with_reducible rfl))⟩
                case hqz10 => exact fun _ _ _ h => h
                try simp only [Act.put, List.setIfInBounds_toArray, List.set_cons_zero, List.set_cons_succ]
                refine wpAnyH_take (i := 2) (oi := ?oiz11) (v := ?vz11) ?hiz11 ?haz11 ?hbz11 ?hcz11 ?hqz11 ?hyz11 (by assumption) ?restz11
                case hiz11 => (simp only [List.getElem?_toArray, List.getElem?_cons_zero, List.getElem?_cons_succ]; rfl)
                case haz11 => kernel_rfl
                case hbz11 => kernel_rfl
                case hcz11 => kernel_rfl
                case hyz11 => exact Or.inl ⟨by rfl, by (intro w hSw; (try dsimp only at hSw); go_split_ands; go_simp; (try with_reducible rfl))⟩
                case hqz11 => exact fun _ _ _ h => h
                try simp only [Act.put, List.setIfInBounds_toArray, List.set_cons_zero, List.set_cons_succ]
                refine wpAnyH_take (i := 3) (oi := ?oiz12) (v := ?vz12) ?hiz12 ?haz12 ?hbz12 ?hcz12 ?hqz12 ?hyz12 (by assumption) ?restz12
                case hiz12 => (simp only [List.getElem?_toArray, List.getElem?_cons_zero, List.getElem?_cons_succ]; rfl)
                case haz12 => kernel_rfl
                case hbz12 => kernel_rfl
                case hcz12 => kernel_rfl
                case hyz12 => exact Or.inl ⟨by rfl, by (intro w hSw; (try dsimp only at hSw); go_split_ands; go_simp; (try with_reducible rfl))⟩
                case hqz12 => exact fun _ _ _ h => h
                try simp only [Act.put, List.setIfInBounds_toArray, List.set_cons_zero, List.set_cons_succ]
                refine wpAnyH_take (i := 4) (oi := ?oiz13) (v := ?vz13) ?hiz13 ?haz13 ?hbz13 ?hcz13 ?hqz13 ?hyz13 (by assumption) ?restz13
                case hiz13 => (simp only [List.getElem?_toArray, List.getElem?_cons_zero, List.getElem?_cons_succ]; rfl)
                case haz13 => kernel_rfl
                case hbz13 => kernel_rfl
                case hcz13 => kernel_rfl
                case hyz13 => exact Or.inl ⟨by rfl, by (intro w hSw; (try dsimp only at hSw); go_split_ands; go_simp; (try with_reducible rfl))⟩
                case hqz13 => exact fun _ _ _ h => h
                try simp only [Act.put, List.setIfInBounds_toArray, List.set_cons_zero, List.set_cons_succ]
                refine wpAnyH_ready (rs := [5]) (by kernel_rfl) (by simp) ?_
                refine AllReadyH.cons (o := ?oiz14) ?hiz14 (fun K hK => ?stepz14) AllReadyH.nil
                case hiz14 => (simp only [List.getElem?_toArray, List.getElem?_cons_zero, List.getElem?_cons_succ]; rfl)
                go_simp
                refine (full_is wd.drew A' zl c' zs (hsld) hzlm).mono ?_
                rintro e wf29 ⟨rfl, hbf29'⟩
                have hbf29 : Below wd.heap.size wd wf29 := ⟨hbf29'.os, hbf29'.tape, hbf29'.output, hbf29'.size, hbf29'.block⟩
                clear hbf29'
                have hpf29 := hpdd.only (Only.of_below (F := Nothing) hbf29) (fun _ _ hk => hk)
                have hSf29 := cells2_only (F := Nothing) (Only.of_below hbf29) (fun h => h) hS29
                refine hK.out _ _ hSf29 (fun hHeld => ?_)
                clear hK K
                try simp only [Act.put, List.setIfInBounds_toArray, List.set_cons_zero, List.set_cons_succ]
                refine wpAnyH_ready (rs := [6]) (by kernel_rfl) (by simp) ?_
                refine AllReadyH.cons (o := ?oiz15) ?hiz15 (fun K hK => ?stepz15) AllReadyH.nil
                case hiz15 => (simp only [List.getElem?_toArray, List.getElem?_cons_zero, List.getElem?_cons_succ]; rfl)
                go_simp
                refine (dwrote_is F wf29 d T hpf29 num (fullOf zs) hzb ho hcu (by omega)).mono ?_
                rintro e w19 ⟨⟨er29, rfl⟩, hp29, hO29⟩
                have hSg29 := cells2_only hO29 (fun hk => by have := hFr29 _ hk; omega) hSf29
                refine hK.out _ _ hSg29 (fun hHeld => ?_)
                clear hK K
                try simp only [Act.put, List.setIfInBounds_toArray, List.set_cons_zero, List.set_cons_succ]
                refine wpAnyH_done (by kernel_rfl) ?_ _
                clear hHeld
                have hbt19 : Below w.heap.size w w19 := (hbt.trans (hbf29.mono hbt.size)).trans (hO29.below (Nat.le_trans hbt.size hbf29.size) hFB)
                have hwr := wrote_same T num (fullOf zs)
                have hW19 := hO29.blk (hWd.kept (hbf29.block _ hWd.lt)) (fun hf => hFw _ hf rfl)
                have hwin19 : WaitsIn (T.wrote num (fullOf zs)) (k + 1) V2 Z2 := by
                  rw [Hnum.out, Hzs.out]; exact hwin.wrote Hkind.out.symm
                have hfin : ∃ (F : Nat → Prop) (T : DS), PD F w19 d T ∧ T.kept = K0 ∧ T.off = false ∧ T.cut = -1 ∧ T.waits.length ≤ k + 1 ∧ WaitsIn T (k + 1) V2 Z2 ∧ (∀ j, F j → w.heap.size ≤ j) ∧ (∀ j, F j → j ≠ wb) ∧ Blk w19 wb 55 vs := by
                  refine ⟨_, _, hp29, by rw [hwr.1]; exact hkept, by rw [hwr.2.2.2.1]; exact ho, by rw [hwr.2.2.2.2.1]; exact hcu, by have := hwr.2.2.2.2.2; omega, hwin19, ?_, ?_, hW19⟩
                  · intro j hf
                    rcases hf with hf | hf
                    · exact hFB j hf
                    · have := hbt.size; have := hbf29.size; omega
                  · intro j hf
                    rcases hf with hf | hf
                    · exact hFw j hf
                    · have := hbd.size; have := hbf29.size; omega
                have Hfin := Lib.hid hfin
                clear hfin hp29 hpf29 hO29 hbf29 hSf29 hSg29 hS29 hwr hpdd hpd hFB hcells29 hFw hW hWd hW19 hwin hwin19 hkept ho hcu
                go_wp2_with fail
                go_roundw
                case rel =>
                  obtain ⟨F', T', a1, a2, a3, a4, a5, a6, a7, a8, a9⟩ := Hfin.out
                  exact ⟨k + 1, F', T', by omega, by go_num, a1, a2, a3, a4, a5, a6, a7, a8, a9, hbt19⟩
                case measure => simp [intOf]; omega
              · have hkb : (kind == 1) = false := by simpa using hkind
                go_wp2_with fail
                rw [← Hwd.out]
                go_roundw
                case rel => exact ⟨k + 1, F, T, by omega, by go_num, hpdd, hkept, ho, hcu, by omega, hwin.more, hFB, hFw, hWd, hbt⟩
                case measure => simp [intOf]; omega
            · obtain rfl : n2 = k := by omega
              obtain ⟨w20, hw20⟩ : ∃ w20 : World, w20 = wr := ⟨_, rfl⟩
              rw [← hw20] at hpd hW hb ⊢
              clear hw20
              have hxF : ∀ ad, A3 = some ad → 0 < n3 → ¬ F ad.block := by
                intro ad hA hpos hf
                obtain ⟨ad2, u2, e2, hc2, _⟩ := hx3.num hpos
                have e4 : ad2 = ad := Option.some.inj (e2.symm.trans hA)
                have := World.block_lt_of_cell? w _ hc2
                rw [addr_block, e4] at this
                have := hFB _ hf
                omega
              have hx20 := hx3.below hb
              go_wp2_with fail
              refine (dcrash_is F w20 d T hpd A3 n3 c3 cs hx20 hcs hn3 hxF).mono ?_
              rintro e w21 ⟨rfl, hp21, hO21⟩
              have hW21 := hO21.blk hW (fun hf => hFw _ hf rfl)
              have hbt21 : Below w.heap.size w w21 := hb.trans (hO21.below hb.size hFB)
              obtain ⟨K1, hK1⟩ : ∃ K1, K1 = (T.crashed cs).kept := ⟨_, rfl⟩
              have hK1l : K1.length = 8 := by
                rw [hK1]
                show (T.crashTo cs T.waits.length).kept.length = 8
                rw [(crashTo_same T cs _).2, hkept]; exact hK0l
              have hK1b : ∀ r ∈ K1, Byte128 r := by rw [hK1]; exact hp21.wf.rows
              have hbytes : ∀ (n i : Nat) (r : List Int) (u : Int), K1[n]? = some r → r[i]? = some u → (∃ r0, K0[n]? = some r0 ∧ r0[i]? = some u) ∨ ∃ j, j < n2 ∧ GoodAt V2 Z2 n i u j := by
                intro n i r u hr hu
                rw [hK1] at hr
                rcases crash_bytes hpd.wf cs _ n i r u hr hu with h1 | ⟨p, hp, hp1, hp2⟩
                · rw [hkept] at h1; exact Or.inl h1
                · obtain ⟨j, hj, a1, a2, a3⟩ := hwin p hp
                  exact Or.inr ⟨j, hj, a1, by rw [← a2]; exact hp1, by rw [← a3]; exact hp2⟩
              have hst4 : ∃ (F : Nat → Prop) (T : DS), PD F w21 d T ∧ T.kept = K1 ∧ T.waits = [] ∧ T.off = false ∧ (∀ j, F j → w.heap.size ≤ j) ∧ (∀ j, F j → j ≠ wb) ∧ Blk w21 wb 55 vs := by
                refine ⟨_, _, hp21, hK1.symm, rfl, rfl, ?_, ?_, hW21⟩
                · intro j hf
                  rcases hf with hf | hf
                  · exact hFB j hf
                  · have := hb.size; omega
                · intro j hf
                  rcases hf with hf | hf
                  · exact hFw j hf
                  · have := hW.lt; omega
              have Hst4 := Lib.hid hst4
              have Hbytes := Lib.hid hbytes
              clear hst4 hbytes hpd hkept ho hcu hwl hwin hFB hFw hW hb hxF hx20 hp21 hO21 hW21 hK1
              go_wp2_with fail
              go_loopw [100] (fun i wr => ∃ (k : Nat) (F : Nat → Prop) (T : DS), k ≤ 8 ∧ i = .int .i64 k ∧ PD F wr d T ∧ T.kept = K1 ∧ T.waits = [] ∧ T.off = false ∧ (∀ j, F j → w.heap.size ≤ j) ∧ (∀ j, F j → j ≠ wb) ∧ Blk wr wb 55 vs ∧ Below w.heap.size w wr) (fun i _ => 8 - (intOf i).toNat)
              case atStart =>
                obtain ⟨F, T, a1, a2, a3, a4, a5, a6, a7⟩ := Hst4.out
                exact ⟨0, F, T, Nat.zero_le _, rfl, a1, a2, a3, a4, a5, a6, a7, hbt21⟩
              case round =>
                clear Hst4 hbt21
                obtain ⟨k, F, T, hk, rfl, hpd, hkept, hwts, ho, hFB, hFw, hW, hb⟩ := hrel
                by_cases hlt : k < 8
                · obtain ⟨r, hr⟩ : ∃ r, K1[k]? = some r := ⟨_, List.getElem?_eq_getElem (by rw [hK1l]; exact hlt)⟩
                  obtain ⟨r0, hr0⟩ : ∃ r0, K0[k]? = some r0 := ⟨_, List.getElem?_eq_getElem (by rw [hK0l]; exact hlt)⟩
                  have hat : T.at_ k = r := at_kept hwts (by rw [hkept]; exact hr)
                  have hr128 := (hK1b r (List.mem_of_getElem? hr)).1
                  have hr0128 := (hK0b r0 (List.mem_of_getElem? hr0)).1
                  have hread := dread_in F wr d T hpd k ho (by rw [hkept, hK1l]; exact hlt)
                  rw [hat] at hread
                  have hkI : (k : Int) < 8 := by omega
                  have hk0 : (0 : Int) ≤ (k : Int) := by omega
                  have hWl := hW.lt
                  have Hby := Lib.hid (fun i u => Hbytes.out k i r u hr)
                  have Hwas := Lib.hid (fun j u => hWas.2 k r0 hlt hr0 j u)
                  have Hr0 := Lib.hid hr0
                  go_wp2_with fail
                  refine hread.mono ?_
                  rintro e w7 ⟨rfl, hp7, hO7⟩
                  have hW7 := hO7.blk hW (fun hf => hFw _ hf rfl)
                  have hbt7 : Below w.heap.size w w7 := hb.trans (hO7.below hb.size hFB)
                  obtain ⟨w8, hw8⟩ : ∃ w8, w8 = (w7.alloc (.cells Try.zeroCells52 52)).setCells w7.heap.size 0 (u8s r) := ⟨_, rfl⟩
                  have hz := zero_new w7
                  have hb8 : Below w7.heap.size w7 w8 := by rw [hw8]; exact below_setCells (below_alloc _ _) (Nat.le_refl _) _ _
                  obtain ⟨bb, hbb⟩ : ∃ bb, bb = w7.heap.size := ⟨_, rfl⟩
                  have hR8 : Blk w8 bb 52 (u8s r) := by rw [hw8, hbb]; exact setCells_whole hz (by simp [hr128, zeros_len])
                  have Hth8 := Lib.hid (hz.there (n := (u8s r).toArray.size) (by rw [List.size_toArray, List.length_map, List.length_map, hr128, zeros_len]; omega))
                  have hsizeA : (Try.prog.info? 52).map (·.size) = some (u8s r).toArray.size := by rw [size_arr, List.size_toArray, List.length_map, hr128]
                  have hW8 := hW7.kept (hb8.block _ hW7.lt)
                  have hp8 := hp7.only (Only.of_below (F := Nothing) hb8) (fun _ _ hk => hk)
                  have hbt8 : Below w.heap.size w w8 := hbt7.trans (hb8.mono hbt7.size)
                  have hfin : ∃ (F : Nat → Prop) (T : DS), (∀ wz, Below w8.heap.size w8 wz → PD F wz d T) ∧ T.kept = K1 ∧ T.waits = [] ∧ T.off = false ∧ (∀ j, F j → w.heap.size ≤ j) ∧ (∀ j, F j → j ≠ wb) := by
                    refine ⟨_, _, fun wz hbz => hp8.only (Only.of_below (F := Nothing) hbz) (fun _ _ hk => hk), hkept, hwts, ho, ?_, ?_⟩
                    · intro j hf
                      rcases hf with hf | hf
                      · exact hFB j hf
                      · have := hb.size; omega
                    · intro j hf
                      rcases hf with hf | hf
                      · exact hFw j hf
                      · omega
                  have Hfin := Lib.hid hfin
                  have Hw8 := Lib.hid hw8
                  have Hbb := Lib.hid hbb
                  clear hfin hp8 hp7 hpd hO7 hW7 hW hw8 hz hFw hFB hat hread hkept hwts ho hb8 hbt7 hb hr hr0 hbb
                  go_wp2_with (refine wpList_store_mid rfl 52 (.tmp 18) (.tmp 107) rfl w7.heap.size 0 (u8s r).toArray rfl rfl Hth8.out hsizeA (all_oneCell_toArray (one_u8s _)) ?_; rw [show (u8s r).toArray.toList = u8s r from rfl, ← Hw8.out])
                  rw [← Hbb.out]
                  clear Hth8 Hw8
                  go_loopw [111] (fun i wr => ∃ i1 : Nat, i1 ≤ 128 ∧ i = .int .i64 i1 ∧ Below w8.heap.size w8 wr) (fun i _ => 128 - (intOf i).toNat)
                  case atStart => exact ⟨0, Nat.zero_le _, rfl, Below.refl _ _⟩
                  case round =>
                    obtain ⟨i, hi, rfl, hbi⟩ := hrel
                    by_cases hlti : i < 128
                    · obtain ⟨u, hu⟩ : ∃ u, r[i]? = some u := ⟨_, List.getElem?_eq_getElem (by omega)⟩
                      obtain ⟨u0, hu0⟩ : ∃ u0, r0[i]? = some u0 := ⟨_, List.getElem?_eq_getElem (by omega)⟩
                      have hiI : (i : Int) < 128 := by omega
                      have hi0 : (0 : Int) ≤ (i : Int) := by omega
                      have hcu := (hR8.kept (hbi.block _ hR8.lt)).cell (i := i) (v := .int .u8 u) (by rw [List.getElem?_map, hu]; rfl)
                      have hcu0 := (hW8.kept (hbi.block _ hW8.lt)).cell (i := k * 128 + i) (v := .int .u8 u0) (Hwas.out i u0 hu0)
                      have hgood : u = u0 ∨ ∃ j, j < n2 ∧ GoodAt V2 Z2 k i u j := by
                        rcases Hby.out i u hu with ⟨r1, h1, h2⟩ | h1
                        · obtain rfl : r1 = r0 := Option.some.inj (h1.symm.trans Hr0.out)
                          exact Or.inl (Option.some.inj (h2.symm.trans hu0))
                        · exact Or.inr h1
                      obtain ⟨q0, hq0⟩ : ∃ q0, q0 = (u == u0) := ⟨_, rfl⟩
                      have hq : q0 = true ∨ ∃ j, 0 ≤ j ∧ j < n2 ∧ GoodAt V2 Z2 k i u j := by
                        rcases hgood with h1 | ⟨j, h1, h2⟩
                        · left; rw [hq0, h1]; simp
                        · exact Or.inr ⟨j, Nat.zero_le _, h1, h2⟩
                      have Hq := Lib.hid hq
                      have hq0' := hq0.symm
                      have Hu := Lib.hid hu
                      clear hgood hq hu hu0 hq0
                      go_wp2_with fail
                      go_quiet (fail)
                      obtain ⟨w9, hw9⟩ : ∃ w9, w9 = wr.drewN nq := ⟨_, rfl⟩
                      have hb9 : Below w8.heap.size w8 w9 := by rw [hw9]; exact below_drewN hbi nq
                      rw [← hw9]
                      clear hw9 hcu hcu0 hbi
                      go_wp2_with fail
                      go_loopw [21, 125] (fun qv jv wr => ∃ (j : Nat) (q : Bool), j ≤ n2 ∧ jv = .int .i64 j ∧ qv = .bool q ∧ Hid (q = true ∨ ∃ j', j ≤ j' ∧ j' < n2 ∧ GoodAt V2 Z2 k i u j') ∧ Below w8.heap.size w8 wr) (fun _ jv _ => n2 - (intOf jv).toNat)
                      case atStart => exact ⟨0, q0, Nat.zero_le _, rfl, rfl, Hq, hb9⟩
                      case round =>
                        clear hq0' hb9 Hq
                        obtain ⟨j, q, hj, rfl, rfl, Hq, hbj⟩ := hrel
                        by_cases hlt : j < n2
                        · have hb : Below w.heap.size w wr := hbt8.trans (hbj.mono hbt8.size)
                          have hjI : (j : Int) < (n2 : Int) := by omega
                          have hj0 : (0 : Int) ≤ (j : Int) := by omega
                          obtain ⟨ad, A', c', rfl, hc0, hc1, hc2, hsl⟩ := hx2.three hlt
                          replace hc0 := (hb.cell (World.block_lt_of_cell? w _ hc0)).trans hc0
                          replace hc1 := (hb.cell (World.block_lt_of_cell? w _ hc1)).trans hc1
                          replace hc2 := (hb.cell (World.block_lt_of_cell? w _ hc2)).trans hc2
                          have hokk := hok2 j hlt
                          obtain ⟨kind, hkind⟩ : ∃ q, q = V2 j 0 := ⟨_, rfl⟩
                          obtain ⟨num, hnum⟩ : ∃ q, q = V2 j 1 := ⟨_, rfl⟩
                          obtain ⟨zs, hzs⟩ : ∃ q, q = Z2 j := ⟨_, rfl⟩
                          rw [← hkind] at hc0
                          rw [← hnum] at hc1
                          rw [← hzs] at hc2 hsl hokk
                          obtain ⟨zl, hzl⟩ : ∃ q, q = zs.length := ⟨_, rfl⟩
                          rw [← hzl] at hc2 hsl hokk
                          have hzlm := hokk.2.2
                          have hzb := fullOf_byte hokk.2.1
                          obtain ⟨wd, hwd⟩ : ∃ wd, wd = wr.alloc (.cells #[.int .i64 kind, .int .i64 num, .slice A' zl c'] 36) := ⟨_, rfl⟩
                          have hbd : Below wr.heap.size wr wd := by rw [hwd]; exact below_alloc _ _
                          have hPd : Blk wd wr.heap.size 36 [.int .i64 kind, .int .i64 num, .slice A' zl c'] := by rw [hwd]; exact Blk.new _ _ _
                          have hbt := hb.trans (hbd.mono hb.size)
                          have hsld := hsl.below hbt
                          have hp0 := hPd.cell (i := 0) rfl
                          have Hwd := Lib.hid hwd
                          have Hkind := Lib.hid hkind
                          have Hnum := Lib.hid hnum
                          have Hzs := Lib.hid hzs
                          clear hwd hkind hnum hzs hzl hokk
                          have Hsl := Lib.hid hsl
                          clear hsl
                          have hbjd : Below w8.heap.size w8 wd := hbj.trans (hbd.mono hbj.size)
                          have hp1 := hPd.cell (i := 1) rfl
                          have hp2 := hPd.cell (i := 2) rfl
                          cases q
                          case true =>
                            go_upto_region 45 with fail
                            rw [← Hwd.out]
                            go_quiet (fail)
                            have hbn := below_drewN hbjd nq
                            go_wp2_with fail
                            go_roundw
                            case rel => exact ⟨j + 1, true, by omega, by go_num, rfl, Lib.hid (Or.inl rfl), hbn⟩
                            case measure => simp [intOf]; omega
                          case false =>
                            have Hlater := Lib.hid (show ¬ GoodAt V2 Z2 k i u j → ∃ j', j + 1 ≤ j' ∧ j' < n2 ∧ GoodAt V2 Z2 k i u j' from fun hno => by
                              rcases Hq.out with h1 | ⟨j', h1, h2, h3⟩
                              · cases h1
                              · refine ⟨j', ?_, h2, h3⟩
                                rcases Nat.lt_or_ge j j' with h4 | h4
                                · exact h4
                                · have : j' = j := by omega
                                  subst this
                                  exact absurd h3 hno)
                            by_cases hk1 : kind = 1
                            · subst hk1
                              by_cases hnk : num = (k : Int)
                              · subst hnk
                                obtain ⟨fv, hfv⟩ : ∃ fv, (fullOf zs)[i]? = some fv := ⟨_, List.getElem?_eq_getElem (by rw [fullOf_len]; exact hlti)⟩
                                have hcud := (hR8.kept (hbjd.block _ hR8.lt)).cell (i := i) (v := .int .u8 u) (by rw [List.getElem?_map, Hu.out]; rfl)
                                have hS45 : wd.cell? ⟨wr.heap.size, 0, none⟩ = some (.int .i64 1) ∧ wd.cell? ⟨wr.heap.size, 1, none⟩ = some (.int .i64 (k : Int)) ∧ wd.cell? ⟨wr.heap.size, 2, none⟩ = some (.slice A' zl c') ∧ wd.cell? ⟨bb, i, none⟩ = some (.int .u8 u) := ⟨hp0, hp1, hp2, hcud⟩
                                have hidx : (u8s (fullOf zs)).toArray[i]? = some (.int .u8 fv) := by rw [List.getElem?_toArray, List.getElem?_map, hfv]; rfl
                                obtain ⟨q1, hq1⟩ : ∃ q1, (fv == u) = q1 := ⟨_, rfl⟩
                                have Hnext := Lib.hid (show q1 = true ∨ ∃ j', j + 1 ≤ j' ∧ j' < n2 ∧ GoodAt V2 Z2 k i u j' by
                                  by_cases hfu : fv = u
                                  · left; rw [← hq1, hfu]; simp
                                  · right
                                    refine Hlater.out (fun hg => hfu ?_)
                                    have h5 := hg.2.2
                                    rw [← Hzs.out, hfv] at h5
                                    exact Option.some.inj h5)
                                clear hfv Hq
                                go_upto_region 45 with fail
                                rw [← Hwd.out]
                                refine wp_region_held_drew (S := fun w' => w'.cell? ⟨wr.heap.size, 0, none⟩ = some (.int .i64 1) ∧ w'.cell? ⟨wr.heap.size, 1, none⟩ = some (.int .i64 (k : Int)) ∧ w'.cell? ⟨wr.heap.size, 2, none⟩ = some (.slice A' zl c') ∧ w'.cell? ⟨bb, i, none⟩ = some (.int .u8 u)) (by kernel_rfl) hS45 (fun hHeld => ?_)
                                refine wpAnyH_take (i := 0) (oi := ?oiz17) (v := ?vz17) ?hiz17 ?haz17 ?hbz17 ?hcz17 ?hqz17 ?hyz17 (by assumption) ?restz17
                                case hiz17 => (simp only [List.getElem?_toArray, List.getElem?_cons_zero, List.getElem?_cons_succ]; rfl)
                                case haz17 => kernel_rfl
                                case hbz17 => kernel_rfl
                                case hcz17 => kernel_rfl
                                case hyz17 => exact Or.inl ⟨by rfl, by (intro w hSw; (try dsimp only at hSw); go_split_ands; go_simp; (try with_reducible rfl))⟩
                                case hqz17 => exact fun _ _ _ h => h
                                try simp only [Act.put, List.setIfInBounds_toArray, List.set_cons_zero, List.set_cons_succ]
                                refine wpAnyH_take (i := 1) (oi := ?oiz18) (v := ?vz18) ?hiz18 ?haz18 ?hbz18 ?hcz18 ?hqz18 ?hyz18 (by assumption) ?restz18
                                case hiz18 => (simp only [List.getElem?_toArray, List.getElem?_cons_zero, List.getElem?_cons_succ]; rfl)
                                case haz18 => kernel_rfl
                                case hbz18 => kernel_rfl
                                case hcz18 => kernel_rfl
                                case hyz18 => exact Or.inl ⟨by rfl, by (intro w hSw; (try dsimp only at hSw); go_split_ands; go_simp; (try with_reducible rfl))⟩
                                case hqz18 => exact fun _ _ _ h => h
                                try simp only [Act.put, List.setIfInBounds_toArray, List.set_cons_zero, List.set_cons_succ]
                                refine wpAnyH_take (i := 2) (oi := ?oiz19) (v := ?vz19) ?hiz19 ?haz19 ?hbz19 ?hcz19 ?hqz19 ?hyz19 (by assumption) ?restz19
                                case hiz19 => (simp only [List.getElem?_toArray, List.getElem?_cons_zero, List.getElem?_cons_succ]; rfl)
                                case haz19 => kernel_rfl
                                case hbz19 => kernel_rfl
                                case hcz19 => kernel_rfl
                                case hyz19 => exact Or.inl ⟨by rfl, by (intro w hSw; (try dsimp only at hSw); go_split_ands; go_simp; (try with_reducible rfl))⟩
                                case hqz19 => exact fun _ _ _ h => h
                                try simp only [Act.put, List.setIfInBounds_toArray, List.set_cons_zero, List.set_cons_succ]
                                refine wpAnyH_take (i := 3) (oi := ?oiz20) (v := ?vz20) ?hiz20 ?haz20 ?hbz20 ?hcz20 ?hqz20 ?hyz20 (by assumption) ?restz20
                                case hiz20 => (simp only [List.getElem?_toArray, List.getElem?_cons_zero, List.getElem?_cons_succ]; rfl)
                                case haz20 => kernel_rfl
                                case hbz20 => kernel_rfl
                                case hcz20 => kernel_rfl
                                case hyz20 => exact Or.inl ⟨by rfl, by (intro w hSw; (try dsimp only at hSw); go_split_ands; go_simp; (try with_reducible rfl))⟩
                                case hqz20 => exact fun _ _ _ h => h
                                try simp only [Act.put, List.setIfInBounds_toArray, List.set_cons_zero, List.set_cons_succ]
                                refine wpAnyH_take (i := 4) (oi := ?oiz21) (v := ?vz21) ?hiz21 ?haz21 ?hbz21 ?hcz21 ?hqz21 ?hyz21 (by assumption) ?restz21
                                case hiz21 => (simp only [List.getElem?_toArray, List.getElem?_cons_zero, List.getElem?_cons_succ]; rfl)
                                case haz21 => kernel_rfl
                                case hbz21 => kernel_rfl
                                case hcz21 => kernel_rfl
                                case hyz21 => exact Or.inl ⟨by rfl, by (intro w hSw; (try dsimp only at hSw); go_split_ands; go_simp; (try with_reducible rfl))⟩
                                case hqz21 => exact fun _ _ _ h => h
                                try simp only [Act.put, List.setIfInBounds_toArray, List.set_cons_zero, List.set_cons_succ]
                                refine wpAnyH_take (i := 5) (oi := ?oiz22) (v := ?vz22) ?hiz22 ?haz22 ?hbz22 ?hcz22 ?hqz22 ?hyz22 (by assumption) ?restz22
                                case hiz22 => (simp only [List.getElem?_toArray, List.getElem?_cons_zero, List.getElem?_cons_succ]; rfl)
                                case haz22 => kernel_rfl
                                case hbz22 => kernel_rfl
                                case hcz22 => kernel_rfl
                                case hyz22 => exact Or.inl ⟨by rfl, by (intro w hSw; (try dsimp only at hSw); go_split_ands; go_simp; (try with_reducible rfl))⟩
                                case hqz22 => exact fun _ _ _ h => h
                                try simp only [Act.put, List.setIfInBounds_toArray, List.set_cons_zero, List.set_cons_succ]
                                refine wpAnyH_take (i := 6) (oi := ?oiz23) (v := ?vz23) ?hiz23 ?haz23 ?hbz23 ?hcz23 ?hqz23 ?hyz23 (by assumption) ?restz23
                                case hiz23 => (simp only [List.getElem?_toArray, List.getElem?_cons_zero, List.getElem?_cons_succ]; rfl)
                                case haz23 => kernel_rfl
                                case hbz23 => kernel_rfl
                                case hcz23 => kernel_rfl
                                case hyz23 => exact Or.inl ⟨by rfl, by (intro w hSw; (try dsimp only at hSw); go_split_ands; go_simp; (try with_reducible rfl))⟩
                                case hqz23 => exact fun _ _ _ h => h
                                try simp only [Act.put, List.setIfInBounds_toArray, List.set_cons_zero, List.set_cons_succ]
                                refine wpAnyH_take (i := 7) (oi := ?oiz24) (v := ?vz24) ?hiz24 ?haz24 ?hbz24 ?hcz24 ?hqz24 ?hyz24 (by assumption) ?restz24
                                case hiz24 => (simp only [List.getElem?_toArray, List.getElem?_cons_zero, List.getElem?_cons_succ]; rfl)
                                case haz24 => kernel_rfl
                                case hbz24 => kernel_rfl
                                case hcz24 => kernel_rfl
                                case hyz24 => exact Or.inl ⟨by rfl, by (intro w hSw; (try dsimp only at hSw); go_split_ands; go_simp; (try with_reducible rfl))⟩
                                case hqz24 => exact fun _ _ _ h => h
                                try simp only [Act.put, List.setIfInBounds_toArray, List.set_cons_zero, List.set_cons_succ]
                                refine wpAnyH_take (i := 8) (oi := ?oiz25) (v := ?vz25) ?hiz25 ?haz25 ?hbz25 ?hcz25 ?hqz25 ?hyz25 (by assumption) ?restz25
                                case hiz25 => (simp only [List.getElem?_toArray, List.getElem?_cons_zero, List.getElem?_cons_succ]; rfl)
                                case haz25 => kernel_rfl
                                case hbz25 => kernel_rfl
                                case hcz25 => kernel_rfl
                                case hyz25 => exact Or.inl ⟨by rfl, by (intro w hSw; (try dsimp only at hSw); go_split_ands; go_simp; (try with_reducible rfl))⟩
                                case hqz25 => exact fun _ _ _ h => h
                                try simp only [Act.put, List.setIfInBounds_toArray, List.set_cons_zero, List.set_cons_succ]
                                refine wpAnyH_take (i := 9) (oi := ?oiz26) (v := ?vz26) ?hiz26 ?haz26 ?hbz26 ?hcz26 ?hqz26 ?hyz26 (by assumption) ?restz26
                                case hiz26 => (simp only [List.getElem?_toArray, List.getElem?_cons_zero, List.getElem?_cons_succ]; rfl)
                                case haz26 => kernel_rfl
                                case hbz26 => kernel_rfl
                                case hcz26 => kernel_rfl
                                case hyz26 => exact Or.inl ⟨by rfl, by (intro w hSw; (try dsimp only at hSw); go_split_ands; go_simp; (try with_reducible rfl))⟩
                                case hqz26 => exact fun _ _ _ h => h
                                try simp only [Act.put, List.setIfInBounds_toArray, List.set_cons_zero, List.set_cons_succ]
                                refine wpAnyH_take (i := 10) (oi := ?oiz27) (v := ?vz27) ?hiz27 ?haz27 ?hbz27 ?hcz27 ?hqz27 ?hyz27 (by assumption) ?restz27
                                case hiz27 => (simp only [List.getElem?_toArray, List.getElem?_cons_zero, List.getElem?_cons_succ]; rfl)
                                case haz27 => kernel_rfl
                                case hbz27 => kernel_rfl
                                case hcz27 => kernel_rfl
                                case hyz27 => exact Or.inl ⟨by rfl, by (intro w hSw; (try dsimp only at hSw); go_split_ands; go_simp; (try with_reducible rfl))⟩
                                case hqz27 => exact fun _ _ _ h => h
                                try simp only [Act.put, List.setIfInBounds_toArray, List.set_cons_zero, List.set_cons_succ]
                                refine wpAnyH_take (i := 11) (oi := ?oiz28) (v := ?vz28) ?hiz28 ?haz28 ?hbz28 ?hcz28 ?hqz28 ?hyz28 (by assumption) ?restz28
                                case hiz28 => (simp only [List.getElem?_toArray, List.getElem?_cons_zero, List.getElem?_cons_succ]; rfl)
                                case haz28 => kernel_rfl
                                case hbz28 => kernel_rfl
                                case hcz28 => kernel_rfl
                                case hyz28 => exact Or.inl ⟨by rfl, by (intro w hSw; (try dsimp only at hSw); go_split_ands; go_simp; (try with_reducible rfl))⟩
                                case hqz28 => exact fun _ _ _ h => h
                                try simp only [Act.put, List.setIfInBounds_toArray, List.set_cons_zero, List.set_cons_succ]
                                refine wpAnyH_take (i := 12) (oi := ?oiz29) (v := ?vz29) ?hiz29 ?haz29 ?hbz29 ?hcz29 ?hqz29 ?hyz29 (by assumption) ?restz29
                                case hiz29 => (simp only [List.getElem?_toArray, List.getElem?_cons_zero, List.getElem?_cons_succ]; rfl)
                                case haz29 => kernel_rfl
                                case hbz29 => kernel_rfl
                                case hcz29 => kernel_rfl
                                case hyz29 => exact Or.inl ⟨by rfl, by (intro w hSw; (try dsimp only at hSw); go_split_ands; go_simp; (try with_reducible rfl))⟩
                                case hqz29 => exact fun _ _ _ h => h
                                try simp only [Act.put, List.setIfInBounds_toArray, List.set_cons_zero, List.set_cons_succ]
                                refine wpAnyH_take (i := 13) (oi := ?oiz30) (v := ?vz30) ?hiz30 ?haz30 ?hbz30 ?hcz30 ?hqz30 ?hyz30 (by assumption) ?restz30
                                case hiz30 => (simp only [List.getElem?_toArray, List.getElem?_cons_zero, List.getElem?_cons_succ]; rfl)
                                case haz30 => kernel_rfl
                                case hbz30 => kernel_rfl
                                case hcz30 => kernel_rfl
                                case hyz30 => exact Or.inl ⟨by rfl, by (intro w hSw; (try dsimp only at hSw); go_split_ands; go_simp; (try with_reducible rfl))⟩
                                case hqz30 => exact fun _ _ _ h => h
                                try simp only [Act.put, List.setIfInBounds_toArray, List.set_cons_zero, List.set_cons_succ]
                                refine wpAnyH_take (i := 15) (oi := ?oiz31) (v := ?vz31) ?hiz31 ?haz31 ?hbz31 ?hcz31 ?hqz31 ?hyz31 (by assumption) ?restz31
                                case hiz31 => (simp only [List.getElem?_toArray, List.getElem?_cons_zero, List.getElem?_cons_succ]; rfl)
                                case haz31 => kernel_rfl
                                case hbz31 => kernel_rfl
                                case hcz31 => kernel_rfl
                                case hyz31 => exact Or.inl ⟨by rfl, by (intro w hSw; (try dsimp only at hSw); go_split_ands; go_simp; (try with_reducible rfl))⟩
                                case hqz31 => exact fun _ _ _ h => h
                                try simp only [Act.put, List.setIfInBounds_toArray, List.set_cons_zero, List.set_cons_succ]
                                refine wpAnyH_take (i := 17) (oi := ?oiz32) (v := ?vz32) ?hiz32 ?haz32 ?hbz32 ?hcz32 ?hqz32 ?hyz32 (by assumption) ?restz32
                                case hiz32 => (simp only [List.getElem?_toArray, List.getElem?_cons_zero, List.getElem?_cons_succ]; rfl)
                                case haz32 => kernel_rfl
                                case hbz32 => kernel_rfl
                                case hcz32 => kernel_rfl
                                case hyz32 => exact Or.inl ⟨by rfl, by (intro w hSw; (try dsimp only at hSw); go_split_ands; go_simp; (try with_reducible rfl))⟩
                                case hqz32 => exact fun _ _ _ h => h
                                try simp only [Act.put, List.setIfInBounds_toArray, List.set_cons_zero, List.set_cons_succ]
                                refine wpAnyH_take (i := 18) (oi := ?oiz33) (v := ?vz33) ?hiz33 ?haz33 ?hbz33 ?hcz33 ?hqz33 ?hyz33 (by assumption) ?restz33
                                case hiz33 => (simp only [List.getElem?_toArray, List.getElem?_cons_zero, List.getElem?_cons_succ]; rfl)
                                case haz33 => kernel_rfl
                                case hbz33 => kernel_rfl
                                case hcz33 => kernel_rfl
                                case hyz33 => exact Or.inl ⟨by rfl, by (intro w hSw; (try dsimp only at hSw); go_split_ands; go_simp; (try with_reducible rfl))⟩
                                case hqz33 => exact fun _ _ _ h => h
                                try simp only [Act.put, List.setIfInBounds_toArray, List.set_cons_zero, List.set_cons_succ]
                                refine wpAnyH_take (i := 19) (oi := ?oiz34) (v := ?vz34) ?hiz34 ?haz34 ?hbz34 ?hcz34 ?hqz34 ?hyz34 (by assumption) ?restz34
                                case hiz34 => (simp only [List.getElem?_toArray, List.getElem?_cons_zero, List.getElem?_cons_succ]; rfl)
                                case haz34 => kernel_rfl
                                case hbz34 => kernel_rfl
                                case hcz34 => kernel_rfl
                                case hyz34 => exact Or.inl ⟨by rfl, by (intro w hSw; (try dsimp only at hSw); go_split_ands; go_simp; (try with_reducible rfl))⟩
                                case hqz34 => exact fun _ _ _ h => h
                                try simp only [Act.put, List.setIfInBounds_toArray, List.set_cons_zero, List.set_cons_succ]
                                refine wpAnyH_ready (rs := [14]) (by kernel_rfl) (by simp) ?_
                                refine AllReadyH.cons (o := ?oiz35) ?hiz35 (fun K hK => ?stepz35) AllReadyH.nil
                                case hiz35 => (simp only [List.getElem?_toArray, List.getElem?_cons_zero, List.getElem?_cons_succ]; rfl)
                                go_simp
                                refine (full_is wd.drew A' zl c' zs hsld hzlm).mono ?_
                                rintro e wf ⟨rfl, hbf'⟩
                                have hbf : Below wd.heap.size wd wf := ⟨hbf'.os, hbf'.tape, hbf'.output, hbf'.size, hbf'.block⟩
                                clear hbf'
                                have hSf := cells4_of hbf hS45
                                refine hK.out _ _ hSf (fun hHeld => ?_)
                                clear hK K
                                try simp only [Act.put, List.setIfInBounds_toArray, List.set_cons_zero, List.set_cons_succ]
                                refine wpAnyH_take (i := 16) (oi := ?oiz36) (v := .int .u8 fv) ?hiz36 ?haz36 ?hbz36 ?hcz36 ?hqz36 ?hyz36 (by assumption) ?restz36
                                case hiz36 => (simp only [List.getElem?_toArray, List.getElem?_cons_zero, List.getElem?_cons_succ]; rfl)
                                case haz36 => kernel_rfl
                                case hbz36 => kernel_rfl
                                case hcz36 => kernel_rfl
                                case hyz36 => exact Or.inl ⟨by rfl, by (intro w hSw; go_simp; rw [run_idx (fullOf zs) i fv hlti hidx w]; rfl)⟩
                                case hqz36 => exact fun _ _ _ h => h
                                try simp only [Act.put, List.setIfInBounds_toArray, List.set_cons_zero, List.set_cons_succ]
                                refine wpAnyH_take (i := 20) (oi := ?oiz37) (v := ?vz37) ?hiz37 ?haz37 ?hbz37 ?hcz37 ?hqz37 ?hyz37 (by assumption) ?restz37
                                case hiz37 => (simp only [List.getElem?_toArray, List.getElem?_cons_zero, List.getElem?_cons_succ]; rfl)
                                case haz37 => kernel_rfl
                                case hbz37 => kernel_rfl
                                case hcz37 => kernel_rfl
                                case hyz37 => exact Or.inl ⟨by rfl, by (intro w hSw; (try dsimp only at hSw); go_split_ands; go_simp; (try with_reducible rfl))⟩
                                case hqz37 => exact fun _ _ _ h => h
                                try simp only [Act.put, List.setIfInBounds_toArray, List.set_cons_zero, List.set_cons_succ]
                                refine wpAnyH_take (i := 21) (oi := ?oiz38) (v := ?vz38) ?hiz38 ?haz38 ?hbz38 ?hcz38 ?hqz38 ?hyz38 (by assumption) ?restz38
                                case hiz38 => (simp only [List.getElem?_toArray, List.getElem?_cons_zero, List.getElem?_cons_succ]; rfl)
                                case haz38 => kernel_rfl
                                case hbz38 => kernel_rfl
                                case hcz38 => kernel_rfl
                                case hyz38 => exact Or.inl ⟨by rfl, by (intro w hSw; (try dsimp only at hSw); go_split_ands; go_simp; (try with_reducible rfl))⟩
                                case hqz38 => exact fun _ _ _ h => h
                                try simp only [Act.put, List.setIfInBounds_toArray, List.set_cons_zero, List.set_cons_succ]
                                refine wpAnyH_take (i := 22) (oi := ?oiz39) (v := ?vz39) ?hiz39 ?haz39 ?hbz39 ?hcz39 ?hqz39 ?hyz39 (by assumption) ?restz39
                                case hiz39 => (simp only [List.getElem?_toArray, List.getElem?_cons_zero, List.getElem?_cons_succ]; rfl)
                                case haz39 => kernel_rfl
                                case hbz39 => kernel_rfl
                                case hcz39 => kernel_rfl
                                case hyz39 => exact Or.inl ⟨by rfl, by (intro w hSw; (try dsimp only at hSw); go_split_ands; go_simp; (try with_reducible rfl))⟩
                                case hqz39 => exact fun _ _ _ h => h
                                try simp only [Act.put, List.setIfInBounds_toArray, List.set_cons_zero, List.set_cons_succ]
                                refine wpAnyH_take (i := 23) (oi := ?oiz40) (v := ?vz40) ?hiz40 ?haz40 ?hbz40 ?hcz40 ?hqz40 ?hyz40 (by assumption) ?restz40
                                case hiz40 => (simp only [List.getElem?_toArray, List.getElem?_cons_zero, List.getElem?_cons_succ]; rfl)
                                case haz40 => kernel_rfl
                                case hbz40 => kernel_rfl
                                case hcz40 => kernel_rfl
                                case hyz40 => exact Or.inl ⟨by rfl, by (intro w hSw; (try dsimp only at hSw); go_split_ands; go_simp; (try with_reducible rfl))⟩
                                case hqz40 => exact fun _ _ _ h => h
                                try simp only [Act.put, List.setIfInBounds_toArray, List.set_cons_zero, List.set_cons_succ]
                                refine wpAnyH_done (by kernel_rfl) ?_ _
                                clear hHeld
                                have hbn : Below w8.heap.size w8 wf := hbjd.trans (hbf.mono hbjd.size)
                                go_wp2_with fail
                                go_roundw
                                case rel => exact ⟨j + 1, q1, by omega, by go_num, rfl, Hnext, hbn⟩
                                case measure => simp [intOf]; omega
                              · have hnb : (num == (k : Int)) = false := by simpa using hnk
                                have Hnext := Lib.hid (Hlater.out (fun hg => hnk (Hnum.out.trans hg.2.1)))
                                go_upto_region 45 with fail
                                rw [← Hwd.out]
                                go_quiet (fail)
                                have hbn := below_drewN hbjd nq
                                go_wp2_with fail
                                go_roundw
                                case rel => exact ⟨j + 1, false, by omega, by go_num, rfl, Lib.hid (Or.inr Hnext.out), hbn⟩
                                case measure => simp [intOf]; omega
                            · have hkb : (kind == 1) = false := by simpa using hk1
                              have Hnext := Lib.hid (Hlater.out (fun hg => hk1 (Hkind.out.trans hg.1)))
                              go_upto_region 45 with fail
                              rw [← Hwd.out]
                              go_quiet (fail)
                              have hbn := below_drewN hbjd nq
                              go_wp2_with fail
                              go_roundw
                              case rel => exact ⟨j + 1, false, by omega, by go_num, rfl, Lib.hid (Or.inr Hnext.out), hbn⟩
                              case measure => simp [intOf]; omega
                        · have hqt : q = true := by
                            rcases Hq.out with h1 | ⟨j', h1, h2, _⟩
                            · exact h1
                            · omega
                          have hdj : decide ((j : Int) < (n2 : Int)) = false := decide_eq_false (by omega)
                          clear Hq
                          subst hqt
                          go_wp2_with fail
                          go_roundw
                          case rel => exact ⟨i + 1, by omega, by go_num, hbj⟩
                          case measure => simp [intOf]; omega
                    · have hdi : decide ((i : Int) < 128) = false := decide_eq_false (by omega)
                      have hWr := hW8.kept (hbi.block _ hW8.lt)
                      have hbr : Below w.heap.size w wr := hbt8.trans (hbi.mono hbt8.size)
                      have Hnext := Lib.hid (show ∃ (F : Nat → Prop) (T : DS), PD F wr d T ∧ T.kept = K1 ∧ T.waits = [] ∧ T.off = false ∧ (∀ j, F j → w.heap.size ≤ j) ∧ (∀ j, F j → j ≠ wb) by
                        obtain ⟨F', T', a1, a2, a3, a4, a5, a6⟩ := Hfin.out
                        exact ⟨F', T', a1 wr hbi, a2, a3, a4, a5, a6⟩)
                      clear Hfin
                      go_wp2_with fail
                      go_roundw
                      case rel =>
                        obtain ⟨F', T', a1, a2, a3, a4, a5, a6⟩ := Hnext.out
                        exact ⟨k + 1, F', T', by omega, by go_num, a1, a2, a3, a4, a5, a6, hWr, hbr⟩
                      case measure => simp [intOf]; omega
                · have hdk : decide ((k : Int) < 8) = false := decide_eq_false (by omega)
                  clear hpd hkept hwts ho hFB hFw hW
                  go_wp2
                  go_ret
                  exact ⟨rfl, hb⟩
end Go.Proofs.Ythdclncgmhgmfaa
