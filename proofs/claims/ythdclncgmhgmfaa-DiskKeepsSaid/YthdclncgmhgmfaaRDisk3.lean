/- The document's disk: Read, Flush. -/
import Derived.Test.YthdclncgmhgmfaaRDisk2
namespace Go.Proofs.Ythdclncgmhgmfaa
open Go.RowKit Go.Deep
set_option linter.unusedSimpArgs false
set_option linter.unusedVariables false

theorem ret_val_int {v v' : Value} {k : IntKind} {a b : Int} (h : v = v') (h' : a = b) : Ending.returned (.tuple #[v, .int k a]) = .returned (.tuple #[v', .int k b]) := by rw [h, h']

theorem rread_off (F : Nat → Prop) (w : World) (b : Nat) (S : DS) (n : Int) (h : RD F w b S) (ho : S.off = true) :
    Calls Try.prog 32 #[.pointer (some ⟨b, 0, none⟩), .int .i64 n] w fun e w' => e = .returned (.tuple #[.slice none 0 0, .int .i64 50]) ∧ w' = w := by
  obtain ⟨hwf, kb, ib, ob, ck, ci, spk, spi, vw, kv, ps, h⟩ := h
  have hc5 := h.head.cell (i := 5) rfl
  rw [ho] at hc5
  go_enter Try.func32, Try.ntmps32
  go_wp2
  go_ret2
  exact ⟨rfl, rfl⟩
set_option maxHeartbeats 800000 in
theorem rread_out (F : Nat → Prop) (w : World) (b : Nat) (S : DS) (n : Int) (h : RD F w b S) (ho : S.off = false) (hn : n < 0 ∨ (S.kept.length : Int) ≤ n) :
    Calls Try.prog 32 #[.pointer (some ⟨b, 0, none⟩), .int .i64 n] w fun e w' => e = .returned (.tuple #[.slice none 0 0, .int .i64 51]) ∧ w' = w := by
  obtain ⟨hwf, kb, ib, ob, ck, ci, spk, spi, vw, kv, ps, h⟩ := h
  have hc5 := h.head.cell (i := 5) rfl
  have hc0 := h.head.cell (i := 0) rfl
  rw [ho] at hc5
  have hn2 := hwf.n2
  obtain ⟨K, hK⟩ : ∃ K, K = S.kept.length := ⟨_, rfl⟩
  rw [← hK] at hc0 hn hn2
  clear hK ho
  by_cases hneg : n < 0
  · go_enter Try.func32, Try.ntmps32
    go_wp2
    go_ret2
    exact ⟨rfl, rfl⟩
  · have hd : decide (n < 0) = false := decide_eq_false hneg
    have hd2 : decide ((K : Int) ≤ n) = true := decide_eq_true (by omega)
    go_enter Try.func32, Try.ntmps32
    go_wp2
    go_ret2
    exact ⟨rfl, rfl⟩
set_option maxHeartbeats 1600000 in
theorem rread_in (F : Nat → Prop) (w : World) (b : Nat) (S : DS) (n : Nat) (h : RD F w b S) (ho : S.off = false) (hn : n < S.kept.length) :
    Calls Try.prog 32 #[.pointer (some ⟨b, 0, none⟩), .int .i64 (n : Int)] w fun e w' => ∃ v, e = .returned (.tuple #[v, .int .i64 0]) ∧ BRow F w' v (S.at_ n) ∧ RD F w' b (S.count 0) ∧ Only F w w' := by
  obtain ⟨hwf, kb, ib, ob, ck, ci, spk, spi, vw, kv, ps, h⟩ := h
  have hc5 := h.head.cell (i := 5) rfl
  have hc0 := h.head.cell (i := 0) rfl
  have hc6 := h.head.cell (i := 6) rfl
  rw [ho] at hc5
  have hn2 := hwf.n2
  obtain ⟨u, hu⟩ : ∃ u, S.ops[0]? = some u := ⟨_, List.getElem?_eq_getElem (by rw [hwf.ops3]; omega)⟩
  have hcu : w.cell? ⟨ob, 0, none⟩ = some (.int .i64 u) := h.ops.cell (by rw [List.getElem?_map, hu]; rfl)
  have hfu := h.ops.frozen 0
  obtain ⟨z, hz⟩ : ∃ z, z = wrap64 (u + 1) := ⟨_, rfl⟩
  have hzw : IntKind.i64.wrap (u + 1) = z := by rw [hz, wrap_i64']
  have h1 := h.upOps 0 z
  have hcount : { S with ops := S.ops.set 0 z } = S.count 0 := by unfold DS.count; rw [hz]; simp [List.getD, hu]
  rw [hcount] at h1
  have hO1 : Only F w (w.setCell ⟨ob, 0, none⟩ (.int .i64 z)) := (Only.refl F w).set (Or.inr h.fo) _
  have hrd : RD F (w.setCell ⟨ob, 0, none⟩ (.int .i64 z)) b (S.count 0) := ⟨hwf.count 0, _, _, _, _, _, _, _, _, _, _, h1⟩
  obtain ⟨w1, hw1⟩ : ∃ w1, w1 = w.setCell ⟨ob, 0, none⟩ (.int .i64 z) := ⟨_, rfl⟩
  rw [← hw1] at hO1 hrd
  have Hw1 := Lib.hid hw1
  have HO := Lib.hid hO1
  have Hrd := Lib.hid hrd
  have hat : (S.count 0).at_ n = S.at_ n := rfl
  have hnk : n < (S.count 0).kept.length := hn
  obtain ⟨K, hK⟩ : ∃ K, K = S.kept.length := ⟨_, rfl⟩
  have hnI : (n : Int) < (K : Int) := by omega
  have hd : decide ((n : Int) < 0) = false := decide_eq_false (by omega)
  have hd2 : decide ((K : Int) ≤ (n : Int)) = false := decide_eq_false (by omega)
  rw [← hK] at hc0 hn2
  clear hK ho hz hcount h1 hu hw1 hO1 hrd
  go_enter Try.func32, Try.ntmps32
  go_wp2
  go_region
  all_goals
    rw [← Hw1.out]
    have hrd2 := Hrd.out.keep (w' := w1.drew) (Nat.le_refl _) (fun _ _ => rfl)
    have hO2 := Lib.hid (HO.out.drew)
    clear Hw1 Hrd
    generalize w1.drew = w2 at *
    go_wp2_with fail
    refine (rat_is F w2 b (S.count 0) n hrd2 hnk).mono ?_
    rintro e w3 ⟨v, rfl, hv, hw3⟩
    obtain rfl := hw3.symm
    go_wp2
    go_ret2
    exact ⟨v, rfl, hv, hrd2, hO2.out⟩

/-- The first k pieces that wait are kept. -/
def DS.keepTo (S : DS) (k : Nat) : DS := { S with kept := (S.waits.take k).foldl (fun l p => l.set p.1.toNat p.2) S.kept, inn := (S.waits.take k).foldl (fun l p => l.set p.1.toNat true) S.inn }
def DS.flushed (S : DS) : DS := { S.keepTo S.waits.length with waits := [] }
theorem keepTo_succ (S : DS) {k : Nat} {p : Int × List Int} (h : S.waits[k]? = some p) : S.keepTo (k + 1) = { S.keepTo k with kept := (S.keepTo k).kept.set p.1.toNat p.2, inn := (S.keepTo k).inn.set p.1.toNat true } := by
  unfold DS.keepTo
  rw [take_snoc _ _ _ h, List.foldl_append, List.foldl_append]; rfl
theorem DWf.keep1 {S : DS} (h : DWf S) {p : Int × List Int} (hp : p ∈ S.waits) : DWf { S with kept := S.kept.set p.1.toNat p.2, inn := S.inn.set p.1.toNat true } :=
  ⟨by rw [List.length_set]; exact h.n1, by rw [List.length_set]; exact h.n2, by rw [List.length_set, List.length_set]; exact h.ninn,
   fun r hr => by
    rcases List.mem_or_eq_of_mem_set hr with hr | rfl
    · exact h.rows r hr
    · exact (h.wts p hp).2.2,
   fun q hq => by rw [List.length_set]; exact h.wts q hq, h.room0, h.room1, h.cut0, h.cut1, h.ops3, h.opsr⟩
theorem DWf.keepTo {S : DS} (h : DWf S) (k : Nat) : DWf (S.keepTo k) := by
  induction k with
  | zero => exact h
  | succ k ih =>
    cases hp : S.waits[k]? with
    | none =>
      have : S.keepTo (k + 1) = S.keepTo k := by
        unfold DS.keepTo
        have hl : S.waits.length ≤ k := by
          rcases Nat.lt_or_ge k S.waits.length with hlt | hge
          · rw [List.getElem?_eq_getElem hlt] at hp; cases hp
          · exact hge
        rw [List.take_of_length_le (by omega), List.take_of_length_le (by omega)]
      rw [this]; exact ih
    | some p =>
      rw [keepTo_succ S hp]
      exact ih.keep1 (p := p) (List.mem_of_getElem? hp)
theorem DWf.noWaits {S : DS} (h : DWf S) : DWf { S with waits := [] } :=
  ⟨h.n1, h.n2, h.ninn, h.rows, fun p hp => by simp at hp, h.room0, h.room1, h.cut0, h.cut1, h.ops3, h.opsr⟩

theorem rflush_off (F : Nat → Prop) (w : World) (b : Nat) (S : DS) (h : RD F w b S) (ho : S.off = true) :
    Calls Try.prog 31 #[.pointer (some ⟨b, 0, none⟩)] w fun e w' => e = .returned (.int .i64 50) ∧ w' = w := by
  obtain ⟨hwf, kb, ib, ob, ck, ci, spk, spi, vw, kv, ps, h⟩ := h
  have hc5 := h.head.cell (i := 5) rfl
  rw [ho] at hc5
  go_enter Try.func31, Try.ntmps31
  go_wp2
  go_ret
  exact ⟨rfl, rfl⟩
set_option maxHeartbeats 800000 in
theorem rflush_gone (F : Nat → Prop) (w : World) (b : Nat) (S : DS) (h : RD F w b S) (ho : S.off = false) (hg : (S.goes 2).2 = true) :
    Calls Try.prog 31 #[.pointer (some ⟨b, 0, none⟩)] w fun e w' => e = .returned (.int .i64 50) ∧ RD F w' b (S.goes 2).1 ∧ Only F w w' := by
  have hrd := h
  obtain ⟨hwf, kb, ib, ob, ck, ci, spk, spi, vw, kv, ps, h⟩ := h
  have hc5 := h.head.cell (i := 5) rfl
  rw [ho] at hc5
  have Hg := Lib.hid hg
  clear hg ho
  go_enter Try.func31, Try.ntmps31
  go_wp2_with fail
  refine (rgoes_is F w b S 2 hrd (by omega)).mono ?_
  rintro e w1 ⟨rfl, hr, hO⟩
  rw [Hg.out]
  go_wp2
  go_ret
  exact ⟨rfl, hr, hO⟩
set_option maxRecDepth 100000 in
set_option maxHeartbeats 3200000 in
theorem rflush_in (F : Nat → Prop) (w : World) (b : Nat) (S : DS) (h : RD F w b S) (ho : S.off = false) (hg : (S.goes 2).2 = false) :
    Calls Try.prog 31 #[.pointer (some ⟨b, 0, none⟩)] w fun e w' => e = .returned (.int .i64 0) ∧ RD F w' b (S.goes 2).1.flushed ∧ Only F w w' := by
  have hrd := h
  obtain ⟨hwf, kb, ib, ob, ck, ci, spk, spi, vw, kv, ps, h⟩ := h
  have hc5 := h.head.cell (i := 5) rfl
  rw [ho] at hc5
  have Hg := Lib.hid hg
  obtain ⟨S1, hS1⟩ : ∃ S1, S1 = (S.goes 2).1 := ⟨_, rfl⟩
  rw [← hS1]
  have HS1 := Lib.hid hS1
  clear hg ho h hwf hS1
  go_enter Try.func31, Try.ntmps31
  go_wp2_with fail
  refine (rgoes_is F w b S 2 hrd (by omega)).mono ?_
  rintro e w1 ⟨rfl, hr, hO⟩
  rw [Hg.out]
  rw [← HS1.out] at hr
  clear HS1 Hg
  have hmb : S1.waits.length ≤ 9223372036854775807 := by
    obtain ⟨_, _, _, _, _, _, _, _, _, _, ps1, h1⟩ := hr
    rw [← h1.psn]
    rcases h1.wait with ⟨_, e⟩ | ⟨_, _, _, _, _, h3, h4, _⟩
    · rw [e]; simp
    · simp only [maxLen] at h4; omega
  obtain ⟨m, hm⟩ : ∃ m, m = S1.waits.length := ⟨_, rfl⟩
  have Hm := Lib.hid hm
  rw [← hm] at hmb
  clear hm
  go_wp2_with fail
  go_loopw [3] (fun i wr => ∃ j : Nat, j ≤ m ∧ i = .int .i64 j ∧ RD F wr b (S1.keepTo j) ∧ Only F w wr) (fun i _ => m - (intOf i).toNat)
  case atStart => exact ⟨0, by omega, rfl, hr, hO⟩
  case round =>
    clear hr hO
    obtain ⟨j, hj, rfl, hr, hO⟩ := hrel
    obtain ⟨hwf, kb, ib, ob, ck, ci, spk, spi, vw, kv, ps, h⟩ := hr
    obtain ⟨A, c, rfl, hw⟩ := h.wait.form
    have hc0 := h.head.cell (i := 0) rfl
    have hc1 := h.head.cell (i := 1) rfl
    have hc2 := h.head.cell (i := 2) rfl
    have hpn : ps.length = m := by rw [h.psn, Hm.out]; rfl
    rw [hpn] at hc2
    by_cases hlt : j < m
    · obtain ⟨p, hp⟩ : ∃ p, S1.waits[j]? = some p := ⟨_, List.getElem?_eq_getElem (by rw [← Hm.out]; exact hlt)⟩
      obtain ⟨v, hv, hbv⟩ := h.wrow j p hp
      obtain ⟨g, rfl, hcp, hcv⟩ := hw j _ hv
      obtain ⟨Av, cv, rfl, _, _⟩ := hbv.sl
      obtain ⟨lv, hlv⟩ : ∃ n, n = p.2.length := ⟨_, rfl⟩
      rw [← hlv] at hv hbv hcv
      have hwt := hwf.wts p (List.mem_of_getElem? hp)
      obtain ⟨q, hq⟩ : ∃ q : Nat, (q : Int) = p.1 := ⟨p.1.toNat, by omega⟩
      have hqn : p.1.toNat = q := by omega
      have hql : q < (S1.keepTo j).kept.length := by have := hwt.2.1; omega
      replace hcp : wr.cell? ⟨g, j * 2, none⟩ = some (.int .i64 q) := by rw [hq]; exact hcp
      replace hcv : wr.cell? ⟨g, j * 2 + 1, none⟩ = some (.slice Av lv cv) := hcv
      obtain ⟨vo, hvo⟩ : ∃ vo, kv[q]? = some vo := ⟨_, List.getElem?_eq_getElem (by rw [h.kvn]; exact hql)⟩
      have hco : wr.cell? ⟨kb, q, none⟩ = some vo := h.kept.cell (by rw [List.getElem?_append_left (by rw [h.kvn]; exact hql)]; exact hvo)
      have hfo := h.kept.frozen q
      have h1 := h.upKept q hql (.slice Av lv cv) p.2 hbv
      have hO1 := hO.set (a := ⟨kb, q, none⟩) (Or.inr h.fk) (.slice Av lv cv)
      obtain ⟨w3, hw3⟩ : ∃ w3, w3 = wr.setCell ⟨kb, q, none⟩ (.slice Av lv cv) := ⟨_, rfl⟩
      rw [← hw3] at h1 hO1
      have H1 := Lib.hid h1
      have Hw3 := Lib.hid hw3
      have HO1 := Lib.hid hO1
      have Hnext := Lib.hid (keepTo_succ S1 hp)
      have Hwf := Lib.hid hwf
      have Hq := Lib.hid hq
      obtain ⟨K, hK⟩ : ∃ K, K = (S1.keepTo j).kept.length := ⟨_, rfl⟩
      have hqI : (q : Int) < (K : Int) := by omega
      rw [← hK] at hc0 hc1
      have HK := Lib.hid hK
      have Hqn := Lib.hid hqn
      have Hp := Lib.hid hp
      have Hj := Lib.hid hpn
      clear hp hv hwf hq hK hqn hvo hlv h1 hO1 hw3 hwt hO h hpn hw
      go_wp2
      go_region
      all_goals
        rw [← Hw3.out]
        have h1 := H1.out.keep (w' := w3.drew) (Nat.le_refl _) (fun _ _ => rfl)
        have hO1 := HO1.out.drew
        clear Hw3 hc0 hc1 hc2 hcp hcv hco hfo
        generalize w3.drew = w4 at *
        have hc1' := h1.head.cell (i := 1) rfl
        have hc2' := h1.head.cell (i := 2) rfl
        have hlen : ((S1.keepTo j).kept.set q p.2).length = K := by rw [List.length_set, HK.out]
        have hc1'' : w4.cell? ⟨b, 1, none⟩ = some (.slice (some ⟨ib, 0, none⟩) K ci) := by rw [hc1']; show some (Value.slice _ ((S1.keepTo j).kept.set q p.2).length _) = _; rw [hlen]
        have hc2'' : w4.cell? ⟨b, 2, none⟩ = some (.slice (some ⟨g, 0, none⟩) m c) := by rw [hc2', Hj.out]
        obtain ⟨v3, hv3, _⟩ := h1.wrow j p Hp.out
        obtain ⟨A3, c3, e3, hw3⟩ := h1.wait.form
        obtain ⟨g3, e4, hcp', _⟩ := hw3 j _ hv3
        have e5 : g = g3 := by rw [e4] at e3; injection e3 with e6; injection e6 with e7; injection e7
        subst e5
        replace hcp' : w4.cell? ⟨g, j * 2, none⟩ = some (.int .i64 q) := by rw [Hq.out]; exact hcp'
        obtain ⟨uo, huo⟩ : ∃ u, (S1.keepTo j).inn[q]? = some u := ⟨_, List.getElem?_eq_getElem (by rw [Hwf.out.ninn]; exact hql)⟩
        have hco' : w4.cell? ⟨ib, q, none⟩ = some (.bool uo) := h1.inn.cell (by rw [List.getElem?_append_left (by rw [List.length_map]; show q < (S1.keepTo j).inn.length; rw [Hwf.out.ninn]; exact hql), List.getElem?_map]; show (S1.keepTo j).inn[q]?.map _ = _; rw [huo]; rfl)
        have hfo' := h1.inn.frozen q
        have h2 := h1.upInn (by show (S1.keepTo j).inn.length = ((S1.keepTo j).kept.set q p.2).length; rw [List.length_set, Hwf.out.ninn]) q (by show q < ((S1.keepTo j).kept.set q p.2).length; rw [List.length_set]; exact hql) true
        have hO2 := hO1.set (a := ⟨ib, q, none⟩) (Or.inr h1.fi) (.bool true)
        have hfin := Lib.hid (show RD F (w4.setCell ⟨ib, q, none⟩ (.bool true)) b (S1.keepTo (j + 1)) by
          have h0 := Hwf.out.keep1 (p := p) (List.mem_of_getElem? Hp.out)
          rw [Hqn.out] at h0
          rw [Hnext.out, Hqn.out]
          exact RD.of h0 h2)
        have hO2' := Lib.hid hO2
        obtain ⟨w5, hw5⟩ : ∃ w5, w5 = w4.setCell ⟨ib, q, none⟩ (.bool true) := ⟨_, rfl⟩
        rw [← hw5] at hfin hO2'
        have Hw5 := Lib.hid hw5
        clear hc1' hc2' hlen hv3 e3 hw3 e4 huo h1 hO1 h2 hO2 hw5 H1 HO1
        go_wp2
        go_region
        all_goals
          rw [← Hw5.out]
          have hfin2 := hfin.out.keep (w' := w5.drew) (Nat.le_refl _) (fun _ _ => rfl)
          have hO3 := hO2'.out.drew
          clear Hw5
          generalize w5.drew = w6 at *
          go_wp2
          go_roundw
          case rel => exact ⟨j + 1, by omega, by go_num, hfin2, hO3⟩
          case measure => simp [intOf]; omega
    · obtain rfl : j = m := by omega
      have hf2 := h.head.frozen 2
      have h1 := h.upNone
      have hO1 := Lib.hid (hO.set (a := ⟨b, 2, none⟩) (Or.inr h.fb) (.slice none 0 0))
      have hfin := Lib.hid (show RD F (wr.setCell ⟨b, 2, none⟩ (.slice none 0 0)) b S1.flushed by
        unfold DS.flushed
        rw [← Hm.out]
        exact RD.of hwf.noWaits h1)
      clear h1 hO
      go_wp2
      go_ret
      exact ⟨rfl, hfin.out, hO1.out⟩
end Go.Proofs.Ythdclncgmhgmfaa
