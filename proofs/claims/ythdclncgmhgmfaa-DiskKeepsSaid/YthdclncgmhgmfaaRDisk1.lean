/- The document's disk: what only asks. -/
import Derived.Test.YthdclncgmhgmfaaRDisk
namespace Go.Proofs.Ythdclncgmhgmfaa
open Go.RowKit Go.Deep
set_option linter.unusedSimpArgs false
set_option linter.unusedVariables false

theorem any_take_succ {l : List (Int × List Int)} {j : Nat} {p : Int × List Int} (n : Int) (h : l[j]? = some p) (h1 : (l.take j).any (fun p => p.1 == n) = false) (h2 : (p.1 == n) = false) : (l.take (j + 1)).any (fun p => p.1 == n) = false := by
  rw [take_snoc _ _ _ h, List.any_append, h1]; simpa using h2

set_option maxHeartbeats 800000 in
theorem ris_is (F : Nat → Prop) (w : World) (b : Nat) (S : DS) (n : Nat) (h : RD F w b S) (hn : n < S.kept.length) :
    Calls Try.prog 36 #[.pointer (some ⟨b, 0, none⟩), .int .i64 (n : Int)] w fun e w' => e = .returned (.bool (S.isUse n)) ∧ w' = w := by
  obtain ⟨hwf, kb, ib, ob, ck, ci, spk, spi, vw, kv, ps, h⟩ := h
  obtain ⟨A, c, rfl, hw⟩ := h.wait.form
  have hc1 := h.head.cell (i := 1) rfl
  have hc2 := h.head.cell (i := 2) rfl
  have hin : ∃ u, S.inn[n]? = some u := ⟨_, List.getElem?_eq_getElem (by rw [hwf.ninn]; exact hn)⟩
  obtain ⟨u, hu⟩ := hin
  have hcu : w.cell? ⟨ib, n, none⟩ = some (.bool u) := h.inn.cell (by rw [List.getElem?_append_left (by rw [List.length_map, hwf.ninn]; exact hn), List.getElem?_map, hu]; rfl)
  have hpn : ps.length = S.waits.length := h.psn
  have Hpn := Lib.hid hpn
  have Hu := Lib.hid hu
  have hnI : (n : Int) < (S.kept.length : Int) := by omega
  obtain ⟨K, hK⟩ : ∃ K, K = S.kept.length := ⟨_, rfl⟩
  have hnI : (n : Int) < (K : Int) := by omega
  rw [← hK] at hc1
  obtain ⟨m, hm⟩ : ∃ m, m = ps.length := ⟨_, rfl⟩
  rw [← hm] at hc2
  have hmr : m ≤ 9223372036854775807 := by
    rcases h.wait with ⟨_, e⟩ | ⟨_, _, _, _, _, h3, h4, _⟩
    · rw [hm, e]; simp
    · simp only [maxLen] at h4; omega
  have Hm := Lib.hid hm
  clear hpn hu hm hK
  go_enter Try.func36, Try.ntmps36
  go_wp2
  go_loop [5] (fun i => ∃ j : Nat, j ≤ m ∧ i = .int .i64 j ∧ Hid ((S.waits.take j).any (fun p => p.1 == (n : Int)) = false)) (fun i => m - (intOf i).toNat)
  case atStart => exact ⟨0, by omega, rfl, Lib.hid rfl⟩
  case round =>
    obtain ⟨j, hj, rfl, Hq⟩ := hrel
    by_cases hlt : j < m
    · obtain ⟨p, hp⟩ : ∃ p, S.waits[j]? = some p := ⟨_, List.getElem?_eq_getElem (by rw [← Hpn.out, ← Hm.out]; exact hlt)⟩
      obtain ⟨v, hv, _⟩ := h.wrow j p hp
      obtain ⟨g, rfl, hcp, _⟩ := hw j _ hv
      have Hp := Lib.hid hp
      have hp1 := (hwf.wts p (List.mem_of_getElem? hp)).1
      obtain ⟨p1, hp1e⟩ : ∃ x, x = p.1 := ⟨_, rfl⟩
      have Hp1e := Lib.hid hp1e
      rw [show (p.1, v).1 = p.1 from rfl, ← hp1e] at hcp
      clear hp hv hp1 hp1e
      by_cases he : p1 = (n : Int)
      · subst he
        have hres := Lib.hid (show S.isUse n = true by
          unfold DS.isUse DS.waitsFor
          rw [show (S.waits.any fun p => p.1 == (n : Int)) = true from List.any_eq_true.2 ⟨p, List.mem_of_getElem? Hp.out, by rw [← Hp1e.out]; simp⟩]
          rfl)
        go_wp2
        go_ret
        exact ⟨ret_bool hres.out.symm, rfl⟩
      · have he' : (p1 == (n : Int)) = false := by simpa using he
        have Hn := Lib.hid (any_take_succ (n : Int) Hp.out Hq.out (by rw [← Hp1e.out]; exact he'))
        clear he
        go_wp2
        go_round
        case rel => exact ⟨j + 1, by omega, by go_num, Hn⟩
        case measure => simp [intOf]; omega
    · obtain rfl : j = m := by omega
      have hres := Lib.hid (show S.isUse n = u by
        unfold DS.isUse DS.waitsFor
        have h1 := Hq.out
        rw [List.take_of_length_le (by rw [Hm.out, Hpn.out]; omega)] at h1
        rw [h1]
        simp [List.getD, Hu.out])
      go_wp2
      go_ret
      exact ⟨ret_bool hres.out.symm, rfl⟩

/-- How many sectors of the first k are in use. -/
def usedTo (S : DS) (k : Nat) : Nat := (List.range k).countP fun (i : Nat) => S.isUse (i : Int)
def DS.used (S : DS) : Nat := usedTo S S.kept.length
theorem usedTo_succ (S : DS) (k : Nat) : usedTo S (k + 1) = usedTo S k + (if S.isUse (k : Int) then 1 else 0) := by
  unfold usedTo; rw [List.range_succ, List.countP_append]; simp [List.countP_cons]
theorem usedTo_le (S : DS) (k : Nat) : usedTo S k ≤ k := by
  unfold usedTo; have := List.countP_le_length (p := fun i => S.isUse ((i : Nat) : Int)) (l := List.range k); simpa using this

set_option maxHeartbeats 800000 in
theorem rused_is (F : Nat → Prop) (w : World) (b : Nat) (S : DS) (h : RD F w b S) :
    Calls Try.prog 16 #[.pointer (some ⟨b, 0, none⟩)] w fun e w' => e = .returned (.int .i64 (S.used : Int)) ∧ w' = w := by
  have hrd := h
  obtain ⟨hwf, kb, ib, ob, ck, ci, spk, spi, vw, kv, ps, h⟩ := h
  have hc1 := h.head.cell (i := 1) rfl
  have hn2 := hwf.n2
  obtain ⟨K, hK⟩ : ∃ K, K = S.kept.length := ⟨_, rfl⟩
  rw [← hK] at hc1 hn2
  have HK := Lib.hid hK
  clear hK
  go_enter Try.func16, Try.ntmps16
  go_wp2
  go_loopw [3, 4] (fun n i wr => ∃ j : Nat, j ≤ K ∧ n = .int .i64 (usedTo S j : Int) ∧ i = .int .i64 j ∧ wr = w) (fun _ i _ => K - (intOf i).toNat)
  case atStart => exact ⟨0, by omega, by simp [usedTo], rfl, rfl⟩
  case round =>
    obtain ⟨j, hj, rfl, rfl, rfl⟩ := hrel
    have hle := usedTo_le S j
    by_cases hlt : j < K
    · have Hs := Lib.hid (usedTo_succ S j)
      go_wp2_with fail
      refine (ris_is F wr b S j hrd (by rw [← HK.out]; exact hlt)).mono ?_
      rintro e w1 ⟨rfl, hw⟩
      obtain rfl := hw.symm
      cases hu : S.isUse (j : Int)
      · have Hs' := Lib.hid (show usedTo S (j + 1) = usedTo S j by rw [Hs.out, hu]; simp)
        clear hu
        go_wp2
        go_roundw
        case rel => exact ⟨j + 1, by omega, by rw [Hs'.out], by go_num, by simp⟩
        case measure => simp [intOf]; omega
      · have Hs' := Lib.hid (show usedTo S (j + 1) = usedTo S j + 1 by rw [Hs.out, hu]; simp)
        clear hu
        go_wp2
        go_roundw
        case rel => exact ⟨j + 1, by omega, by rw [Hs'.out]; go_num, by go_num, by simp⟩
        case measure => simp [intOf]; omega
    · obtain rfl : j = K := by omega
      have hres := Lib.hid (show S.used = usedTo S j by unfold DS.used; rw [← HK.out])
      go_wp2
      go_ret
      exact ⟨ret_int (by rw [hres.out]), rfl⟩

/-- What a sector has: what was written last. -/
def DS.at_ (S : DS) (n : Nat) : List Int := match S.waits.reverse.find? (fun p => p.1 == (n : Int)) with
  | some p => p.2
  | none => S.kept.getD n []
theorem at_byte {S : DS} (h : DWf S) {n : Nat} (hn : n < S.kept.length) : Byte128 (S.at_ n) := by
  unfold DS.at_
  split
  · next p hp =>
    have := List.mem_of_find?_eq_some hp
    exact (h.wts p (by simpa using this)).2.2
  · rw [show S.kept.getD n [] = S.kept[n] by simp [List.getD, hn]]
    exact h.rows _ (List.getElem_mem hn)
theorem find_drop {l : List (Int × List Int)} {j : Nat} {p : Int × List Int} (n : Int) (h : l[j]? = some p) (h1 : (l.drop (j + 1)).any (fun p => p.1 == n) = false) :
    ((p.1 == n) = true → l.reverse.find? (fun p => p.1 == n) = some p) ∧ ((p.1 == n) = false → (l.drop j).any (fun p => p.1 == n) = false) := by
  have hj := (List.getElem?_eq_some_iff.1 h).1
  have hd : l.drop j = p :: l.drop (j + 1) := by
    rw [List.drop_eq_getElem_cons hj]
    congr 1
    exact Option.some.inj ((List.getElem?_eq_getElem hj).symm.trans h)
  constructor
  · intro he
    have e : l = l.take j ++ p :: l.drop (j + 1) := by rw [← hd, List.take_append_drop]
    rw [e, List.reverse_append, List.reverse_cons, List.append_assoc, List.find?_append]
    rw [List.find?_eq_none.2 (by
      intro q hq hq2
      have := List.any_eq_false.1 h1 q (by simpa using hq)
      exact this hq2)]
    simp [he]
  · intro he
    rw [hd, List.any_cons, he, h1]; rfl
theorem find_none_of {l : List (Int × List Int)} (n : Int) (h : l.any (fun p => p.1 == n) = false) : l.reverse.find? (fun p => p.1 == n) = none := by
  rw [List.find?_eq_none]
  intro q hq hq2
  exact (List.any_eq_false.1 h q (by simpa using hq)) hq2

set_option maxHeartbeats 800000 in
theorem rat_is (F : Nat → Prop) (w : World) (b : Nat) (S : DS) (n : Nat) (h : RD F w b S) (hn : n < S.kept.length) :
    Calls Try.prog 49 #[.pointer (some ⟨b, 0, none⟩), .int .i64 (n : Int)] w fun e w' => ∃ v, e = .returned v ∧ BRow F w v (S.at_ n) ∧ w' = w := by
  obtain ⟨hwf, kb, ib, ob, ck, ci, spk, spi, vw, kv, ps, h⟩ := h
  obtain ⟨A, c, rfl, hw⟩ := h.wait.form
  have hc0 := h.head.cell (i := 0) rfl
  have hc2 := h.head.cell (i := 2) rfl
  obtain ⟨row, hrow⟩ : ∃ r, S.kept[n]? = some r := ⟨_, List.getElem?_eq_getElem hn⟩
  obtain ⟨vk, hvk, hbk⟩ := h.krow n row hrow
  have hck : w.cell? ⟨kb, n, none⟩ = some vk := h.kept.cell (by rw [List.getElem?_append_left (by rw [h.kvn]; exact hn)]; exact hvk)
  have hpn : ps.length = S.waits.length := h.psn
  have Hpn := Lib.hid hpn
  obtain ⟨K, hK⟩ : ∃ K, K = S.kept.length := ⟨_, rfl⟩
  have hnI : (n : Int) < (K : Int) := by omega
  rw [← hK] at hc0
  obtain ⟨m, hm⟩ : ∃ m, m = ps.length := ⟨_, rfl⟩
  rw [← hm] at hc2
  have hmr : m ≤ 9223372036854775807 := by
    rcases h.wait with ⟨_, e⟩ | ⟨_, _, _, _, _, h3, h4, _⟩
    · rw [hm, e]; simp
    · simp only [maxLen] at h4; omega
  have Hm := Lib.hid hm
  have Hrow := Lib.hid hrow
  clear hpn hm hK hrow
  go_enter Try.func49, Try.ntmps49
  go_wp2
  go_loop [5] (fun i => ∃ j : Nat, j ≤ m ∧ i = .int .i64 j ∧ Hid ((S.waits.drop j).any (fun p => p.1 == (n : Int)) = false)) (fun i => (intOf i).toNat)
  case atStart => exact ⟨m, by omega, rfl, Lib.hid (by rw [List.drop_of_length_le (by rw [Hm.out, Hpn.out]; omega)]; rfl)⟩
  case round =>
    obtain ⟨j, hj, rfl, Hq⟩ := hrel
    rcases j with _ | j
    · have hres := Lib.hid (show S.at_ n = row by
        unfold DS.at_
        rw [find_none_of (n : Int) (by have := Hq.out; simpa using this)]
        simp [List.getD, Hrow.out])
      go_wp2
      go_ret
      exact ⟨_, rfl, by rw [hres.out]; exact hbk, rfl⟩
    · obtain ⟨p, hp⟩ : ∃ p, S.waits[j]? = some p := ⟨_, List.getElem?_eq_getElem (by rw [← Hpn.out, ← Hm.out]; exact hj)⟩
      obtain ⟨v, hv, hbv⟩ := h.wrow j p hp
      obtain ⟨g, rfl, hcp, hcv⟩ := hw j _ hv
      have Hp := Lib.hid hp
      obtain ⟨p1, hp1e⟩ : ∃ x, x = p.1 := ⟨_, rfl⟩
      have Hp1e := Lib.hid hp1e
      rw [show (p.1, v).1 = p.1 from rfl, ← hp1e] at hcp
      rw [show (p.1, v).2 = v from rfl] at hcv
      have hk1 : ((j + 1 : Nat) : Int) - 1 = (j : Int) := by omega
      have hjI : (j : Int) < (m : Int) := by omega
      clear hp hv hp1e
      by_cases he : p1 = (n : Int)
      · subst he
        have hres := Lib.hid (show S.at_ n = p.2 by
          unfold DS.at_
          rw [(find_drop (n : Int) Hp.out Hq.out).1 (by rw [← Hp1e.out]; simp)])
        go_wp2
        go_ret
        exact ⟨_, rfl, by rw [hres.out]; exact hbv, rfl⟩
      · have he' : (p1 == (n : Int)) = false := by simpa using he
        have Hn := Lib.hid ((find_drop (n : Int) Hp.out Hq.out).2 (by rw [← Hp1e.out]; exact he'))
        clear he
        go_wp2
        go_round
        case rel => exact ⟨j, by omega, by go_num, Hn⟩
        case measure => simp [intOf]
end Go.Proofs.Ythdclncgmhgmfaa
