/- The document's disk: Load. -/
import Derived.Test.YthdclncgmhgmfaaRDisk8
namespace Go.Proofs.Ythdclncgmhgmfaa
open Go.RowKit Go.Deep
set_option linter.unusedSimpArgs false
set_option linter.unusedVariables false

/-- Sector s of some bytes. -/
def rowOf (xs : List Int) (s : Nat) : List Int := (List.range 128).map fun t => xs.getD (128 * s + t) 0
/-- A disk that has some bytes. -/
def DS.loaded (n : Nat) (room : Int) (xs : List Int) : DS := { kept := (List.range n).map (rowOf xs), inn := (List.range n).map (fun s => decide (128 * s < xs.length)), waits := [], room := room, cut := -1, off := false, ops := [0, 0, 0] }
theorem ds_eq {S T : DS} (h1 : S.kept = T.kept) (h2 : S.inn = T.inn) (h3 : S.waits = T.waits) (h4 : S.room = T.room) (h5 : S.cut = T.cut) (h6 : S.off = T.off) (h7 : S.ops = T.ops) : S = T := by
  cases S; cases T; simp_all
/-- How many sectors some bytes take. -/
def sectorsOf (k : Nat) : Nat := (k + 127) / 128

theorem rowOf_len (xs : List Int) (s : Nat) : (rowOf xs s).length = 128 := by simp [rowOf]
theorem rowOf_nil (s : Nat) : rowOf [] s = zeros128 := by
  apply List.ext_getElem?
  intro i
  unfold zeros128
  rw [List.getElem?_replicate]
  by_cases hi : i < 128
  · rw [if_pos hi]; simp [rowOf, hi]
  · rw [if_neg hi, List.getElem?_eq_none (by rw [rowOf_len]; omega)]
theorem rowOf_snoc (xs : List Int) (u : Int) (s : Nat) : rowOf (xs ++ [u]) s = if s = xs.length / 128 then (rowOf xs s).set (xs.length % 128) u else rowOf xs s := by
  apply List.ext_getElem?
  intro i
  by_cases hi : i < 128
  · by_cases hs : s = xs.length / 128
    · rw [if_pos hs]
      by_cases ht : i = xs.length % 128
      · rw [ht, List.getElem?_set_self (by rw [rowOf_len]; omega)]
        have e : 128 * s + xs.length % 128 = xs.length := by omega
        simp [rowOf, e, show xs.length % 128 < 128 by omega]
      · rw [List.getElem?_set_ne (fun e => ht e.symm)]
        simp only [rowOf, List.getElem?_map, List.getElem?_range hi, Option.map_some, List.getD]
        congr 2
        by_cases hl : 128 * s + i < xs.length
        · rw [List.getElem?_append_left hl]
        · rw [List.getElem?_append_right (by omega), List.getElem?_eq_none (show xs.length ≤ 128 * s + i by omega), List.getElem?_eq_none (by simp; omega)]
    · rw [if_neg hs]
      simp only [rowOf, List.getElem?_map, List.getElem?_range hi, Option.map_some, List.getD]
      congr 2
      by_cases hl : 128 * s + i < xs.length
      · rw [List.getElem?_append_left hl]
      · rw [List.getElem?_append_right (by omega), List.getElem?_eq_none (show xs.length ≤ 128 * s + i by omega), List.getElem?_eq_none (by simp; omega)]
  · rw [List.getElem?_eq_none (by rw [rowOf_len]; omega), List.getElem?_eq_none]
    split
    · rw [List.length_set, rowOf_len]; omega
    · rw [rowOf_len]; omega
theorem loaded_nil (n : Nat) (room : Int) : DS.loaded n room [] = DS.new n room := by
  refine ds_eq ?_ ?_ rfl rfl rfl rfl rfl
  · show (List.range n).map (rowOf []) = List.replicate n zeros128
    apply List.ext_getElem?
    intro i
    rw [List.getElem?_replicate]
    by_cases hi : i < n
    · rw [if_pos hi]; simp [hi, rowOf_nil]
    · rw [if_neg hi, List.getElem?_eq_none (by simp; omega)]
  · show (List.range n).map _ = List.replicate n false
    apply List.ext_getElem?
    intro i
    rw [List.getElem?_replicate]
    by_cases hi : i < n
    · rw [if_pos hi]; simp [hi]
    · rw [if_neg hi, List.getElem?_eq_none (by simp; omega)]
theorem loaded_snoc (n : Nat) (room : Int) (xs : List Int) (u : Int) (h : xs.length < 128 * n) :
    DS.loaded n room (xs ++ [u]) = { DS.loaded n room xs with kept := (DS.loaded n room xs).kept.set (xs.length / 128) ((rowOf xs (xs.length / 128)).set (xs.length % 128) u), inn := if xs.length % 128 = 0 then (DS.loaded n room xs).inn.set (xs.length / 128) true else (DS.loaded n room xs).inn } := by
  refine ds_eq ?_ ?_ rfl rfl rfl rfl rfl
  · show (List.range n).map _ = ((List.range n).map _).set _ _
    apply List.ext_getElem?
    intro i
    by_cases hi : i < n
    · by_cases e : i = xs.length / 128
      · subst e
        rw [List.getElem?_set_self (by simpa using hi)]
        simp [hi, rowOf_snoc]
      · rw [List.getElem?_set_ne (fun e2 => e e2.symm)]
        simp [hi, rowOf_snoc, e]
    · rw [List.getElem?_eq_none (by simp; omega), List.getElem?_eq_none (by simp; omega)]
  · show (List.range n).map _ = if _ then ((List.range n).map _).set _ _ else (List.range n).map _
    apply List.ext_getElem?
    intro i
    by_cases hi : i < n
    · split
      · rename_i hz
        by_cases e : i = xs.length / 128
        · subst e
          rw [List.getElem?_set_self (by simpa using hi)]
          simp [hi]; omega
        · rw [List.getElem?_set_ne (fun e2 => e e2.symm)]
          simp [hi]; omega
      · simp [hi]; omega
    · split
      · rw [List.getElem?_eq_none (by simp; omega), List.getElem?_eq_none (by simp; omega)]
      · rw [List.getElem?_eq_none (by simp; omega), List.getElem?_eq_none (by simp; omega)]
theorem DWf.loaded {n : Nat} {room : Int} {xs : List Int} (h1 : 1 ≤ n) (h2 : n ≤ 4096) (h3 : 0 ≤ room) (h4 : room ≤ 4096) (hx : ∀ x ∈ xs, 0 ≤ x ∧ x < 256) : DWf (DS.loaded n room xs) :=
  ⟨by simpa [DS.loaded] using h1, by simpa [DS.loaded] using h2, by simp [DS.loaded], fun r hr => by
    obtain ⟨s, _, rfl⟩ := List.mem_map.1 hr
    refine ⟨rowOf_len _ _, fun x hx2 => ?_⟩
    obtain ⟨t, _, rfl⟩ := List.mem_map.1 hx2
    simp only [List.getD]
    cases h : xs[128 * s + t]? with
    | none => exact ⟨Int.le_refl _, by decide⟩
    | some y => exact hx y (List.mem_of_getElem? h), fun p hp => by simp [DS.loaded] at hp, h3, h4, by show (-1 : Int) ≤ -1; omega, by show (-1 : Int) ≤ _; omega, rfl, fun x hx => by simp [DS.loaded] at hx; omega⟩

/-- A byte of a row is written where it lies: no other row lies there. -/
theorem RDAt.upByte {F : Nat → Prop} {w : World} {b : Nat} {S : DS} {kb ib ob ck ci : Nat} {spk spi : List Value} {kv : List Value} (h : RDAt F w b S kb ib ob ck ci spk spi (.slice none 0 0) kv []) (ha : Apart kv) {i g n cap t : Nat} {row : List Int} (hrow : S.kept[i]? = some row) (hv : kv[i]? = some (.slice (some ⟨g, 0, none⟩) n cap)) (ht : t < row.length) (u : Int) :
    RDAt F (w.setCell ⟨g, t, none⟩ (.int .u8 u)) b { S with kept := S.kept.set i (row.set t u) } kb ib ob ck ci spk spi (.slice none 0 0) kv [] := by
  obtain ⟨v, hv2, g2, cap2, sp2, e, hgF, hcap, hblk, hsp⟩ := h.krow i row hrow
  have e3 := hv.symm.trans hv2
  rw [e] at e3
  simp at e3
  obtain ⟨rfl, rfl, rfl⟩ := e3
  subst e
  have far : ∀ {k : Nat} {t2 : TypeId} {vs : List Value}, Blk w k t2 vs → t2 ≠ 5 → (w.setCell ⟨g, t, none⟩ (.int .u8 u)).heap[k]? = w.heap[k]? :=
    fun hb ht => blk_setCell_other _ _ _ _ (hb.ne hblk ht)
  refine ⟨h.fb, h.fk, h.fi, h.fo, ?_, h.kept.kept (far h.kept (by decide)), by simp [h.kvn], ?_, h.inn.kept (far h.inn (by decide)), h.wait.kept (fun k _ ⟨vs, hk⟩ => far hk (by decide)), h.psn, fun j p hj => by
      have := h.psn
      have hl := (List.getElem?_eq_some_iff.1 hj).1
      have hl : j < S.waits.length := hl
      simp at this; omega, h.ops.kept (far h.ops (by decide)), ?_⟩
  · have := h.head.kept (far h.head (by decide))
    simpa using this
  · intro j ys hj
    by_cases e : j = i
    · subst e
      rw [List.getElem?_set_self (List.getElem?_eq_some_iff.1 hrow).1] at hj
      cases hj
      refine ⟨_, hv, g, cap, sp2, by simp, hgF, by simpa using hcap, ?_, by simpa using hsp⟩
      have h5 := hblk.set t (.int .u8 u)
      rw [List.set_append_left _ _ (by simpa using ht), set_u8] at h5
      exact h5
    · rw [List.getElem?_set_ne (fun e2 => e e2.symm)] at hj
      obtain ⟨v, h1, h2⟩ := h.krow j ys hj
      refine ⟨v, h1, ?_⟩
      obtain ⟨g3, cap3, sp3, e4, hg3, hc3, hb3, hs3⟩ := h2
      refine ⟨g3, cap3, sp3, e4, hg3, hc3, hb3.setOther ?_ _, hs3⟩
      intro e5
      refine e (ha j i v _ h1 hv ?_)
      rw [e4]
      show some g3 = some g
      rw [show g3 = g from e5]
  · intro k hk; rw [nblk_setCell]; exact h.fin k hk

theorem ret_nil_two : True := trivial
set_option maxHeartbeats 1600000 in
theorem rload_bad (w : World) (A : Option Addr) (n c : Nat) (s room : Int) (hn : n ≤ 9223372036854775807) (hbad : s < 1 ∨ 4096 < s ∨ room < 0 ∨ s < room ∨ 128 * s < (n : Int)) :
    Calls Try.prog 10 #[.slice A n c, .int .i64 s, .int .i64 room] w fun e w' => e = .returned (.tuple #[.pointer none, .int .i64 2]) ∧ w' = w := by
  by_cases c1 : s < 1
  · have d1 : decide (s < 1) = true := decide_eq_true c1
    clear hbad
    go_enter Try.func10, Try.ntmps10
    go_wp2
    go_ret2
    exact ⟨rfl, rfl⟩
  have d1 : decide (s < 1) = false := decide_eq_false c1
  by_cases c2 : 4096 < s
  · have d2 : decide (4096 < s) = true := decide_eq_true c2
    clear hbad
    go_enter Try.func10, Try.ntmps10
    go_wp2
    go_ret2
    exact ⟨rfl, rfl⟩
  have d2 : decide (4096 < s) = false := decide_eq_false c2
  by_cases c3 : room < 0
  · have d3 : decide (room < 0) = true := decide_eq_true c3
    clear hbad
    go_enter Try.func10, Try.ntmps10
    go_wp2
    go_ret2
    exact ⟨rfl, rfl⟩
  have d3 : decide (room < 0) = false := decide_eq_false c3
  by_cases c4 : s < room
  · have d4 : decide (s < room) = true := decide_eq_true c4
    clear hbad
    go_enter Try.func10, Try.ntmps10
    go_wp2
    go_ret2
    exact ⟨rfl, rfl⟩
  have d4 : decide (s < room) = false := decide_eq_false c4
  have c5 : 128 * s < (n : Int) := by omega
  have d5 : decide (128 * s < (n : Int)) = true := decide_eq_true c5
  have hm : IntKind.i64.wrap (128 * s) = 128 * s := by rw [wrap_i64']; unfold wrap64; omega
  clear hbad
  go_enter Try.func10, Try.ntmps10
  go_wp2
  go_ret2
  exact ⟨rfl, rfl⟩

set_option maxRecDepth 100000 in
set_option maxHeartbeats 3200000 in
theorem rload_in (w : World) (A : Option Addr) (n c : Nat) (s room : Nat) (xs : List Int) (hx : Sl w A n (u8s xs)) (hxb : ∀ x ∈ xs, 0 ≤ x ∧ x < 256) (h1 : 1 ≤ s) (h2 : s ≤ 4096) (h3 : room ≤ s) (h4 : n ≤ 128 * s) :
    Calls Try.prog 10 #[.slice A n c, .int .i64 (s : Int), .int .i64 (room : Int)] w fun e w' => Below w.heap.size w w' ∧
      ((sectorsOf n ≤ room ∧ ∃ b, e = .returned (.tuple #[.pointer (some ⟨b, 0, none⟩), .int .i64 0]) ∧ RD (fun k => w.heap.size ≤ k ∧ k < w'.heap.size) w' b (DS.loaded s (room : Int) xs)) ∨ (room < sectorsOf n ∧ e = .returned (.tuple #[.pointer none, .int .i64 52]))) := by
  have hln : xs.length = n := by simpa using hx.1
  have Hln := Lib.hid hln
  have Hxb := Lib.hid hxb
  have d1 : decide ((s : Int) < 1) = false := decide_eq_false (by omega)
  have d2 : decide ((4096 : Int) < (s : Int)) = false := decide_eq_false (by omega)
  have d3 : decide ((room : Int) < 0) = false := decide_eq_false (by omega)
  have d4 : decide ((s : Int) < (room : Int)) = false := decide_eq_false (by omega)
  have d5 : decide (128 * (s : Int) < (n : Int)) = false := decide_eq_false (by omega)
  have hm : IntKind.i64.wrap (128 * (s : Int)) = 128 * (s : Int) := by rw [wrap_i64']; unfold wrap64; omega
  clear hln hxb
  go_enter Try.func10, Try.ntmps10
  go_wp2_with fail
  refine (rnew6_at w s (room : Int) h1 h2 (by omega) (by omega)).mono ?_
  rintro e w1 ⟨b, kb, ib, ob, ck, ci, spk, spi, kv, rfl, h, ha, hb1⟩
  rw [← loaded_nil] at h
  have Ha := Lib.hid ha
  clear hm ha
  go_wp2_with fail
  go_loopw [9, 10] (fun m i wr => ∃ (k : Nat) (spi' : List Value), k ≤ n ∧ i = .int .i64 k ∧ m = .int .i64 (sectorsOf k : Int) ∧ RDAt (fun k => w.heap.size ≤ k ∧ k < wr.heap.size) wr b (DS.loaded s (room : Int) (xs.take k)) kb ib ob ck ci spk spi' (.slice none 0 0) kv [] ∧ Below w.heap.size w wr) (fun _ i _ => n - (intOf i).toNat)
  case atStart => exact ⟨0, spi, by omega, rfl, rfl, h, hb1⟩
  case round =>
    clear h hb1
    obtain ⟨k, spi', hk, rfl, rfl, h, hb⟩ := hrel
    by_cases hlt : k < n
    · obtain ⟨ad, u, rfl, hcu, hu⟩ := (hx.below hb).num hlt
      have hur := Hxb.out u (List.mem_of_getElem? hu)
      obtain ⟨q, hq⟩ : ∃ q, q = k / 128 := ⟨_, rfl⟩
      obtain ⟨t, ht⟩ : ∃ t, t = k % 128 := ⟨_, rfl⟩
      have hkq : k = 128 * q + t := by omega
      have ht1 : t < 128 := by omega
      have hqs : q < s := by omega
      have hkl : (DS.loaded s (room : Int) (xs.take k)).kept.length = s := by simp [DS.loaded]
      have hxl : (xs.take k).length = k := by rw [List.length_take, Hln.out]; omega
      have hrow : (DS.loaded s (room : Int) (xs.take k)).kept[q]? = some (rowOf (xs.take k) q) := by simp [DS.loaded, hqs]
      obtain ⟨v, hv, g, cap, sp, rfl, hgF, hcap, hblk, hsp⟩ := h.krow q _ hrow
      rw [rowOf_len] at hv hcap hsp
      have hc0 : wr.cell? ⟨b, 0, none⟩ = some (.slice (some ⟨kb, 0, none⟩) s ck) := by have := h.head.cell (i := 0) rfl; rw [hkl] at this; exact this
      have hc1 : wr.cell? ⟨b, 1, none⟩ = some (.slice (some ⟨ib, 0, none⟩) s ci) := by have := h.head.cell (i := 1) rfl; rw [hkl] at this; exact this
      have hck : wr.cell? ⟨kb, q, none⟩ = some (.slice (some ⟨g, 0, none⟩) 128 cap) := h.kept.cell (by rw [List.getElem?_append_left (by rw [h.kvn, hkl]; exact hqs)]; exact hv)
      obtain ⟨old, hold⟩ : ∃ o, (rowOf (xs.take k) q)[t]? = some o := ⟨_, List.getElem?_eq_getElem (by rw [rowOf_len]; exact ht1)⟩
      have hcg : wr.cell? ⟨g, t, none⟩ = some (.int .u8 old) := hblk.cell (by rw [List.getElem?_append_left (by simp [rowOf_len]; exact ht1), List.getElem?_map, hold]; rfl)
      have hfg := hblk.frozen t
      have h2 := h.upByte Ha.out hrow hv (t := t) (by rw [rowOf_len]; exact ht1) u
      have hO2 : Below w.heap.size w (wr.setCell ⟨g, t, none⟩ (.int .u8 u)) := hb.setCell (by exact hgF.1) _
      obtain ⟨w2, hw2⟩ : ∃ w2, w2 = wr.setCell ⟨g, t, none⟩ (.int .u8 u) := ⟨_, rfl⟩
      have hs2 : w2.heap.size = wr.heap.size := by rw [hw2, nblk_setCell]
      rw [← hw2] at h2 hO2
      have H2 := Lib.hid h2
      have Hw2 := Lib.hid hw2
      have HO2 := Lib.hid hO2
      have hqd : (k : Int).tdiv 128 = (q : Int) := by rw [Int.tdiv_eq_ediv_of_nonneg (by omega)]; omega
      have htd : (k : Int).tmod 128 = (t : Int) := by rw [Int.tmod_eq_emod_of_nonneg (by omega)]; omega
      have hqI : (q : Int) < (s : Int) := by omega
      have htI : (t : Int) < 128 := by omega
      have hkI : (k : Int) < (n : Int) := by omega
      have Hsnoc := Lib.hid (loaded_snoc s (room : Int) (xs.take k) u (by rw [hxl]; omega))
      have Htake := Lib.hid (take_snoc _ _ _ hu)
      have Hq := Lib.hid hq
      have Ht := Lib.hid ht
      have Hkq := Lib.hid hkq
      have Hxl := Lib.hid hxl
      have Hkl := Lib.hid hkl
      clear hq ht hkq hkl hxl hrow hv hold h2 hO2 hw2 hu hsp hs2
      go_wp2
      go_region
      all_goals
        rw [← Hw2.out]
        have h3 := H2.out.keep (w' := w2.drew) (Nat.le_refl _) (fun _ _ => rfl)
        have hb3 : Below w.heap.size w w2.drew := HO2.out.drew
        have hs3 : w2.drew.heap.size = wr.heap.size := by show w2.heap.size = _; rw [Hw2.out, nblk_setCell]
        clear Hw2 H2 HO2 hc0 hck hcg hfg hc1 hcu
        generalize w2.drew = w3 at *
        have hc1 : w3.cell? ⟨b, 1, none⟩ = some (.slice (some ⟨ib, 0, none⟩) s ci) := by
          have h5 := h3.head.cell (i := 1) rfl
          rw [h5]; show some (Value.slice _ ((DS.loaded s (room : Int) (xs.take k)).kept.set q _).length _) = _
          rw [List.length_set, Hkl.out]
        by_cases hz : t = 0
        · subst hz
          obtain ⟨ui, hui⟩ : ∃ u, (DS.loaded s (room : Int) (xs.take k)).inn[q]? = some u := ⟨_, List.getElem?_eq_getElem (by simp [DS.loaded]; omega)⟩
          have hin : (DS.loaded s (room : Int) (xs.take k)).inn.length = s := by simp [DS.loaded]
          have hci : w3.cell? ⟨ib, q, none⟩ = some (.bool ui) := h3.inn.cell (by rw [List.getElem?_append_left (by rw [List.length_map]; show q < (DS.loaded s (room : Int) (xs.take k)).inn.length; rw [hin]; omega), List.getElem?_map]; show (DS.loaded s (room : Int) (xs.take k)).inn[q]?.map _ = _; rw [hui]; rfl)
          have hfi := h3.inn.frozen q
          have h4 := h3.upInn (by show (DS.loaded s (room : Int) (xs.take k)).inn.length = ((DS.loaded s (room : Int) (xs.take k)).kept.set q _).length; rw [List.length_set, hin, Hkl.out]) q (by show q < ((DS.loaded s (room : Int) (xs.take k)).kept.set q _).length; rw [List.length_set, Hkl.out]; omega) true
          have hb4 : Below w.heap.size w (w3.setCell ⟨ib, q, none⟩ (.bool true)) := hb3.setCell h3.fi.1 _
          have hfin := Lib.hid (show RDAt (fun k => w.heap.size ≤ k ∧ k < (w3.setCell ⟨ib, q, none⟩ (.bool true)).heap.size) (w3.setCell ⟨ib, q, none⟩ (.bool true)) b (DS.loaded s (room : Int) (xs.take (k + 1))) kb ib ob ck ci spk spi' (.slice none 0 0) kv [] by
            rw [Htake.out, Hsnoc.out, Hxl.out, ← Ht.out, ← Hq.out, if_pos rfl, nblk_setCell, hs3]
            exact h4)
          have Hsec := Lib.hid (show sectorsOf (k + 1) = sectorsOf k + 1 by have := Hkq.out; unfold sectorsOf; omega)
          have hsr : sectorsOf k ≤ 4096 := by have := Hkq.out; unfold sectorsOf; omega
          have hb4' := Lib.hid hb4
          clear hui hin h4 hb4 h3 hb3 hs3
          go_wp2
          go_roundw
          case rel => exact ⟨k + 1, spi', by omega, by go_num, by rw [Hsec.out]; go_num, hfin.out, hb4'.out⟩
          case measure => simp [intOf]; omega
        · have hfin := Lib.hid (show RDAt (fun k => w.heap.size ≤ k ∧ k < w3.heap.size) w3 b (DS.loaded s (room : Int) (xs.take (k + 1))) kb ib ob ck ci spk spi' (.slice none 0 0) kv [] by
            rw [Htake.out, Hsnoc.out, Hxl.out, ← Ht.out, ← Hq.out, if_neg hz, hs3]
            exact h3)
          have Hsec := Lib.hid (show sectorsOf (k + 1) = sectorsOf k by have := Hkq.out; unfold sectorsOf; omega)
          have hzd : ((t : Int) == 0) = false := by simp; omega
          clear h3 hs3 hz
          go_wp2
          go_roundw
          case rel => exact ⟨k + 1, spi', by omega, by go_num, by rw [Hsec.out], hfin.out, hb3⟩
          case measure => simp [intOf]; omega
    · obtain rfl : k = n := by omega
      rw [List.take_of_length_le (by rw [Hln.out]; exact Nat.le_refl _)] at h
      have hsr : sectorsOf k ≤ 4096 := by unfold sectorsOf; omega
      by_cases hroom : room < sectorsOf k
      · have hd : decide ((room : Int) < (sectorsOf k : Int)) = true := decide_eq_true (by omega)
        go_wp2
        go_ret2
        exact ⟨hb, Or.inr ⟨hroom, rfl⟩⟩
      · have hd : decide ((room : Int) < (sectorsOf k : Int)) = false := decide_eq_false (by omega)
        go_wp2
        go_ret2
        exact ⟨hb, Or.inl ⟨by omega, b, rfl, RD.of (DWf.loaded h1 h2 (by omega) (by omega) Hxb.out) h⟩⟩
end Go.Proofs.Ythdclncgmhgmfaa
