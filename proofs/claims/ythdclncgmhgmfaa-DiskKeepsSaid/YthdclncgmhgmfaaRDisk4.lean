/- The document's disk: Write. -/
import Derived.Test.YthdclncgmhgmfaaRDisk3
namespace Go.Proofs.Ythdclncgmhgmfaa
open Go.RowKit Go.Deep
set_option linter.unusedSimpArgs false
set_option linter.unusedVariables false

theorem info_piece : (Try.prog.info? 91).map (fun i => (i.zero, i.size, i.bytes)) = some (some (.agg #[.int .i64 0, .slice none 0 0]), 2, 32) := by kernel_rfl

theorem rwrite_off (F : Nat → Prop) (w : World) (b : Nat) (S : DS) (n : Int) (A : Option Addr) (m c : Nat) (h : RD F w b S) (ho : S.off = true) :
    Calls Try.prog 30 #[.pointer (some ⟨b, 0, none⟩), .int .i64 n, .slice A m c] w fun e w' => e = .returned (.int .i64 50) ∧ w' = w := by
  obtain ⟨hwf, kb, ib, ob, ck, ci, spk, spi, vw, kv, ps, h⟩ := h
  have hc5 := h.head.cell (i := 5) rfl
  rw [ho] at hc5
  go_enter Try.func30, Try.ntmps30
  go_wp2
  go_ret
  exact ⟨rfl, rfl⟩
set_option maxHeartbeats 800000 in
theorem rwrite_out (F : Nat → Prop) (w : World) (b : Nat) (S : DS) (n : Int) (A : Option Addr) (m c : Nat) (h : RD F w b S) (ho : S.off = false) (hn : n < 0 ∨ (S.kept.length : Int) ≤ n) :
    Calls Try.prog 30 #[.pointer (some ⟨b, 0, none⟩), .int .i64 n, .slice A m c] w fun e w' => e = .returned (.int .i64 51) ∧ w' = w := by
  obtain ⟨hwf, kb, ib, ob, ck, ci, spk, spi, vw, kv, ps, h⟩ := h
  have hc5 := h.head.cell (i := 5) rfl
  have hc0 := h.head.cell (i := 0) rfl
  rw [ho] at hc5
  have hn2 := hwf.n2
  obtain ⟨K, hK⟩ : ∃ K, K = S.kept.length := ⟨_, rfl⟩
  rw [← hK] at hc0 hn hn2
  clear hK ho
  by_cases hneg : n < 0
  · go_enter Try.func30, Try.ntmps30
    go_wp2
    go_ret
    exact ⟨rfl, rfl⟩
  · have hd : decide (n < 0) = false := decide_eq_false hneg
    have hd2 : decide ((K : Int) ≤ n) = true := decide_eq_true (by omega)
    go_enter Try.func30, Try.ntmps30
    go_wp2
    go_ret
    exact ⟨rfl, rfl⟩
set_option maxHeartbeats 1600000 in
theorem rwrite_full (F : Nat → Prop) (w : World) (b : Nat) (S : DS) (n : Nat) (A : Option Addr) (m c : Nat) (h : RD F w b S) (ho : S.off = false) (hn : n < S.kept.length) (hu : S.isUse n = false) (hf : S.room ≤ (S.used : Int)) :
    Calls Try.prog 30 #[.pointer (some ⟨b, 0, none⟩), .int .i64 (n : Int), .slice A m c] w fun e w' => e = .returned (.int .i64 52) ∧ ∃ k, w' = w.drewN k := by
  have hrd := h
  obtain ⟨hwf, kb, ib, ob, ck, ci, spk, spi, vw, kv, ps, h⟩ := h
  have hc5 := h.head.cell (i := 5) rfl
  have hc0 := h.head.cell (i := 0) rfl
  have hc3 := h.head.cell (i := 3) rfl
  rw [ho] at hc5
  have hn2 := hwf.n2
  obtain ⟨K, hK⟩ : ∃ K, K = S.kept.length := ⟨_, rfl⟩
  rw [← hK] at hc0 hn2
  have hnI : (n : Int) < (K : Int) := by omega
  have hd : decide ((n : Int) < 0) = false := decide_eq_false (by omega)
  have hd2 : decide ((K : Int) ≤ (n : Int)) = false := decide_eq_false (by omega)
  obtain ⟨us, hus⟩ : ∃ u : Nat, u = S.used := ⟨_, rfl⟩
  obtain ⟨rm, hrm⟩ : ∃ r, r = S.room := ⟨_, rfl⟩
  rw [← hus, ← hrm] at hf
  rw [← hrm] at hc3
  have hd3 : decide (rm ≤ (us : Int)) = true := decide_eq_true hf
  have His := Lib.hid (fun k => show Calls Try.prog 36 #[.pointer (some ⟨b, 0, none⟩), .int .i64 (n : Int)] (w.drewN k) fun e w' => e = .returned (.bool false) ∧ w' = w.drewN k by
    have := ris_is F (w.drewN k) b S n (hrd.keep (Nat.le_refl _) (fun _ _ => rfl)) hn
    rw [hu] at this; exact this)
  have Hus := Lib.hid (fun k => show Calls Try.prog 16 #[.pointer (some ⟨b, 0, none⟩)] (w.drewN k) fun e w' => e = .returned (.int .i64 (us : Int)) ∧ w' = w.drewN k by
    have := rused_is F (w.drewN k) b S (hrd.keep (Nat.le_refl _) (fun _ _ => rfl))
    rw [← hus] at this; exact this)
  clear hK ho hu hus hrm hf
  go_enter Try.func30, Try.ntmps30
  go_wp2
  go_quiet (first | (go_at_call 36; exact Calls.quiet_of_same (His.out _)) | (go_at_call 16; exact Calls.quiet_of_same (Hus.out _)))
  go_wp2
  go_ret
  exact ⟨rfl, _, rfl⟩

/-- A piece is written. -/
def DS.put (S : DS) (n : Nat) (bs : List Int) : DS := { S with waits := S.waits ++ [((n : Int), bs)] }
theorem DWf.put {S : DS} (h : DWf S) {n : Nat} {bs : List Int} (hn : n < S.kept.length) (hb : Byte128 bs) : DWf (S.put n bs) :=
  ⟨h.n1, h.n2, h.ninn, h.rows, fun p hp => by
    rcases List.mem_append.1 hp with hp | hp
    · exact h.wts p hp
    · simp at hp; subst hp
      exact ⟨by show (0 : Int) ≤ (n : Int); omega, by show (n : Int) < (S.kept.length : Int); omega, hb⟩, h.room0, h.room1, h.cut0, h.cut1, h.ops3, h.opsr⟩
theorem info_parts' {P : Program} {t : TypeId} {z : Value} {s n : Nat} (h : (P.info? t).map (fun i => (i.zero, i.size, i.bytes)) = some (some z, s, n)) : ∃ i, P.info? t = some i ∧ i.zero = some z ∧ i.size = s ∧ i.bytes = n := by
  obtain ⟨i, hi, hz⟩ := Option.map_eq_some_iff.1 h
  simp only [Prod.mk.injEq] at hz
  exact ⟨i, hi, hz⟩

/-- Behind the two appends of Write: the disk with the piece that waits. -/
theorem RDAt.upPut {F : Nat → Prop} {w w3 : World} {b : Nat} {S : DS} {kb ib ob ck ci : Nat} {spk spi : List Value} {vw : Value} {kv : List Value} {ps : List (Int × Value)} (h : RDAt F w b S kb ib ob ck ci spk spi vw kv ps)
    {n : Nat} {bs : List Int} {v1 v2 : Value} (hO : Only F w w3) (hsame : ∀ k, F k → vw.ownBlock ≠ some k → w3.heap[k]? = w.heap[k]?)
    (h1 : BRow (More F w w3) w3 v1 bs) (h2 : w3.ownsRow 0 91 2 v2 (ps.length + 1) (flat2 ps ++ [.int .i64 (n : Int), v1])) (h3 : ∀ k, v2.ownBlock = some k → More F w w3 k) :
    RDAt (More F w w3) (w3.setCell ⟨b, 2, none⟩ v2) b (S.put n bs) kb ib ob ck ci spk spi v2 kv (ps ++ [((n : Int), v1)]) := by
  have hvw : ∀ {g : Nat} {t : TypeId} {vs : List Value}, Blk w g t vs → t ≠ 91 → F g → w3.heap[g]? = w.heap[g]? := by
    intro g t vs hb ht hg
    refine hsame g hg ?_
    intro e
    rcases h.wait with ⟨hv, _⟩ | ⟨g2, cap, sp, hv, _, _, _, hb2, _⟩
    · rw [hv] at e; cases e
    · rw [hv] at e
      have e2 : g2 = g := Option.some.inj e
      subst e2
      exact hb.ne hb2 ht rfl
  have hb3 : Blk w3 b 43 _ := h.head.kept (hvw h.head (by decide) h.fb)
  have far : ∀ {g : Nat} {t : TypeId} {vs : List Value}, Blk w3 g t vs → t ≠ 43 → (w3.setCell ⟨b, 2, none⟩ v2).heap[g]? = w3.heap[g]? :=
    fun hb ht => blk_setCell_other _ _ _ _ (hb.ne hb3 ht)
  have old : ∀ {g : Nat} {t : TypeId} {vs : List Value}, Blk w g t vs → t ≠ 91 → t ≠ 43 → F g → Blk (w3.setCell ⟨b, 2, none⟩ v2) g t vs := by
    intro g t vs hb ht ht2 hg
    have hb3 := hb.kept (hvw hb ht hg)
    exact hb3.kept (far hb3 ht2)
  have row : ∀ {v : Value} {xs : List Int}, BRow F w v xs → BRow (More F w w3) (w3.setCell ⟨b, 2, none⟩ v2) v xs := by
    intro v xs ⟨g, cap, sp, e1, e2, e3, e4, e5⟩
    exact ⟨g, cap, sp, e1, Or.inl e2, e3, old e4 (by decide) (by decide) e2, e5⟩
  refine ⟨Or.inl h.fb, Or.inl h.fk, Or.inl h.fi, Or.inl h.fo, hb3.set 2 v2, old h.kept (by decide) (by decide) h.fk, h.kvn, ?_, old h.inn (by decide) (by decide) h.fi, ?_, ?_, ?_, old h.ops (by decide) (by decide) h.fo, ?_⟩
  · intro i xs hi
    obtain ⟨v, e1, e2⟩ := h.krow i xs hi
    exact ⟨v, e1, row e2⟩
  · have e := WRow.of_own (F := More F w w3) (ps := ps ++ [((n : Int), v1)]) (by rw [flat2_snoc]; exact h2) h3
    exact e.kept (fun g _ ⟨vs, hg⟩ => far hg (by decide))
  · show (ps ++ _).length = (S.waits ++ _).length
    simp [h.psn]
  · intro i p hi
    have hi : (S.waits ++ [((n : Int), bs)])[i]? = some p := hi
    by_cases hlt : i < S.waits.length
    · rw [List.getElem?_append_left hlt] at hi
      obtain ⟨v, e1, e2⟩ := h.wrow i p hi
      exact ⟨v, by rw [List.getElem?_append_left (by rw [h.psn]; exact hlt)]; exact e1, row e2⟩
    · rw [List.getElem?_append_right (by omega)] at hi
      have hi0 : i - S.waits.length = 0 := by
        have := (List.getElem?_eq_some_iff.1 hi).1
        simp at this; omega
      rw [hi0] at hi
      simp at hi
      subst hi
      refine ⟨v1, ?_, h1.kept (fun g _ ⟨vs, hg⟩ => far hg (by decide))⟩
      rw [List.getElem?_append_right (by rw [h.psn]; omega), h.psn, hi0]; rfl
  · intro k hk
    rw [nblk_setCell]
    rcases hk with hk | hk
    · exact Nat.lt_of_lt_of_le (h.fin k hk) hO.size
    · exact hk.2
end Go.Proofs.Ythdclncgmhgmfaa
