/- The document's disk: stores into it. -/
import Derived.Test.YthdclncgmhgmfaaRDisk1
import Derived.Test.YthdclncgmhgmfaaMet
namespace Go.Proofs.Ythdclncgmhgmfaa
open Go.RowKit Go.Deep
set_option linter.unusedSimpArgs false
set_option linter.unusedVariables false

section
variable {F : Nat → Prop} {w : World} {b : Nat} {S : DS} {kb ib ob ck ci : Nat} {spk spi : List Value} {vw : Value} {kv : List Value} {ps : List (Int × Value)}

/-- A store into the head. -/
theorem RDAt.upHead (h : RDAt F w b S kb ib ob ck ci spk spi vw kv ps) (i : Nat) (v : Value) (c : Int) (o : Bool)
    (e : ([.slice (some ⟨kb, 0, none⟩) S.kept.length ck, .slice (some ⟨ib, 0, none⟩) S.kept.length ci, vw, .int .i64 S.room, .int .i64 S.cut, .bool S.off, .slice (some ⟨ob, 0, none⟩) 3 3] : List Value).set i v
      = [.slice (some ⟨kb, 0, none⟩) S.kept.length ck, .slice (some ⟨ib, 0, none⟩) S.kept.length ci, vw, .int .i64 S.room, .int .i64 c, .bool o, .slice (some ⟨ob, 0, none⟩) 3 3]) :
    RDAt F (w.setCell ⟨b, i, none⟩ v) b { S with cut := c, off := o } kb ib ob ck ci spk spi vw kv ps := by
  have far : ∀ {g : Nat} {t : TypeId} {vs : List Value}, Blk w g t vs → t ≠ 43 → (w.setCell ⟨b, i, none⟩ v).heap[g]? = w.heap[g]? :=
    fun hb ht => blk_setCell_other _ _ _ _ (hb.ne h.head ht)
  refine ⟨h.fb, h.fk, h.fi, h.fo, ?_, h.kept.kept (far h.kept (by decide)), h.kvn, ?_, h.inn.kept (far h.inn (by decide)), h.wait.kept (fun g _ ⟨vs, hg⟩ => far hg (by decide)), h.psn, ?_, h.ops.kept (far h.ops (by decide)), ?_⟩
  · have := h.head.set i v
    rw [e] at this; exact this
  · intro i xs hi
    obtain ⟨v, h1, h2⟩ := h.krow i xs hi
    exact ⟨v, h1, h2.kept (fun g _ ⟨vs, hg⟩ => far hg (by decide))⟩
  · intro i p hi
    obtain ⟨v, h1, h2⟩ := h.wrow i p hi
    exact ⟨v, h1, h2.kept (fun g _ ⟨vs, hg⟩ => far hg (by decide))⟩
  · intro k hk; rw [nblk_setCell]; exact h.fin k hk
/-- Nothing waits any more. -/
theorem RDAt.upNone (h : RDAt F w b S kb ib ob ck ci spk spi vw kv ps) :
    RDAt F (w.setCell ⟨b, 2, none⟩ (.slice none 0 0)) b { S with waits := [] } kb ib ob ck ci spk spi (.slice none 0 0) kv [] := by
  have far : ∀ {g : Nat} {t : TypeId} {vs : List Value}, Blk w g t vs → t ≠ 43 → (w.setCell ⟨b, 2, none⟩ (.slice none 0 0)).heap[g]? = w.heap[g]? :=
    fun hb ht => blk_setCell_other _ _ _ _ (hb.ne h.head ht)
  refine ⟨h.fb, h.fk, h.fi, h.fo, h.head.set 2 _, h.kept.kept (far h.kept (by decide)), h.kvn, ?_, h.inn.kept (far h.inn (by decide)), Or.inl ⟨rfl, rfl⟩, rfl, ?_, h.ops.kept (far h.ops (by decide)), ?_⟩
  · intro i xs hi
    obtain ⟨v, h1, h2⟩ := h.krow i xs hi
    exact ⟨v, h1, h2.kept (fun g _ ⟨vs, hg⟩ => far hg (by decide))⟩
  · intro i p hi; simp at hi
  · intro k hk; rw [nblk_setCell]; exact h.fin k hk
/-- A store into the counts. -/
theorem RDAt.upOps (h : RDAt F w b S kb ib ob ck ci spk spi vw kv ps) (i : Nat) (u : Int) :
    RDAt F (w.setCell ⟨ob, i, none⟩ (.int .i64 u)) b { S with ops := S.ops.set i u } kb ib ob ck ci spk spi vw kv ps := by
  have far : ∀ {g : Nat} {t : TypeId} {vs : List Value}, Blk w g t vs → t ≠ 3 → (w.setCell ⟨ob, i, none⟩ (.int .i64 u)).heap[g]? = w.heap[g]? :=
    fun hb ht => blk_setCell_other _ _ _ _ (hb.ne h.ops ht)
  refine ⟨h.fb, h.fk, h.fi, h.fo, h.head.kept (far h.head (by decide)), h.kept.kept (far h.kept (by decide)), h.kvn, ?_, h.inn.kept (far h.inn (by decide)), h.wait.kept (fun g _ ⟨vs, hg⟩ => far hg (by decide)), h.psn, ?_, ?_, ?_⟩
  · intro i xs hi
    obtain ⟨v, h1, h2⟩ := h.krow i xs hi
    exact ⟨v, h1, h2.kept (fun g _ ⟨vs, hg⟩ => far hg (by decide))⟩
  · intro i p hi
    obtain ⟨v, h1, h2⟩ := h.wrow i p hi
    exact ⟨v, h1, h2.kept (fun g _ ⟨vs, hg⟩ => far hg (by decide))⟩
  · have := h.ops.set i (.int .i64 u)
    rw [← List.map_set] at this; exact this
  · intro k hk; rw [nblk_setCell]; exact h.fin k hk
/-- A sector comes in use. -/
theorem RDAt.upInn (h : RDAt F w b S kb ib ob ck ci spk spi vw kv ps) (hn : S.inn.length = S.kept.length) (i : Nat) (hi : i < S.kept.length) (u : Bool) :
    RDAt F (w.setCell ⟨ib, i, none⟩ (.bool u)) b { S with inn := S.inn.set i u } kb ib ob ck ci spk spi vw kv ps := by
  have far : ∀ {g : Nat} {t : TypeId} {vs : List Value}, Blk w g t vs → t ≠ 4 → (w.setCell ⟨ib, i, none⟩ (.bool u)).heap[g]? = w.heap[g]? :=
    fun hb ht => blk_setCell_other _ _ _ _ (hb.ne h.inn ht)
  refine ⟨h.fb, h.fk, h.fi, h.fo, h.head.kept (far h.head (by decide)), h.kept.kept (far h.kept (by decide)), h.kvn, ?_, ?_, h.wait.kept (fun g _ ⟨vs, hg⟩ => far hg (by decide)), h.psn, ?_, h.ops.kept (far h.ops (by decide)), ?_⟩
  · intro i xs hi
    obtain ⟨v, h1, h2⟩ := h.krow i xs hi
    exact ⟨v, h1, h2.kept (fun g _ ⟨vs, hg⟩ => far hg (by decide))⟩
  · have := h.inn.set i (.bool u)
    rw [List.set_append_left _ _ (by rw [List.length_map, hn]; exact hi), ← List.map_set] at this; exact this
  · intro i p hi
    obtain ⟨v, h1, h2⟩ := h.wrow i p hi
    exact ⟨v, h1, h2.kept (fun g _ ⟨vs, hg⟩ => far hg (by decide))⟩
  · intro k hk; rw [nblk_setCell]; exact h.fin k hk
/-- A sector keeps another row. -/
theorem RDAt.upKept (h : RDAt F w b S kb ib ob ck ci spk spi vw kv ps) (i : Nat) (hi : i < S.kept.length) (v : Value) (xs : List Int) (hv : BRow F w v xs) :
    RDAt F (w.setCell ⟨kb, i, none⟩ v) b { S with kept := S.kept.set i xs } kb ib ob ck ci spk spi vw (kv.set i v) ps := by
  have far : ∀ {g : Nat} {t : TypeId} {vs : List Value}, Blk w g t vs → t ≠ 22 → (w.setCell ⟨kb, i, none⟩ v).heap[g]? = w.heap[g]? :=
    fun hb ht => blk_setCell_other _ _ _ _ (hb.ne h.kept ht)
  refine ⟨h.fb, h.fk, h.fi, h.fo, ?_, ?_, by simp [h.kvn], ?_, h.inn.kept (far h.inn (by decide)), h.wait.kept (fun g _ ⟨vs, hg⟩ => far hg (by decide)), h.psn, ?_, h.ops.kept (far h.ops (by decide)), ?_⟩
  · have := h.head.kept (far h.head (by decide))
    simpa using this
  · have := h.kept.set i v
    rw [List.set_append_left _ _ (by rw [h.kvn]; exact hi)] at this; exact this
  · intro j ys hj
    by_cases e : j = i
    · subst e
      rw [List.getElem?_set_self hi] at hj
      cases hj
      exact ⟨v, by rw [List.getElem?_set_self (by rw [h.kvn]; exact hi)], hv.kept (fun g _ ⟨vs, hg⟩ => far hg (by decide))⟩
    · rw [List.getElem?_set_ne (fun e2 => e e2.symm)] at hj
      obtain ⟨u, h1, h2⟩ := h.krow j ys hj
      exact ⟨u, by rw [List.getElem?_set_ne (fun e2 => e e2.symm)]; exact h1, h2.kept (fun g _ ⟨vs, hg⟩ => far hg (by decide))⟩
  · intro i p hi
    obtain ⟨v, h1, h2⟩ := h.wrow i p hi
    exact ⟨v, h1, h2.kept (fun g _ ⟨vs, hg⟩ => far hg (by decide))⟩
  · intro k hk; rw [nblk_setCell]; exact h.fin k hk
end

/-- The power may go with an operation of a kind. -/
def DS.count (S : DS) (kind : Nat) : DS := { S with ops := S.ops.set kind (wrap64 (S.ops.getD kind 0 + 1)) }
def DS.goes (S : DS) (kind : Nat) : DS × Bool := if S.cut < 0 then (S.count kind, false) else ({ S.count kind with cut := S.cut - 1, off := decide (S.cut - 1 < 0) }, decide (S.cut - 1 < 0))

theorem DWf.count {S : DS} (h : DWf S) (k : Nat) : DWf (S.count k) :=
  ⟨h.n1, h.n2, h.ninn, h.rows, h.wts, h.room0, h.room1, h.cut0, h.cut1, by show (S.ops.set k _).length = 3; simp [h.ops3], fun x hx => by
    rcases List.mem_or_eq_of_mem_set (show x ∈ S.ops.set k _ from hx) with hx | rfl
    · exact h.opsr x hx
    · exact w64_range _⟩
theorem DWf.cutOff {S : DS} (h : DWf S) (c : Int) (o : Bool) (h0 : -1 ≤ c) (h1 : c ≤ 9223372036854775807) : DWf { S with cut := c, off := o } :=
  ⟨h.n1, h.n2, h.ninn, h.rows, h.wts, h.room0, h.room1, h0, h1, h.ops3, h.opsr⟩

theorem wrap_i64' (x : Int) : IntKind.i64.wrap x = wrap64 x := by unfold wrap64; exact IntKind.wrap_i64 x

set_option maxHeartbeats 1600000 in
theorem rgoes_is (F : Nat → Prop) (w : World) (b : Nat) (S : DS) (k : Nat) (h : RD F w b S) (hk : k < 3) :
    Calls Try.prog 48 #[.pointer (some ⟨b, 0, none⟩), .int .i64 (k : Int)] w fun e w' => e = .returned (.bool (S.goes k).2) ∧ RD F w' b (S.goes k).1 ∧ Only F w w' := by
  obtain ⟨hwf, kb, ib, ob, ck, ci, spk, spi, vw, kv, ps, h⟩ := h
  have hc6 := h.head.cell (i := 6) rfl
  obtain ⟨u, hu⟩ : ∃ u, S.ops[k]? = some u := ⟨_, List.getElem?_eq_getElem (by rw [hwf.ops3]; exact hk)⟩
  have hcu : w.cell? ⟨ob, k, none⟩ = some (.int .i64 u) := h.ops.cell (by rw [List.getElem?_map, hu]; rfl)
  have hfu := h.ops.frozen k
  have hkI : (k : Int) < 3 := by omega
  obtain ⟨z, hz⟩ : ∃ z, z = wrap64 (u + 1) := ⟨_, rfl⟩
  have hzw : IntKind.i64.wrap (u + 1) = z := by rw [hz, wrap_i64']
  have h1 := h.upOps k z
  have hcount : { S with ops := S.ops.set k z } = S.count k := by unfold DS.count; rw [hz]; simp [List.getD, hu]
  rw [hcount] at h1
  have h0 := h1.head.cell (i := 4) rfl
  have hf4 := h1.head.frozen 4
  have hf5 := h1.head.frozen 5
  obtain ⟨w1, hw1⟩ : ∃ w1, w1 = w.setCell ⟨ob, k, none⟩ (.int .i64 z) := ⟨_, rfl⟩
  have hO1 : Only F w w1 := by rw [hw1]; exact (Only.refl F w).set (Or.inr h.fo) _
  rw [← hw1] at h1 h0 hf4 hf5
  have H1 := Lib.hid h1
  have Hw1 := Lib.hid hw1
  obtain ⟨ct, hct⟩ : ∃ c, c = S.cut := ⟨_, rfl⟩
  have hct0 : -1 ≤ ct ∧ ct ≤ 9223372036854775807 := by rw [hct]; exact ⟨hwf.cut0, hwf.cut1⟩
  have h0' : w1.cell? ⟨b, 4, none⟩ = some (.int .i64 ct) := by rw [hct]; exact h0
  have Hct := Lib.hid hct
  have Hwf := Lib.hid hwf
  clear hu hz hcount hw1 h0 hct hwf h1
  go_enter Try.func48, Try.ntmps48
  go_wp2
  go_region
  all_goals
    rw [← Hw1.out]
    have h1 := H1.out.keep (w' := w1.drew) (Nat.le_refl _) (fun _ _ => rfl)
    have hO := hO1.drew
    have hc : w1.drew.cell? ⟨b, 4, none⟩ = some (.int .i64 ct) := h0'
    have hf4' : w1.drew.frozen? ⟨b, 4, none⟩ = false := hf4
    have hf5' : w1.drew.frozen? ⟨b, 5, none⟩ = false := hf5
    have hc5 : w1.drew.cell? ⟨b, 5, none⟩ = some (.bool S.off) := h1.head.cell (i := 5) rfl
    generalize w1.drew = w2 at *
    by_cases hneg : ct < 0
    · have hres := Lib.hid (show S.goes k = (S.count k, false) by unfold DS.goes; rw [if_pos (by rw [← Hct.out]; exact hneg)])
      go_wp2
      go_ret
      exact ⟨ret_bool (by rw [hres.out]), by rw [hres.out]; exact ⟨Hwf.out.count k, _, _, _, _, _, _, _, _, _, _, h1⟩, hO⟩
    · have h2 := h1.upHead 4 (.int .i64 (ct - 1)) (ct - 1) (S.count k).off rfl
      have hO2 := hO.set (a := ⟨b, 4, none⟩) (Or.inr h.fb) (.int .i64 (ct - 1))
      obtain ⟨d, hd⟩ : ∃ d, d = decide (ct - 1 < 0) := ⟨_, rfl⟩
      have h3 := h2.upHead 5 (.bool d) (ct - 1) d rfl
      have hO3 := hO2.set (a := ⟨b, 5, none⟩) (Or.inr h.fb) (.bool d)
      have hres := Lib.hid (show S.goes k = ({ S.count k with cut := ct - 1, off := d }, d) by unfold DS.goes; rw [if_neg (by rw [← Hct.out]; exact hneg), ← Hct.out, hd])
      have hfin := Lib.hid (show RD F ((w2.setCell ⟨b, 4, none⟩ (.int .i64 (ct - 1))).setCell ⟨b, 5, none⟩ (.bool d)) b (S.goes k).1 by
        rw [hres.out]; exact ⟨(Hwf.out.count k).cutOff _ _ (by omega) (by omega), _, _, _, _, _, _, _, _, _, _, h3⟩)
      have hO3' := Lib.hid hO3
      have hcw : IntKind.i64.wrap (ct - 1) = ct - 1 := by rw [wrap_i64']; unfold wrap64; omega
      have hdd := hd.symm
      clear hd h2 h3 hO2 hO3 h1 hO
      go_wp2
      go_ret
      exact ⟨ret_bool (by rw [hres.out]), hfin.out, hO3'.out⟩

set_option maxHeartbeats 800000 in
theorem rsetCut_is (F : Nat → Prop) (w : World) (b : Nat) (S : DS) (n : Int) (h : RD F w b S) (hn1 : -9223372036854775808 ≤ n) (hn2 : n ≤ 9223372036854775807) :
    Calls Try.prog 33 #[.pointer (some ⟨b, 0, none⟩), .int .i64 n] w fun e w' => e = .returned (.tuple #[]) ∧ RD F w' b { S with cut := if n < 0 then -1 else n } ∧ Only F w w' := by
  obtain ⟨hwf, kb, ib, ob, ck, ci, spk, spi, vw, kv, ps, h⟩ := h
  have hf4 := h.head.frozen 4
  have hc4 := h.head.cell (i := 4) rfl
  have h1 := h.upHead 4 (.int .i64 n) n S.off rfl
  have hO := (Only.refl F w).set (a := ⟨b, 4, none⟩) (Or.inr h.fb) (.int .i64 n)
  by_cases hneg : n < 0
  · have h2 := h1.upHead 4 (.int .i64 (-1)) (-1) S.off rfl
    have hO2 := hO.set (a := ⟨b, 4, none⟩) (Or.inr h.fb) (.int .i64 (-1))
    have hfin := Lib.hid (show RD F _ b { S with cut := -1 } from ⟨hwf.cutOff (-1) S.off (by omega) (by omega), _, _, _, _, _, _, _, _, _, _, h2⟩)
    have HO := Lib.hid hO2
    rw [if_pos hneg]
    clear h1 h2 hO hO2
    go_enter Try.func33, Try.ntmps33
    go_wp2
    go_end0
    exact ⟨rfl, hfin.out, HO.out⟩
  · have hfin := Lib.hid (show RD F _ b { S with cut := n } from ⟨hwf.cutOff n S.off (by omega) hn2, _, _, _, _, _, _, _, _, _, _, h1⟩)
    have HO := Lib.hid hO
    rw [if_neg hneg]
    clear h1 hO
    go_enter Try.func33, Try.ntmps33
    go_wp2
    go_end0
    exact ⟨rfl, hfin.out, HO.out⟩
end Go.Proofs.Ythdclncgmhgmfaa
