/- The document's disk: what it is, and how it lies in memory. -/
import Derived.Test.YthdclncgmhgmfaaHeap
namespace Go.Proofs.Ythdclncgmhgmfaa
open Go.RowKit Go.Deep
set_option linter.unusedSimpArgs false
set_option linter.unusedVariables false

/-- A disk, plainly. -/
structure DS where
  kept : List (List Int)
  inn : List Bool
  waits : List (Int × List Int)
  room : Int
  cut : Int
  off : Bool
  ops : List Int

def Byte128 (r : List Int) : Prop := r.length = 128 ∧ ∀ x ∈ r, 0 ≤ x ∧ x < 256

structure DWf (S : DS) : Prop where
  n1 : 1 ≤ S.kept.length
  n2 : S.kept.length ≤ 4096
  ninn : S.inn.length = S.kept.length
  rows : ∀ r ∈ S.kept, Byte128 r
  wts : ∀ p ∈ S.waits, 0 ≤ p.1 ∧ p.1 < S.kept.length ∧ Byte128 p.2
  room0 : 0 ≤ S.room
  room1 : S.room ≤ 4096
  cut0 : -1 ≤ S.cut
  cut1 : S.cut ≤ 9223372036854775807
  ops3 : S.ops.length = 3
  opsr : ∀ x ∈ S.ops, -9223372036854775808 ≤ x ∧ x ≤ 9223372036854775807

/-- Pairs, one behind the other. -/
def flat2 (ps : List (Int × Value)) : List Value := ps.flatMap fun p => [Value.int .i64 p.1, p.2]
theorem flat2_len (ps : List (Int × Value)) : (flat2 ps).length = 2 * ps.length := by
  induction ps with
  | nil => rfl
  | cons p ps ih =>
    show (Value.int .i64 p.1 :: p.2 :: flat2 ps).length = _
    simp only [List.length_cons, ih]; omega
theorem flat2_snoc (ps : List (Int × Value)) (a : Int) (v : Value) : flat2 (ps ++ [(a, v)]) = flat2 ps ++ [.int .i64 a, v] := by simp [flat2]
theorem flat2_at {ps : List (Int × Value)} {i : Nat} {p : Int × Value} (h : ps[i]? = some p) : (flat2 ps)[i * 2]? = some (.int .i64 p.1) ∧ (flat2 ps)[i * 2 + 1]? = some p.2 := by
  induction ps generalizing i with
  | nil => simp at h
  | cons q ps ih =>
    have e : flat2 (q :: ps) = Value.int .i64 q.1 :: q.2 :: flat2 ps := rfl
    rw [e]
    match i with
    | 0 => simp at h; subst h; exact ⟨rfl, rfl⟩
    | i + 1 =>
      have := ih (i := i) (by simpa using h)
      have e2 : (i + 1) * 2 = i * 2 + 1 + 1 := by omega
      rw [e2]
      simpa using this

/-- The pieces that wait: a slice of pairs, or none yet. -/
def WRow (F : Nat → Prop) (w : World) (vw : Value) (ps : List (Int × Value)) : Prop :=
  (vw = .slice none 0 0 ∧ ps = []) ∨ ∃ g cap sp, vw = .slice (some ⟨g, 0, none⟩) ps.length cap ∧ F g ∧ ps.length ≤ cap ∧ cap ≤ maxLen ∧ Blk w g 91 (flat2 ps ++ sp) ∧ 2 * ps.length + sp.length = cap * 2

theorem WRow.form {F : Nat → Prop} {w : World} {vw : Value} {ps : List (Int × Value)} (h : WRow F w vw ps) :
    ∃ A c, vw = .slice A ps.length c ∧ ∀ i p, ps[i]? = some p → ∃ g, A = some ⟨g, 0, none⟩ ∧ w.cell? ⟨g, i * 2, none⟩ = some (.int .i64 p.1) ∧ w.cell? ⟨g, i * 2 + 1, none⟩ = some p.2 := by
  rcases h with ⟨rfl, rfl⟩ | ⟨g, cap, sp, rfl, _, _, _, hb, _⟩
  · exact ⟨none, 0, rfl, fun i p h => by simp at h⟩
  · refine ⟨_, _, rfl, fun i p hp => ⟨g, rfl, ?_, ?_⟩⟩
    · have h1 := (flat2_at hp).1
      exact hb.cell (by rw [List.getElem?_append_left]; exact h1; exact (List.getElem?_eq_some_iff.1 h1).1)
    · have h1 := (flat2_at hp).2
      exact hb.cell (by rw [List.getElem?_append_left]; exact h1; exact (List.getElem?_eq_some_iff.1 h1).1)
theorem WRow.kept {F : Nat → Prop} {w w' : World} {v : Value} {ps : List (Int × Value)} (h : WRow F w v ps) (e : ∀ g, F g → (∃ vs, Blk w g 91 vs) → w'.heap[g]? = w.heap[g]?) : WRow F w' v ps := by
  rcases h with h | ⟨g, cap, sp, h1, h2, h3, h4, h5, h6⟩
  · exact Or.inl h
  · exact Or.inr ⟨g, cap, sp, h1, h2, h3, h4, h5.kept (e g h2 ⟨_, h5⟩), h6⟩
theorem WRow.mono {F G : Nat → Prop} {w : World} {v : Value} {ps : List (Int × Value)} (h : WRow F w v ps) (hs : ∀ k, k < w.heap.size → F k → G k) : WRow G w v ps := by
  rcases h with h | ⟨g, cap, sp, h1, h2, h3, h4, h5, h6⟩
  · exact Or.inl h
  · exact Or.inr ⟨g, cap, sp, h1, hs g h5.lt h2, h3, h4, h5, h6⟩
theorem WRow.own {F : Nat → Prop} {w : World} {v : Value} {ps : List (Int × Value)} (h : WRow F w v ps) : w.ownsRow 0 91 2 v ps.length (flat2 ps) := by
  refine ⟨by rw [flat2_len]; omega, ?_⟩
  rcases h with ⟨h1, h2⟩ | ⟨g, cap, sp, h1, h2, h3, h4, h5, h6⟩
  · exact Or.inl ⟨h1, by rw [h2]; rfl⟩
  · refine Or.inr ⟨g, cap, _, h1, Nat.zero_le _, h5, h3, h4, ?_, ?_⟩
    · simp [flat2_len]; omega
    · rw [show (flat2 ps ++ sp).toArray.toList = flat2 ps ++ sp by simp]
      rw [List.take_append_of_le_length (by rw [flat2_len]; omega), List.take_of_length_le (by rw [flat2_len]; omega)]
theorem WRow.of_own {F : Nat → Prop} {w : World} {base : Nat} {v : Value} {ps : List (Int × Value)} {n : Nat} (h : w.ownsRow base 91 2 v n (flat2 ps)) (hF : ∀ k, v.ownBlock = some k → F k) : WRow F w v ps := by
  have hl : n = ps.length := by have := h.1; rw [flat2_len] at this; omega
  subst hl
  rcases h.2 with ⟨h1, h2⟩ | ⟨g, cap, cur, h1, _, hg, h3, h4, h5, h6⟩
  · exact Or.inl ⟨h1, List.eq_nil_of_length_eq_zero h2⟩
  · refine Or.inr ⟨g, cap, cur.toList.drop (ps.length * 2), h1, hF g (by rw [h1]; rfl), h3, h4, ?_, ?_⟩
    · unfold Blk; rw [hg, ← h6, List.take_append_drop]
    · simp; omega

/-- The document's disk at b. -/
structure RDAt (F : Nat → Prop) (w : World) (b : Nat) (S : DS) (kb ib ob ck ci : Nat) (spk spi : List Value) (vw : Value) (kv : List Value) (ps : List (Int × Value)) : Prop where
  fb : F b
  fk : F kb
  fi : F ib
  fo : F ob
  head : Blk w b 43 [.slice (some ⟨kb, 0, none⟩) S.kept.length ck, .slice (some ⟨ib, 0, none⟩) S.kept.length ci, vw, .int .i64 S.room, .int .i64 S.cut, .bool S.off, .slice (some ⟨ob, 0, none⟩) 3 3]
  kept : Blk w kb 22 (kv ++ spk)
  kvn : kv.length = S.kept.length
  krow : ∀ (i : Nat) (xs : List Int), S.kept[i]? = some xs → ∃ v, kv[i]? = some v ∧ BRow F w v xs
  inn : Blk w ib 4 (S.inn.map Value.bool ++ spi)
  wait : WRow F w vw ps
  psn : ps.length = S.waits.length
  wrow : ∀ (i : Nat) (p : Int × List Int), S.waits[i]? = some p → ∃ v, ps[i]? = some (p.1, v) ∧ BRow F w v p.2
  ops : Blk w ob 3 (i64s S.ops)
  fin : ∀ k, F k → k < w.heap.size

def RD (F : Nat → Prop) (w : World) (b : Nat) (S : DS) : Prop := DWf S ∧ ∃ kb ib ob ck ci spk spi vw kv ps, RDAt F w b S kb ib ob ck ci spk spi vw kv ps

theorem RD.of {F : Nat → Prop} {w : World} {b : Nat} {S : DS} {kb ib ob ck ci : Nat} {spk spi : List Value} {vw : Value} {kv : List Value} {ps : List (Int × Value)} (h0 : DWf S) (h : RDAt F w b S kb ib ob ck ci spk spi vw kv ps) : RD F w b S :=
  ⟨h0, kb, ib, ob, ck, ci, spk, spi, vw, kv, ps, h⟩
theorem RDAt.keep {F : Nat → Prop} {w w' : World} {b : Nat} {S : DS} {kb ib ob ck ci : Nat} {spk spi : List Value} {vw : Value} {kv : List Value} {ps : List (Int × Value)} (h : RDAt F w b S kb ib ob ck ci spk spi vw kv ps)
    (hs : w.heap.size ≤ w'.heap.size) (e : ∀ k, F k → w'.heap[k]? = w.heap[k]?) : RDAt F w' b S kb ib ob ck ci spk spi vw kv ps :=
  ⟨h.fb, h.fk, h.fi, h.fo, h.head.kept (e _ h.fb), h.kept.kept (e _ h.fk), h.kvn, fun i xs hi => by obtain ⟨v, h1, h2⟩ := h.krow i xs hi; exact ⟨v, h1, h2.kept (fun g hg _ => e g hg)⟩,
    h.inn.kept (e _ h.fi), h.wait.kept (fun g hg _ => e g hg), h.psn, fun i p hi => by obtain ⟨v, h1, h2⟩ := h.wrow i p hi; exact ⟨v, h1, h2.kept (fun g hg _ => e g hg)⟩,
    h.ops.kept (e _ h.fo), fun k hk => Nat.lt_of_lt_of_le (h.fin k hk) hs⟩
theorem RD.keep {F : Nat → Prop} {w w' : World} {b : Nat} {S : DS} (h : RD F w b S) (hs : w.heap.size ≤ w'.heap.size) (e : ∀ k, F k → w'.heap[k]? = w.heap[k]?) : RD F w' b S := by
  obtain ⟨h0, kb, ib, ob, ck, ci, spk, spi, vw, kv, ps, h⟩ := h
  exact ⟨h0, kb, ib, ob, ck, ci, spk, spi, vw, kv, ps, h.keep hs e⟩
theorem RD.fin {F : Nat → Prop} {w : World} {b : Nat} {S : DS} (h : RD F w b S) {k : Nat} (hk : F k) : k < w.heap.size := by
  obtain ⟨h0, kb, ib, ob, ck, ci, spk, spi, vw, kv, ps, h⟩ := h
  exact h.fin k hk
theorem RDAt.mono {F G : Nat → Prop} {w : World} {b : Nat} {S : DS} {kb ib ob ck ci : Nat} {spk spi : List Value} {vw : Value} {kv : List Value} {ps : List (Int × Value)} (h : RDAt F w b S kb ib ob ck ci spk spi vw kv ps)
    (up : ∀ k, k < w.heap.size → F k → G k) (hG : ∀ k, G k → k < w.heap.size) : RDAt G w b S kb ib ob ck ci spk spi vw kv ps :=
  ⟨up _ h.head.lt h.fb, up _ h.kept.lt h.fk, up _ h.inn.lt h.fi, up _ h.ops.lt h.fo, h.head, h.kept, h.kvn,
    fun i xs hi => by obtain ⟨v, h1, h2⟩ := h.krow i xs hi; exact ⟨v, h1, h2.mono up⟩, h.inn, h.wait.mono up, h.psn,
    fun i p hi => by obtain ⟨v, h1, h2⟩ := h.wrow i p hi; exact ⟨v, h1, h2.mono up⟩, h.ops, hG⟩
theorem RD.mono {F G : Nat → Prop} {w : World} {b : Nat} {S : DS} (h : RD F w b S) (hs : ∀ k, k < w.heap.size → F k → G k) (hG : ∀ k, G k → k < w.heap.size) : RD G w b S := by
  obtain ⟨h0, kb, ib, ob, ck, ci, spk, spi, vw, kv, ps, h⟩ := h
  exact RD.of h0 (h.mono hs hG)
/-- What happens elsewhere leaves a disk as it is. -/
theorem RD.only {F G : Nat → Prop} {w w' : World} {b : Nat} {S : DS} (h : RD F w b S) (ho : Only G w w') (hd : ∀ k, F k → ¬ G k) : RD F w' b S :=
  h.keep ho.size (fun k hk => ho.block k (h.fin hk) (hd k hk))

/-! What is asked of a disk. -/
def DS.waitsFor (S : DS) (n : Int) : Bool := S.waits.any fun p => p.1 == n
def DS.isUse (S : DS) (n : Int) : Bool := S.waitsFor n || S.inn.getD n.toNat false
end Go.Proofs.Ythdclncgmhgmfaa
