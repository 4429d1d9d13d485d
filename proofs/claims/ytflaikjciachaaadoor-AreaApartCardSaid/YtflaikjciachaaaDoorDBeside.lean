/- What stands beside what is written stays; plainly. -/
import Derived.Test.YtflaikjciachaaaDoorM5
namespace Go.Proofs.YtflaikjciachaaaDoor
set_option maxRecDepth 100000
open Go.RowKit Go.Deep
set_option linter.unusedSimpArgs false
set_option linter.unusedVariables false

theorem at_same {S T : DS} (hw : S.waits = T.waits) (hk : S.kept = T.kept) (q : Nat) : S.at_ q = T.at_ q := by
  unfold DS.at_; rw [hw, hk]
theorem at_put (S : DS) (n : Nat) (bs : List Int) (q : Nat) : (S.put n bs).at_ q = if q = n then bs else S.at_ q := by
  unfold DS.at_ DS.put
  simp only [List.reverse_append, List.reverse_cons, List.reverse_nil, List.nil_append, List.cons_append, List.find?_cons]
  by_cases h : q = n
  · subst h
    simp
  · have : ((n : Int) == (q : Int)) = false := by simp; omega
    simp [this, h]
theorem foldl_at (q : Nat) : ∀ (ws : List (Int × List Int)) (K : List (List Int)), q < K.length → (∀ p ∈ ws, 0 ≤ p.1) →
    (ws.foldl (fun l p => l.set p.1.toNat p.2) K).getD q [] = match ws.reverse.find? (fun p => p.1 == (q : Int)) with | some p => p.2 | none => K.getD q []
  | [], K, _, _ => rfl
  | p :: ws, K, hq, hp => by
    rw [List.foldl_cons, foldl_at q ws (K.set p.1.toNat p.2) (by rw [List.length_set]; exact hq) (fun x hx => hp x (List.mem_cons_of_mem _ hx)), List.reverse_cons, List.find?_append]
    cases hf : ws.reverse.find? (fun p => p.1 == (q : Int)) with
    | some x => simp
    | none =>
      have h0 := hp p List.mem_cons_self
      by_cases h : p.1 = (q : Int)
      · have e : p.1.toNat = q := by omega
        simp [h, List.getD, hq]
      · have e : ¬ p.1.toNat = q := by omega
        have : (p.1 == (q : Int)) = false := by simpa using h
        simp [this, List.getD, List.getElem?_set_ne e]
theorem at_flushed {S : DS} (h : ∀ p ∈ S.waits, 0 ≤ p.1) {q : Nat} (hq : q < S.kept.length) : S.flushed.at_ q = S.at_ q := by
  have e1 : S.flushed.waits = [] := rfl
  have e2 : S.flushed.kept = S.waits.foldl (fun l p => l.set p.1.toNat p.2) S.kept := by
    show (S.waits.take S.waits.length).foldl _ S.kept = _
    rw [List.take_length]
  unfold DS.at_
  rw [e1, e2, foldl_at q S.waits S.kept hq h]
  rfl
theorem goes_at (S : DS) (k q : Nat) : (S.goes k).1.at_ q = S.at_ q := at_same (goes_len S k).2.2.1 (goes_len S k).1 q
theorem goes_on8 {S : DS} (hc : S.cut = -1) (k : Nat) : S.goes k = (S.count k, false) := by
  unfold DS.goes; rw [hc, if_pos (by omega)]
/-- A disk of which no sector can be missing: as many may come in use as there are. -/
theorem used_lt {S : DS} {n : Nat} (hn : n < S.kept.length) (hu : S.isUse (n : Int) = false) : S.used < S.kept.length := by
  unfold DS.used usedTo
  have h1 := List.countP_le_length (p := fun (i : Nat) => S.isUse (i : Int)) (l := List.range S.kept.length)
  rw [List.length_range] at h1
  rcases Nat.lt_or_ge ((List.range S.kept.length).countP fun (i : Nat) => S.isUse (i : Int)) S.kept.length with h | h
  · exact h
  · have h2 : (List.range S.kept.length).countP (fun (i : Nat) => S.isUse (i : Int)) = (List.range S.kept.length).length := by rw [List.length_range]; omega
    have := List.countP_eq_length.1 h2 n (List.mem_range.2 hn)
    rw [hu] at this
    exact absurd this (by decide)

/-- The power stays. -/
def Steady (S : DS) : Prop := S.off = false ∧ S.cut = -1
theorem Steady.write {S : DS} (h : Steady S) (n : Int) (bs : List Int) : Steady (S.writeOf n bs).2 := by
  unfold DS.writeOf
  rw [if_neg (by rw [h.1]; decide)]
  split
  · exact h
  · split
    · exact h
    · rw [goes_on8 (show (S.put n.toNat bs).cut = -1 from h.2)]
      exact ⟨h.1, h.2⟩
theorem Steady.flush {S : DS} (h : Steady S) : Steady S.flushOf.2 := by
  unfold DS.flushOf
  rw [if_neg (by rw [h.1]; decide), goes_on8 h.2]
  rw [if_neg (show ¬ (false = true) by decide)]
  exact ⟨h.1, h.2⟩
theorem write_at {S : DS} (n : Int) (bs : List Int) (q : Nat) (hq : (q : Int) ≠ n) : (S.writeOf n bs).2.at_ q = S.at_ q := by
  unfold DS.writeOf
  split
  · rfl
  · split
    · rfl
    · split
      · rfl
      · next h1 h2 h3 =>
        show ((S.put n.toNat bs).goes 1).1.at_ q = _
        rw [goes_at, at_put, if_neg (by omega)]
theorem write_in {S : DS} (h : Steady S) {n : Nat} (bs : List Int) (hn : n < S.kept.length) (hroom : (S.kept.length : Int) ≤ S.room) : (S.writeOf (n : Int) bs).1 = 0 ∧ (S.writeOf (n : Int) bs).2.at_ n = bs ∧ (S.writeOf (n : Int) bs).2.room = S.room := by
  have hnf : ¬ (S.isUse (n : Int) = false ∧ S.room ≤ (S.used : Int)) := fun hh => by have := used_lt hn hh.1; omega
  unfold DS.writeOf
  rw [if_neg (by rw [h.1]; decide), if_neg (by omega), if_neg hnf, goes_on8 (show (S.put (n : Int).toNat bs).cut = -1 from h.2)]
  refine ⟨rfl, ?_, rfl⟩
  show ((S.put (n : Int).toNat bs).count 1).at_ n = bs
  rw [at_same (S := (S.put (n : Int).toNat bs).count 1) (T := S.put (n : Int).toNat bs) rfl rfl n, at_put, if_pos (by omega)]
theorem write_room (S : DS) (n : Int) (bs : List Int) : (S.writeOf n bs).2.room = S.room := by
  unfold DS.writeOf
  split
  · rfl
  · split
    · rfl
    · split
      · rfl
      · show ((S.put n.toNat bs).goes 1).1.room = _
        rw [(goes_len (S.put n.toNat bs) 1).2.2.2]; rfl
theorem flush_zero {S : DS} (h : Steady S) : S.flushOf.1 = 0 := by
  unfold DS.flushOf
  rw [if_neg (by rw [h.1]; decide), goes_on8 h.2, if_neg (show ¬ (false = true) by decide)]
theorem flush_at {S : DS} (hw : DWf S) {q : Nat} (hq : q < S.kept.length) : S.flushOf.2.at_ q = S.at_ q := by
  unfold DS.flushOf
  split
  · rfl
  · split
    · exact goes_at S 2 q
    · show (S.goes 2).1.flushed.at_ q = _
      rw [at_flushed (by rw [(goes_len S 2).2.2.1]; exact fun p hp => (hw.wts p hp).1) (by rw [(goes_len S 2).1]; exact hq)]
      exact goes_at S 2 q
theorem Steady.arWrite {S : DS} (h : Steady S) (f m n : Int) (bs : List Int) : Steady (S.arWrite f m n bs).2 := by
  unfold DS.arWrite
  split
  · exact h
  · exact h.write _ _
theorem arWrite_at {S : DS} (f m n : Int) (bs : List Int) (q : Nat) (hq : ¬ (f ≤ (q : Int) ∧ (q : Int) - f < m)) : (S.arWrite f m n bs).2.at_ q = S.at_ q := by
  unfold DS.arWrite
  split
  · rfl
  · exact write_at _ _ _ (fun e => hq (by omega))
theorem Steady.arPut {S : DS} (h : Steady S) (f m n kind num : Int) (load : List Int) : Steady (S.arPut f m n kind num load).2 := by
  unfold DS.arPut
  split
  · exact h.arWrite f m n _
  · exact h
theorem arPut_at {S : DS} (f m n kind num : Int) (load : List Int) (q : Nat) (hq : ¬ (f ≤ (q : Int) ∧ (q : Int) - f < m)) : (S.arPut f m n kind num load).2.at_ q = S.at_ q := by
  unfold DS.arPut
  split
  · exact arWrite_at f m n _ q hq
  · rfl
theorem read_in {S : DS} (h : Steady S) {n : Nat} (hn : n < S.kept.length) : S.readOf (n : Int) = (S.at_ n, 0, S.count 0) := by
  unfold DS.readOf
  rw [if_neg (by rw [h.1]; decide), if_neg (by omega)]
  rfl
end Go.Proofs.YtflaikjciachaaaDoor
