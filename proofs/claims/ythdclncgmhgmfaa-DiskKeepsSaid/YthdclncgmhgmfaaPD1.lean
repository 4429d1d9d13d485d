/- The program's disk: how it lies in memory. -/
import Derived.Test.YthdclncgmhgmfaaFull
import Derived.Test.YthdclncgmhgmfaaMet1
namespace Go.Proofs.Ythdclncgmhgmfaa
open Go.RowKit Go.Deep
set_option linter.unusedSimpArgs false
set_option linter.unusedVariables false

/-- Of some pieces, the first of which is the one behind k others, the place of the last one for sector i, from 1 on; 0 if there is none. -/
def lastOf : List (Int × List Int) → Nat → Nat → Nat
  | [], _, _ => 0
  | p :: r, k, i => if lastOf r (k + 1) i = 0 then (if p.1 = (i : Int) then k + 1 else 0) else lastOf r (k + 1) i

theorem lastOf_gt (ws : List (Int × List Int)) (k i : Nat) : lastOf ws k i = 0 ∨ k < lastOf ws k i := by
  induction ws generalizing k with
  | nil => exact Or.inl rfl
  | cons p r ih =>
    unfold lastOf
    rcases ih (k + 1) with h | h
    · rw [if_pos h]; split <;> omega
    · rw [if_neg (by omega)]; omega
theorem lastOf_le (ws : List (Int × List Int)) (k i : Nat) : lastOf ws k i ≤ k + ws.length := by
  induction ws generalizing k with
  | nil => exact Nat.zero_le _
  | cons p r ih =>
    have := ih (k + 1)
    unfold lastOf
    split
    · split <;> simp
    · simp; omega
theorem lastOf_zero (ws : List (Int × List Int)) (k i : Nat) : lastOf ws k i = 0 ↔ ws.any (fun p => p.1 == (i : Int)) = false := by
  induction ws generalizing k with
  | nil => simp [lastOf]
  | cons p r ih =>
    have := ih (k + 1)
    unfold lastOf
    rw [List.any_cons]
    by_cases h : lastOf r (k + 1) i = 0
    · rw [if_pos h, this.1 h]
      by_cases hp : p.1 = (i : Int)
      · rw [if_pos hp]; simp [hp]
      · rw [if_neg hp]; simp [hp]
    · rw [if_neg h]
      have h2 : r.any (fun p => p.1 == (i : Int)) = true := by
        cases e : r.any (fun p => p.1 == (i : Int))
        · exact absurd (this.2 e) h
        · rfl
      rw [h2]; simp [h]
theorem lastOf_snoc (ws : List (Int × List Int)) (p : Int × List Int) (k i : Nat) : lastOf (ws ++ [p]) k i = if p.1 = (i : Int) then k + ws.length + 1 else lastOf ws k i := by
  induction ws generalizing k with
  | nil => simp [lastOf]
  | cons q r ih =>
    rw [List.cons_append]
    unfold lastOf
    rw [ih (k + 1)]
    by_cases hp : p.1 = (i : Int)
    · rw [if_pos hp, if_pos hp, if_neg (by omega)]; simp; omega
    · rw [if_neg hp, if_neg hp]
/-- The last piece is the one that is read. -/
theorem lastOf_find (ws : List (Int × List Int)) (k i : Nat) (h : lastOf ws k i ≠ 0) : ∃ p, ws[lastOf ws k i - (k + 1)]? = some p ∧ p.1 = (i : Int) ∧ ws.reverse.find? (fun p => p.1 == (i : Int)) = some p := by
  induction ws generalizing k with
  | nil => exact absurd rfl h
  | cons q r ih =>
    have hg := lastOf_gt r (k + 1) i
    by_cases h1 : lastOf r (k + 1) i = 0
    · have e : lastOf (q :: r) k i = if q.1 = (i : Int) then k + 1 else 0 := by
        conv => lhs; unfold lastOf
        rw [if_pos h1]
      by_cases hq : q.1 = (i : Int)
      · rw [if_pos hq] at e
        refine ⟨q, by rw [e, Nat.sub_self]; rfl, hq, ?_⟩
        rw [List.reverse_cons, List.find?_append, find_none_of _ ((lastOf_zero r (k + 1) i).1 h1)]
        simp [hq]
      · rw [if_neg hq] at e; exact absurd e h
    · have e : lastOf (q :: r) k i = lastOf r (k + 1) i := by
        conv => lhs; unfold lastOf
        rw [if_neg h1]
      obtain ⟨p, h2, h3, h4⟩ := ih (k + 1) h1
      refine ⟨p, ?_, h3, ?_⟩
      · rw [e, show lastOf r (k + 1) i - (k + 1) = (lastOf r (k + 1) i - (k + 1 + 1)) + 1 by omega, List.getElem?_cons_succ]; exact h2
      · rw [List.reverse_cons, List.find?_append, h4]; rfl
/-- What waits behind the first piece. -/
theorem lastOf_drop (ws : List (Int × List Int)) (p : Int × List Int) (k i : Nat) (h : ws[k]? = some p) (hp : p.1 ≠ (i : Int)) : lastOf (ws.drop k) k i = lastOf (ws.drop (k + 1)) (k + 1) i := by
  have hk := (List.getElem?_eq_some_iff.1 h).1
  have e : ws.drop k = p :: ws.drop (k + 1) := by
    rw [List.drop_eq_getElem_cons hk]; congr 1
    exact Option.some.inj ((List.getElem?_eq_getElem hk).symm.trans h)
  rw [e]
  conv => lhs; unfold lastOf
  by_cases h0 : lastOf (ws.drop (k + 1)) (k + 1) i = 0
  · rw [if_pos h0, if_neg hp, h0]
  · rw [if_neg h0]
theorem lastOf_here (ws : List (Int × List Int)) (p : Int × List Int) (k i : Nat) (h : ws[k]? = some p) (hp : p.1 = (i : Int)) :
    (lastOf (ws.drop k) k i = k + 1 ∧ lastOf (ws.drop (k + 1)) (k + 1) i = 0) ∨ (lastOf (ws.drop k) k i ≠ k + 1 ∧ lastOf (ws.drop k) k i ≠ 0 ∧ lastOf (ws.drop k) k i = lastOf (ws.drop (k + 1)) (k + 1) i) := by
  have hk := (List.getElem?_eq_some_iff.1 h).1
  have e : ws.drop k = p :: ws.drop (k + 1) := by
    rw [List.drop_eq_getElem_cons hk]; congr 1
    exact Option.some.inj ((List.getElem?_eq_getElem hk).symm.trans h)
  have hg := lastOf_gt (ws.drop (k + 1)) (k + 1) i
  have e2 : lastOf (ws.drop k) k i = if lastOf (ws.drop (k + 1)) (k + 1) i = 0 then k + 1 else lastOf (ws.drop (k + 1)) (k + 1) i := by
    rw [e]
    conv => lhs; unfold lastOf
    rw [if_pos hp]
  by_cases h0 : lastOf (ws.drop (k + 1)) (k + 1) i = 0
  · rw [if_pos h0] at e2; exact Or.inl ⟨e2, h0⟩
  · rw [if_neg h0] at e2; exact Or.inr ⟨by omega, by omega, e2⟩

/-! Pieces, one behind the other. -/
def pieceCells (p : Int × List Int) : List Value := .int .i64 p.1 :: u8s p.2
def flatP (ps : List (Int × List Int)) : List Value := ps.flatMap pieceCells
theorem pieceCells_len {p : Int × List Int} (h : p.2.length = 128) : (pieceCells p).length = 129 := by simp [pieceCells, h]
theorem flatP_cons (p : Int × List Int) (ps : List (Int × List Int)) : flatP (p :: ps) = pieceCells p ++ flatP ps := rfl
theorem flatP_snoc (ps : List (Int × List Int)) (p : Int × List Int) : flatP (ps ++ [p]) = flatP ps ++ pieceCells p := by simp [flatP]
theorem flatP_len {ps : List (Int × List Int)} (h : ∀ p ∈ ps, p.2.length = 128) : (flatP ps).length = ps.length * 129 := by
  induction ps with
  | nil => rfl
  | cons p ps ih =>
    rw [flatP_cons, List.length_append, ih (fun q hq => h q (by simp [hq])), pieceCells_len (h p (by simp))]
    simp; omega
theorem flatP_at {ps : List (Int × List Int)} (h : ∀ p ∈ ps, p.2.length = 128) {i : Nat} {p : Int × List Int} (hi : ps[i]? = some p) {j : Nat} {v : Value} (hj : (pieceCells p)[j]? = some v) : (flatP ps)[i * 129 + j]? = some v := by
  induction ps generalizing i with
  | nil => simp at hi
  | cons q ps ih =>
    have hq := pieceCells_len (h q (by simp))
    rw [flatP_cons]
    cases i with
    | zero =>
      simp at hi; subst hi
      rw [List.getElem?_append_left (by have := (List.getElem?_eq_some_iff.1 hj).1; omega), Nat.zero_mul, Nat.zero_add]; exact hj
    | succ i =>
      rw [List.getElem?_append_right (by omega), hq, show (i + 1) * 129 + j - 129 = i * 129 + j by omega]
      exact ih (fun r hr => h r (by simp [hr])) (by simpa using hi)

/-- The pieces that wait: a slice of them, or none yet. -/
def PRow (F : Nat → Prop) (w : World) (vw : Value) (ps : List (Int × List Int)) : Prop :=
  (vw = .slice none 0 0 ∧ ps = []) ∨ ∃ g cap sp, vw = .slice (some ⟨g, 0, none⟩) ps.length cap ∧ F g ∧ ps.length ≤ cap ∧ cap ≤ maxLen ∧ Blk w g 87 (flatP ps ++ sp) ∧ (flatP ps ++ sp).length = cap * 129 ∧ ∀ p ∈ ps, p.2.length = 128

theorem PRow.form {F : Nat → Prop} {w : World} {vw : Value} {ps : List (Int × List Int)} (h : PRow F w vw ps) :
    ∃ A c, vw = .slice A ps.length c ∧ ps.length ≤ 9223372036854775807 ∧ ∀ i p, ps[i]? = some p → ∃ g, A = some ⟨g, 0, none⟩ ∧ F g ∧ p.2.length = 128 ∧ w.rangeAt g (i * 129) (pieceCells p) ∧ w.rangeAt g (i * 129 + 1) (u8s p.2) ∧ (∃ vs, Blk w g 87 vs) := by
  rcases h with ⟨rfl, rfl⟩ | ⟨g, cap, sp, rfl, hF, h1, h2, hb, _, hl⟩
  · exact ⟨none, 0, rfl, by simp, fun i p h => by simp at h⟩
  · refine ⟨_, _, rfl, by simp only [maxLen] at h2; omega, fun i p hp => ⟨g, rfl, hF, hl p (List.mem_of_getElem? hp), ?_, ?_, _, hb⟩⟩
    · intro j v hj
      have h3 := flatP_at hl hp hj
      exact hb.cell (by rw [List.getElem?_append_left (List.getElem?_eq_some_iff.1 h3).1]; exact h3)
    · intro j v hj
      have h3 := flatP_at hl hp (j := j + 1) (v := v) (by unfold pieceCells; rw [List.getElem?_cons_succ]; exact hj)
      rw [show i * 129 + 1 + j = i * 129 + (j + 1) by omega]
      exact hb.cell (by rw [List.getElem?_append_left (List.getElem?_eq_some_iff.1 h3).1]; exact h3)
theorem PRow.kept {F : Nat → Prop} {w w' : World} {v : Value} {ps : List (Int × List Int)} (h : PRow F w v ps) (e : ∀ g, F g → (∃ vs, Blk w g 87 vs) → w'.heap[g]? = w.heap[g]?) : PRow F w' v ps := by
  rcases h with h | ⟨g, cap, sp, h1, h2, h3, h4, h5, h6⟩
  · exact Or.inl h
  · exact Or.inr ⟨g, cap, sp, h1, h2, h3, h4, h5.kept (e g h2 ⟨_, h5⟩), h6⟩
theorem PRow.mono {F G : Nat → Prop} {w : World} {v : Value} {ps : List (Int × List Int)} (h : PRow F w v ps) (hs : ∀ k, k < w.heap.size → F k → G k) : PRow G w v ps := by
  rcases h with h | ⟨g, cap, sp, h1, h2, h3, h4, h5, h6⟩
  · exact Or.inl h
  · exact Or.inr ⟨g, cap, sp, h1, hs g h5.lt h2, h3, h4, h5, h6⟩
theorem PRow.own {F : Nat → Prop} {w : World} {v : Value} {ps : List (Int × List Int)} (h : PRow F w v ps) : w.ownsRow 0 87 129 v ps.length (flatP ps) := by
  rcases h with ⟨h1, h2⟩ | ⟨g, cap, sp, h1, h2, h3, h4, h5, h6, h7⟩
  · subst h2
    exact ⟨rfl, Or.inl ⟨h1, rfl⟩⟩
  · have hl := flatP_len h7
    refine ⟨hl, Or.inr ⟨g, cap, _, h1, Nat.zero_le _, h5, h3, h4, ?_, ?_⟩⟩
    · rw [List.size_toArray]; exact h6
    · rw [show (flatP ps ++ sp).toArray.toList = flatP ps ++ sp by simp]
      rw [List.take_append_of_le_length (by omega), List.take_of_length_le (by omega)]
theorem PRow.of_own {F : Nat → Prop} {w : World} {base : Nat} {v : Value} {ps : List (Int × List Int)} {n : Nat} (h : w.ownsRow base 87 129 v n (flatP ps)) (hp : ∀ p ∈ ps, p.2.length = 128) (hF : ∀ k, v.ownBlock = some k → F k) : PRow F w v ps := by
  have hl : n = ps.length := by have := h.1; rw [flatP_len hp] at this; omega
  subst hl
  rcases h.2 with ⟨h1, h2⟩ | ⟨g, cap, cur, h1, _, hg, h3, h4, h5, h6⟩
  · exact Or.inl ⟨h1, List.eq_nil_of_length_eq_zero h2⟩
  · refine Or.inr ⟨g, cap, cur.toList.drop (ps.length * 129), h1, hF g (by rw [h1]; rfl), h3, h4, ?_, ?_, hp⟩
    · unfold Blk; rw [hg, ← h6, List.take_append_drop]
    · rw [← h6, List.take_append_drop]; simpa using h5

/-! Sectors. -/
/-- The cells of the sectors, place by place. -/
structure SecsOf (vs : List Value) (S : DS) (k : Nat) : Prop where
  len : vs.length = S.kept.length * 130
  kept : ∀ (i : Nat) (r : List Int), S.kept[i]? = some r → ∀ (j : Nat) (u : Int), r[j]? = some u → vs[i * 130 + j]? = some (.int .u8 u)
  used : ∀ (i : Nat) (u : Bool), S.inn[i]? = some u → vs[i * 130 + 128]? = some (.bool u)
  last : ∀ i, i < S.kept.length → vs[i * 130 + 129]? = some (.int .i64 (lastOf S.waits k i : Int))

theorem put_at (vs cs : List Value) (o x : Nat) (h : o + cs.length ≤ vs.length) : (vs.take o ++ cs ++ vs.drop (o + cs.length))[x]? = if o ≤ x ∧ x < o + cs.length then cs[x - o]? else vs[x]? := by
  have h1 : (vs.take o).length = o := by rw [List.length_take]; omega
  by_cases hx : x < o
  · rw [if_neg (by omega), List.append_assoc, List.getElem?_append_left (by omega), List.getElem?_take, if_pos hx]
  · by_cases hx2 : x < o + cs.length
    · rw [if_pos ⟨by omega, hx2⟩, List.append_assoc, List.getElem?_append_right (by omega), h1, List.getElem?_append_left (by omega)]
    · rw [if_neg (by omega), List.append_assoc, List.getElem?_append_right (by omega), h1, List.getElem?_append_right (by omega), List.getElem?_drop]
      congr 1; omega
theorem set_at (vs : List Value) (o x : Nat) (v : Value) (h : o < vs.length) : (vs.set o v)[x]? = if x = o then some v else vs[x]? := by
  by_cases hx : x = o
  · subst hx; rw [if_pos rfl, List.getElem?_set_self h]
  · rw [if_neg hx, List.getElem?_set_ne (fun e => hx e.symm)]

/-- The program's disk at b: S is its disk behind the first k of the pieces ws. -/
structure PDAt (F : Nat → Prop) (w : World) (b : Nat) (S : DS) (k : Nat) (ws : List (Int × List Int)) (sb mb : Nat) (vs : List Value) (vw : Value) (c : Int) (L : List Int) : Prop where
  fb : F b
  fs : F sb
  fm : F mb
  head : Blk w b 63 [.slice (some ⟨sb, 0, none⟩) S.kept.length S.kept.length, vw, .int .i64 (S.room - (S.used : Int)), .int .i64 c, .bool S.off, .pointer (some ⟨mb, 0, none⟩)]
  sect : Blk w sb 70 vs
  secs : SecsOf vs S k
  wait : PRow F w vw ws
  drop : S.waits = ws.drop k
  use : (S.used : Int) ≤ S.room
  cut0 : -9223372036854775808 ≤ c
  cut1 : c ≤ 9223372036854775807
  cut : S.off = false → S.cut = if c < 0 then -1 else c
  met : PMet w mb L
  ops : L.take 3 = S.ops

/-- How the program's disk lies in memory. -/
def PDrep (F : Nat → Prop) (w : World) (b : Nat) (S : DS) : Prop := ∃ sb mb vs vw c L, PDAt F w b S 0 S.waits sb mb vs vw c L

theorem PDAt.keep {F : Nat → Prop} {w w' : World} {b : Nat} {S : DS} {k : Nat} {ws : List (Int × List Int)} {sb mb : Nat} {vs : List Value} {vw : Value} {c : Int} {L : List Int} (h : PDAt F w b S k ws sb mb vs vw c L)
    (e : ∀ k, F k → w'.heap[k]? = w.heap[k]?) : PDAt F w' b S k ws sb mb vs vw c L :=
  ⟨h.fb, h.fs, h.fm, h.head.kept (e _ h.fb), h.sect.kept (e _ h.fs), h.secs, h.wait.kept (fun g hg _ => e g hg), h.drop, h.use, h.cut0, h.cut1, h.cut, h.met.kept (e _ h.fm), h.ops⟩
theorem PDAt.mono {F G : Nat → Prop} {w : World} {b : Nat} {S : DS} {k : Nat} {ws : List (Int × List Int)} {sb mb : Nat} {vs : List Value} {vw : Value} {c : Int} {L : List Int} (h : PDAt F w b S k ws sb mb vs vw c L)
    (hs : ∀ k, k < w.heap.size → F k → G k) : PDAt G w b S k ws sb mb vs vw c L :=
  ⟨hs _ h.head.lt h.fb, hs _ h.sect.lt h.fs, hs _ h.met.lt h.fm, h.head, h.sect, h.secs, h.wait.mono hs, h.drop, h.use, h.cut0, h.cut1, h.cut, h.met, h.ops⟩

/-- The program's disk at b. -/
def PD (F : Nat → Prop) (w : World) (b : Nat) (S : DS) : Prop := DWf S ∧ F b ∧ (∀ k, F k → k < w.heap.size) ∧ PDrep F w b S
theorem PD.wf {F : Nat → Prop} {w : World} {b : Nat} {S : DS} (h : PD F w b S) : DWf S := h.1
theorem PD.fin {F : Nat → Prop} {w : World} {b : Nat} {S : DS} (h : PD F w b S) {k : Nat} (hk : F k) : k < w.heap.size := h.2.2.1 k hk
theorem PD.keep {F : Nat → Prop} {w w' : World} {b : Nat} {S : DS} (h : PD F w b S) (hs : w.heap.size ≤ w'.heap.size) (e : ∀ k, F k → w'.heap[k]? = w.heap[k]?) : PD F w' b S := by
  obtain ⟨h1, h2, h3, sb, mb, vs, vw, c, L, h⟩ := h
  exact ⟨h1, h2, fun k hk => Nat.lt_of_lt_of_le (h3 k hk) hs, sb, mb, vs, vw, c, L, h.keep e⟩
theorem PD.only {F G : Nat → Prop} {w w' : World} {b : Nat} {S : DS} (h : PD F w b S) (ho : Only G w w') (hd : ∀ k, F k → ¬ G k) : PD F w' b S :=
  h.keep ho.size (fun k hk => ho.block k (h.fin hk) (hd k hk))
theorem PD.drew {F : Nat → Prop} {w : World} {b : Nat} {S : DS} (h : PD F w b S) : PD F w.drew b S := h.keep (Nat.le_refl _) (fun _ _ => rfl)
theorem PD.drewN {F : Nat → Prop} {w : World} {b : Nat} {S : DS} (h : PD F w b S) (n : Nat) : PD F (w.drewN n) b S := h.keep (Nat.le_refl _) (fun _ _ => rfl)
theorem PD.mono' {F G : Nat → Prop} {w : World} {b : Nat} {S : DS} (h : PD F w b S) (hs : ∀ k, F k → G k) (hG : ∀ k, G k → k < w.heap.size) : PD G w b S := by
  obtain ⟨h1, h2, h3, sb, mb, vs, vw, c, L, h⟩ := h
  exact ⟨h1, hs _ h2, hG, sb, mb, vs, vw, c, L, h.mono (fun k _ hk => hs k hk)⟩
abbrev Nothing : Nat → Prop := fun _ => False
theorem Only.none_ (w : World) : Only Nothing w w := Only.refl _ _
end Go.Proofs.Ythdclncgmhgmfaa
