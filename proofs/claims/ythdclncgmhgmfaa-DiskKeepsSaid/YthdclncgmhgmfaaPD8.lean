/- The program's disk: what settles, piece by piece. -/
import Derived.Test.YthdclncgmhgmfaaPD7
namespace Go.Proofs.Ythdclncgmhgmfaa
open Go.RowKit Go.Deep
set_option linter.unusedSimpArgs false
set_option linter.unusedVariables false

/-- The disk behind the first k of its pieces. -/
def DS.mid (S : DS) (cs : List Int) (k : Nat) : DS := { S.crashTo cs k with waits := S.waits.drop k }
theorem mid_zero (S : DS) (cs : List Int) : S.mid cs 0 = S := by cases S; rfl
theorem DWf.crashTo {S : DS} (h : DWf S) (cs : List Int) (k : Nat) : DWf (S.crashTo cs k) := by
  induction k with
  | zero => exact h
  | succ k ih =>
    unfold DS.crashTo
    split
    · next p hp =>
      exact ih.crash1 (by rw [(crashTo_same S cs k).1]; exact List.mem_of_getElem? hp) (cutAt_le _ _)
    · exact ih
theorem DWf.mid {S : DS} (h : DWf S) (cs : List Int) (k : Nat) : DWf (S.mid cs k) := by
  have h1 := h.crashTo cs k
  refine ⟨h1.n1, h1.n2, h1.ninn, h1.rows, fun p hp => h1.wts p ?_, h1.room0, h1.room1, h1.cut0, h1.cut1, h1.ops3, h1.opsr⟩
  rw [(crashTo_same S cs k).1]; exact List.mem_of_mem_drop hp
theorem crashTo_rest (S : DS) (cs : List Int) (k : Nat) : (S.crashTo cs k).room = S.room ∧ (S.crashTo cs k).ops = S.ops ∧ (S.crashTo cs k).cut = S.cut ∧ (S.crashTo cs k).off = S.off := by
  induction k with
  | zero => exact ⟨rfl, rfl, rfl, rfl⟩
  | succ k ih =>
    unfold DS.crashTo
    split
    · unfold DS.crash1; split <;> exact ih
    · exact ih
theorem mid_rest (S : DS) (cs : List Int) (k : Nat) : (S.mid cs k).room = S.room ∧ (S.mid cs k).ops = S.ops ∧ (S.mid cs k).cut = S.cut ∧ (S.mid cs k).off = S.off ∧ (S.mid cs k).kept.length = S.kept.length :=
  ⟨(crashTo_rest S cs k).1, (crashTo_rest S cs k).2.1, (crashTo_rest S cs k).2.2.1, (crashTo_rest S cs k).2.2.2, (crashTo_same S cs k).2⟩
theorem mid_kept {S : DS} {cs : List Int} {k i : Nat} {p : Int × List Int} (hp : S.waits[k]? = some p) (hi : p.1.toNat = i) :
    (S.mid cs (k + 1)).kept = if cutAt cs k = 0 then (S.mid cs k).kept else (S.mid cs k).kept.set i (partOf (cutAt cs k) p.2 ((S.mid cs k).kept.getD i [])) := by
  show (S.crashTo cs (k + 1)).kept = _
  rw [crashTo_succ hp]
  unfold DS.crash1
  split <;> (subst hi; rfl)
theorem mid_inn {S : DS} {cs : List Int} {k i : Nat} {p : Int × List Int} (hp : S.waits[k]? = some p) (hi : p.1.toNat = i) :
    (S.mid cs (k + 1)).inn = if cutAt cs k = 0 then (S.mid cs k).inn else (S.mid cs k).inn.set i true := by
  show (S.crashTo cs (k + 1)).inn = _
  rw [crashTo_succ hp]
  unfold DS.crash1
  split <;> (subst hi; rfl)
theorem drop_here {α : Type} {l : List α} {k : Nat} {p : α} (h : l[k]? = some p) : l.drop k = p :: l.drop (k + 1) := by
  have hk := (List.getElem?_eq_some_iff.1 h).1
  rw [List.drop_eq_getElem_cons hk]; congr 1
  exact Option.some.inj ((List.getElem?_eq_getElem hk).symm.trans h)

/-- A sector's cells behind a piece. -/
def keptOr (vs : List Value) (i c : Nat) (bs old : List Int) : List Value := if c = 0 then vs else keptIn vs i (partOf c bs old)
theorem keptOr_len {vs : List Value} {i c : Nat} {bs old : List Int} (hv : i * 130 + 130 ≤ vs.length) (hb : bs.length = 128) (ho : old.length = 128) (hc : c ≤ 128) : (keptOr vs i c bs old).length = vs.length := by
  unfold keptOr; split
  · rfl
  · exact keptIn_len hv (partOf_len hb ho hc)
theorem keptOr_far {vs : List Value} {i c x : Nat} {bs old : List Int} (hv : i * 130 + 130 ≤ vs.length) (hb : bs.length = 128) (ho : old.length = 128) (hc : c ≤ 128) (hx : x < i * 130 ∨ i * 130 + 129 ≤ x) : (keptOr vs i c bs old)[x]? = vs[x]? := by
  unfold keptOr; split
  · rfl
  · rw [keptIn_at hv (partOf_len hb ho hc), if_neg (by omega), if_neg (by omega)]

/-- What the sectors' cells are of behind one more piece, but for where its last piece is told. -/
theorem mid_secs {S : DS} {cs : List Int} {k i : Nat} {p : Int × List Int} {vs : List Value} (hwf : DWf S) (hp : S.waits[k]? = some p) (hi : p.1.toNat = i) (h : SecsOf vs (S.mid cs k) k) :
    (keptOr vs i (cutAt cs k) p.2 ((S.mid cs k).kept.getD i [])).length = (S.mid cs (k + 1)).kept.length * 130 ∧
    (∀ (j : Nat) (r : List Int), (S.mid cs (k + 1)).kept[j]? = some r → ∀ (t : Nat) (u : Int), r[t]? = some u → (keptOr vs i (cutAt cs k) p.2 ((S.mid cs k).kept.getD i []))[j * 130 + t]? = some (.int .u8 u)) ∧
    (∀ (j : Nat) (u : Bool), (S.mid cs (k + 1)).inn[j]? = some u → (keptOr vs i (cutAt cs k) p.2 ((S.mid cs k).kept.getD i []))[j * 130 + 128]? = some (.bool u)) := by
  have hpw := hwf.wts p (List.mem_of_getElem? hp)
  have hK := (mid_rest S cs k).2.2.2.2
  have hK' := (mid_rest S cs (k + 1)).2.2.2.2
  have hwm := hwf.mid cs k
  have hiK : i < S.kept.length := by omega
  have hlen := h.len
  rw [hK] at hlen
  obtain ⟨old, hold⟩ : ∃ old, (S.mid cs k).kept[i]? = some old := ⟨_, List.getElem?_eq_getElem (by rw [hK]; exact hiK)⟩
  have e : (S.mid cs k).kept.getD i [] = old := by simp [List.getD, hold]
  have hol : old.length = 128 := (hwm.rows old (List.mem_of_getElem? hold)).1
  have hcl := cutAt_le cs k
  have hv : i * 130 + 130 ≤ vs.length := by rw [hlen]; omega
  rw [e, mid_kept hp hi, mid_inn hp hi, e]
  refine ⟨by rw [keptOr_len hv hpw.2.2.1 hol hcl, hlen]; split <;> simp [hK], ?_, ?_⟩
  · intro j r hj t u ht
    unfold keptOr
    by_cases hc : cutAt cs k = 0
    · rw [if_pos hc] at hj ⊢
      exact h.kept j r hj t u ht
    · rw [if_neg hc] at hj ⊢
      have hn := partOf_len (m := cutAt cs k) hpw.2.2.1 hol hcl
      rw [keptIn_at hv hn]
      have ht1 := (List.getElem?_eq_some_iff.1 ht).1
      by_cases hji : j = i
      · subst hji
        rw [List.getElem?_set_self (by rw [hK]; exact hiK)] at hj
        cases hj
        rw [hn] at ht1
        rw [if_neg (by omega), if_pos (by omega), show j * 130 + t - j * 130 = t by omega, List.getElem?_map, ht]; rfl
      · rw [List.getElem?_set_ne (fun e => hji e.symm)] at hj
        have hr := (hwm.rows r (List.mem_of_getElem? hj)).1
        rw [if_neg (by omega), if_neg (by omega)]
        exact h.kept j r hj t u ht
  · intro j u hj
    unfold keptOr
    by_cases hc : cutAt cs k = 0
    · rw [if_pos hc] at hj ⊢
      exact h.used j u hj
    · rw [if_neg hc] at hj ⊢
      have hn := partOf_len (m := cutAt cs k) hpw.2.2.1 hol hcl
      rw [keptIn_at hv hn]
      by_cases hji : j = i
      · subst hji
        rw [List.getElem?_set_self (by rw [hwm.ninn, hK]; exact hiK)] at hj
        cases hj
        rw [if_pos rfl]
      · rw [List.getElem?_set_ne (fun e => hji e.symm)] at hj
        rw [if_neg (by omega), if_neg (by omega)]
        exact h.used j u hj

/-- The piece is not its sector's last one. -/
theorem secs_more {S : DS} {cs : List Int} {k i : Nat} {p : Int × List Int} {vs : List Value} (hwf : DWf S) (hp : S.waits[k]? = some p) (hi : p.1.toNat = i) (h : SecsOf vs (S.mid cs k) k) (hl : lastOf (S.waits.drop k) k i ≠ k + 1) :
    SecsOf (keptOr vs i (cutAt cs k) p.2 ((S.mid cs k).kept.getD i [])) (S.mid cs (k + 1)) (k + 1) ∧ (S.mid cs (k + 1)).used = (S.mid cs k).used := by
  obtain ⟨h1, h2, h3⟩ := mid_secs hwf hp hi h
  have hpw := hwf.wts p (List.mem_of_getElem? hp)
  have hK := (mid_rest S cs k).2.2.2.2
  have hK' := (mid_rest S cs (k + 1)).2.2.2.2
  have hwm := hwf.mid cs k
  have hiK : i < S.kept.length := by omega
  have hlen := h.len
  rw [hK] at hlen
  obtain ⟨old, hold⟩ : ∃ old, (S.mid cs k).kept[i]? = some old := ⟨_, List.getElem?_eq_getElem (by rw [hK]; exact hiK)⟩
  have e : (S.mid cs k).kept.getD i [] = old := by simp [List.getD, hold]
  have hol : old.length = 128 := (hwm.rows old (List.mem_of_getElem? hold)).1
  have hv : i * 130 + 130 ≤ vs.length := by rw [hlen]; omega
  have hpi : p.1 = (i : Int) := by omega
  have hhere := lastOf_here S.waits p k i hp hpi
  have hrest : lastOf (S.waits.drop k) k i = lastOf (S.waits.drop (k + 1)) (k + 1) i ∧ lastOf (S.waits.drop (k + 1)) (k + 1) i ≠ 0 := by
    rcases hhere with ⟨a, _⟩ | ⟨_, a, b⟩
    · exact absurd a hl
    · exact ⟨b, by rw [← b]; exact a⟩
  refine ⟨⟨h1, h2, h3, ?_⟩, ?_⟩
  · intro j hj
    rw [hK'] at hj
    rw [e, keptOr_far hv hpw.2.2.1 hol (cutAt_le _ _) (by by_cases hji : j = i; subst hji; omega; omega)]
    have := h.last j (by rw [hK]; exact hj)
    rw [this]
    show some (Value.int .i64 ((lastOf (S.waits.drop k) k j : Nat) : Int)) = some (.int .i64 ((lastOf (S.waits.drop (k + 1)) (k + 1) j : Nat) : Int))
    by_cases hji : j = i
    · subst hji; rw [hrest.1]
    · rw [lastOf_drop S.waits p k j hp (by omega)]
  · have hu := used_at (S := S.mid cs k) (T := S.mid cs (k + 1)) (i := i) (by rw [hK, hK']) (by rw [hK]; exact hiK) (fun j hj hji => by
      unfold DS.isUse DS.waitsFor
      show ((S.waits.drop (k + 1)).any _ || _) = ((S.waits.drop k).any _ || _)
      rw [drop_here hp, List.any_cons, show (p.1 == (j : Int)) = false by simp; omega, Bool.false_or, mid_inn hp hi]
      congr 1
      split
      · rfl
      · simp only [List.getD]
        rw [List.getElem?_set_ne (by show i ≠ ((j : Int)).toNat; omega)])
    have a1 : (S.mid cs k).isUse (i : Int) = true := by
      unfold DS.isUse DS.waitsFor
      show ((S.waits.drop k).any _ || _) = true
      rw [drop_here hp, List.any_cons, show (p.1 == (i : Int)) = true by simp; omega]; rfl
    have a2 : (S.mid cs (k + 1)).isUse (i : Int) = true := by
      unfold DS.isUse DS.waitsFor
      show ((S.waits.drop (k + 1)).any _ || _) = true
      cases ea : (S.waits.drop (k + 1)).any fun p => p.1 == (i : Int)
      · exact absurd ((lastOf_zero _ (k + 1) i).2 ea) hrest.2
      · rfl
    rw [a1, a2] at hu
    omega
/-- The piece is its sector's last one. -/
theorem secs_last {S : DS} {cs : List Int} {k i : Nat} {p : Int × List Int} {vs : List Value} (hwf : DWf S) (hp : S.waits[k]? = some p) (hi : p.1.toNat = i) (h : SecsOf vs (S.mid cs k) k) (hl : lastOf (S.waits.drop k) k i = k + 1) :
    SecsOf ((keptOr vs i (cutAt cs k) p.2 ((S.mid cs k).kept.getD i [])).set (i * 130 + 129) (.int .i64 0)) (S.mid cs (k + 1)) (k + 1) ∧
    ∃ u, (S.mid cs (k + 1)).inn[i]? = some u ∧ (S.mid cs k).used = (S.mid cs (k + 1)).used + (if u then 0 else 1) := by
  obtain ⟨h1, h2, h3⟩ := mid_secs hwf hp hi h
  have hpw := hwf.wts p (List.mem_of_getElem? hp)
  have hK := (mid_rest S cs k).2.2.2.2
  have hK' := (mid_rest S cs (k + 1)).2.2.2.2
  have hwm := hwf.mid cs k
  have hwm' := hwf.mid cs (k + 1)
  have hiK : i < S.kept.length := by omega
  have hlen := h.len
  rw [hK] at hlen
  obtain ⟨old, hold⟩ : ∃ old, (S.mid cs k).kept[i]? = some old := ⟨_, List.getElem?_eq_getElem (by rw [hK]; exact hiK)⟩
  have e : (S.mid cs k).kept.getD i [] = old := by simp [List.getD, hold]
  have hol : old.length = 128 := (hwm.rows old (List.mem_of_getElem? hold)).1
  have hv : i * 130 + 130 ≤ vs.length := by rw [hlen]; omega
  have hpi : p.1 = (i : Int) := by omega
  have hhere := lastOf_here S.waits p k i hp hpi
  have hrest : lastOf (S.waits.drop (k + 1)) (k + 1) i = 0 := by
    rcases hhere with ⟨_, a⟩ | ⟨a, _⟩
    · exact a
    · exact absurd hl a
  obtain ⟨u, hu⟩ : ∃ u, (S.mid cs (k + 1)).inn[i]? = some u := ⟨_, List.getElem?_eq_getElem (by rw [hwm'.ninn, hK']; exact hiK)⟩
  have hlt : i * 130 + 129 < (keptOr vs i (cutAt cs k) p.2 ((S.mid cs k).kept.getD i [])).length := by rw [h1, hK']; omega
  refine ⟨⟨by rw [List.length_set]; exact h1, ?_, ?_, ?_⟩, u, hu, ?_⟩
  · intro j r hj t x ht
    have hr := (hwm'.rows r (List.mem_of_getElem? hj)).1
    have ht1 := (List.getElem?_eq_some_iff.1 ht).1
    rw [set_at _ _ _ _ hlt, if_neg (by omega)]
    exact h2 j r hj t x ht
  · intro j x hj
    rw [set_at _ _ _ _ hlt, if_neg (by omega)]
    exact h3 j x hj
  · intro j hj
    rw [hK'] at hj
    rw [set_at _ _ _ _ hlt]
    show _ = some (Value.int .i64 ((lastOf (S.waits.drop (k + 1)) (k + 1) j : Nat) : Int))
    by_cases hji : j = i
    · subst hji; rw [if_pos rfl, hrest]; rfl
    · rw [if_neg (by omega), e, keptOr_far hv hpw.2.2.1 hol (cutAt_le _ _) (by omega)]
      have := h.last j (by rw [hK]; exact hj)
      rw [this]
      show some (Value.int .i64 ((lastOf (S.waits.drop k) k j : Nat) : Int)) = _
      rw [lastOf_drop S.waits p k j hp (by omega)]
  · have hus := used_at (S := S.mid cs k) (T := S.mid cs (k + 1)) (i := i) (by rw [hK, hK']) (by rw [hK]; exact hiK) (fun j hj hji => by
      unfold DS.isUse DS.waitsFor
      show ((S.waits.drop (k + 1)).any _ || _) = ((S.waits.drop k).any _ || _)
      rw [drop_here hp, List.any_cons, show (p.1 == (j : Int)) = false by simp; omega, Bool.false_or, mid_inn hp hi]
      congr 1
      split
      · rfl
      · simp only [List.getD]
        rw [List.getElem?_set_ne (by show i ≠ ((j : Int)).toNat; omega)])
    have a1 : (S.mid cs k).isUse (i : Int) = true := by
      unfold DS.isUse DS.waitsFor
      show ((S.waits.drop k).any _ || _) = true
      rw [drop_here hp, List.any_cons, show (p.1 == (i : Int)) = true by simp; omega]; rfl
    have a2 : (S.mid cs (k + 1)).isUse (i : Int) = u := by
      unfold DS.isUse DS.waitsFor
      show ((S.waits.drop (k + 1)).any _ || _) = u
      rw [(lastOf_zero _ (k + 1) i).1 hrest]
      simp [List.getD, hu]
    rw [a1, a2] at hus
    cases u
    · simpa using hus.symm
    · simpa using hus.symm
end Go.Proofs.Ythdclncgmhgmfaa
