/- What a crash leaves, byte by byte; eight rows of bytes. -/
import Derived.Test.YthdclncgmhgmfaaWr
namespace Go.Proofs.Ythdclncgmhgmfaa
open Go.RowKit Go.Deep
set_option linter.unusedSimpArgs false
set_option linter.unusedVariables false

/-- Each byte that a crash leaves is one that was kept, or one of a piece that waited. -/
theorem crash_bytes {S : DS} (hwf : DWf S) (cs : List Int) : ∀ (k n i : Nat) (r : List Int) (u : Int), (S.crashTo cs k).kept[n]? = some r → r[i]? = some u →
    (∃ r0, S.kept[n]? = some r0 ∧ r0[i]? = some u) ∨ ∃ p ∈ S.waits, p.1 = (n : Int) ∧ p.2[i]? = some u := by
  intro k
  induction k with
  | zero => intro n i r u hr hu; exact Or.inl ⟨r, hr, hu⟩
  | succ k ih =>
    intro n i r u hr hu
    cases hp : S.waits[k]? with
    | none =>
      rw [show S.crashTo cs (k + 1) = S.crashTo cs k by rw [DS.crashTo, hp]] at hr
      exact ih n i r u hr hu
    | some p =>
      rw [crashTo_succ hp] at hr
      unfold DS.crash1 at hr
      by_cases hc : cutAt cs k = 0
      · rw [if_pos hc] at hr
        exact ih n i r u hr hu
      · rw [if_neg hc] at hr
        have hmem := List.mem_of_getElem? hp
        have hw := hwf.wts p hmem
        have hlen := (crashTo_same S cs k).2
        by_cases hn : p.1.toNat = n
        · subst hn
          have hr2 : ((S.crashTo cs k).kept.set p.1.toNat (p.2.take (cutAt cs k) ++ ((S.crashTo cs k).kept.getD p.1.toNat []).drop (cutAt cs k)))[p.1.toNat]? = some r := hr
          rw [List.getElem?_set_self (by rw [hlen]; omega)] at hr2
          cases hr2
          by_cases hi : i < cutAt cs k
          · right
            refine ⟨p, hmem, by omega, ?_⟩
            rw [List.getElem?_append_left (by rw [List.length_take, hw.2.2.1]; have := cutAt_le cs k; omega), List.getElem?_take, if_pos hi] at hu
            exact hu
          · rw [List.getElem?_append_right (by rw [List.length_take]; omega), List.getElem?_drop, List.length_take, hw.2.2.1] at hu
            have hcl := cutAt_le cs k
            rw [show cutAt cs k + (i - min (cutAt cs k) 128) = i by omega] at hu
            obtain ⟨row, hrow⟩ : ∃ row, (S.crashTo cs k).kept[p.1.toNat]? = some row := ⟨_, List.getElem?_eq_getElem (by rw [hlen]; omega)⟩
            rw [show (S.crashTo cs k).kept.getD p.1.toNat [] = row by simp [List.getD, hrow]] at hu
            exact ih p.1.toNat i row u hrow hu
        · have hr2 : ((S.crashTo cs k).kept.set p.1.toNat (p.2.take (cutAt cs k) ++ ((S.crashTo cs k).kept.getD p.1.toNat []).drop (cutAt cs k)))[n]? = some r := hr
          rw [List.getElem?_set_ne hn] at hr2
          exact ih n i r u hr2 hu

/-- Eight arrays of 128 bytes, noughts. -/
def zeroWas : Array Value := (u8s (List.replicate 1024 0)).toArray
theorem zeroWas_size : zeroWas.size = 1024 := by kernel_rfl
theorem zeroWas_ne : ¬ zeroWas = #[] := by intro h; have := zeroWas_size; rw [h] at this; simp at this
theorem zeroWas_val (w : World) : (zeroValue 55).run Try.prog w = .ok (.agg zeroWas) w := by kernel_rfl
attribute [simp] zeroWas_val zeroWas_ne
attribute [irreducible] zeroWas
theorem was_new (w : World) : Blk (w.alloc (.cells zeroWas 55)) w.heap.size 55 zeroWas.toList := Blk.new w 55 zeroWas.toList

/-- The first k rows lie there. -/
def WasOf (vs : List Value) (K0 : List (List Int)) (k : Nat) : Prop := vs.length = 1024 ∧ ∀ (n : Nat) (r : List Int), n < k → K0[n]? = some r → ∀ (j : Nat) (u : Int), r[j]? = some u → vs[n * 128 + j]? = some (.int .u8 u)
theorem WasOf.next {vs : List Value} {K0 : List (List Int)} {k : Nat} {r : List Int} (h : WasOf vs K0 k) (hk : k < 8) (hr : K0[k]? = some r) (hl : ∀ r ∈ K0, r.length = 128) :
    WasOf (vs.take (k * 128) ++ u8s r ++ vs.drop (k * 128 + (u8s r).length)) K0 (k + 1) := by
  have hrl : (u8s r).length = 128 := by rw [List.length_map]; exact hl r (List.mem_of_getElem? hr)
  have hlen := h.1
  refine ⟨by rw [List.length_append, List.length_append, List.length_take, List.length_drop, hrl]; omega, ?_⟩
  intro n r' hn hr' j u hj
  have hj128 : j < 128 := by have := (List.getElem?_eq_some_iff.1 hj).1; have := hl r' (List.mem_of_getElem? hr'); omega
  rw [put_at vs (u8s r) (k * 128) (n * 128 + j) (by rw [hrl]; omega), hrl]
  by_cases hnk : n = k
  · subst hnk
    obtain rfl : r' = r := Option.some.inj (hr'.symm.trans hr)
    rw [if_pos (by omega), show n * 128 + j - n * 128 = j by omega, List.getElem?_map, hj]; rfl
  · rw [if_neg (by omega)]
    exact h.2 n r' (by omega) hr' j u hj

/-- Each piece that waits is one of what was done. -/
def WaitsIn (T : DS) (k : Nat) (V : Nat → Nat → Int) (Z : Nat → List Int) : Prop := ∀ p ∈ T.waits, ∃ j, j < k ∧ V j 0 = 1 ∧ p.1 = V j 1 ∧ p.2 = fullOf (Z j)
theorem WaitsIn.wrote {T : DS} {k : Nat} {V : Nat → Nat → Int} {Z : Nat → List Int} (h : WaitsIn T k V Z) (h1 : V k 0 = 1) : WaitsIn (T.wrote (V k 1) (fullOf (Z k))) (k + 1) V Z := by
  intro p hp
  unfold DS.wrote at hp
  split at hp
  · next hc =>
    have hp2 : p ∈ T.waits ++ [((((V k 1).toNat : Nat) : Int), fullOf (Z k))] := hp
    rcases List.mem_append.1 hp2 with hp2 | hp2
    · obtain ⟨j, hj, h2⟩ := h p hp2
      exact ⟨j, by omega, h2⟩
    · have hp3 := List.mem_singleton.1 hp2
      subst hp3
      exact ⟨k, by omega, h1, by show ((((V k 1).toNat : Nat)) : Int) = V k 1; omega, rfl⟩
  · obtain ⟨j, hj, h2⟩ := h p hp
    exact ⟨j, by omega, h2⟩
theorem WaitsIn.more {T : DS} {k : Nat} {V : Nat → Nat → Int} {Z : Nat → List Int} (h : WaitsIn T k V Z) : WaitsIn T (k + 1) V Z := fun p hp => by
  obtain ⟨j, hj, h2⟩ := h p hp
  exact ⟨j, by omega, h2⟩

/-- What was flushed. -/
theorem flushed_facts {S : DS} (hwf : DWf S) : (S.count 2).flushed.waits = [] ∧ (S.count 2).flushed.off = S.off ∧ (S.count 2).flushed.cut = S.cut ∧ (S.count 2).flushed.kept.length = S.kept.length := by
  have h1 := crashTo_full hwf S.waits.length (Nat.le_refl _)
  have h2 := crashTo_same S (List.replicate S.waits.length 128) S.waits.length
  rw [h1] at h2
  exact ⟨rfl, rfl, rfl, h2.2⟩
end Go.Proofs.Ythdclncgmhgmfaa
