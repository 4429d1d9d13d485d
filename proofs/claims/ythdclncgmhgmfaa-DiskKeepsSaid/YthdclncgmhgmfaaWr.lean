/- A disk whose power stays: whatever is written to it. -/
import Derived.Test.YthdclncgmhgmfaaPDisk
import Derived.Test.YthdclncgmhgmfaaFull
import Derived.Test.YthdclncgmhgmfaaDos
import Derived.Test.YthdclncgmhgmfaaSame
namespace Go.Proofs.Ythdclncgmhgmfaa
open Go.RowKit Go.Deep
set_option linter.unusedSimpArgs false
set_option linter.unusedVariables false

/-- A disk behind a write, if the power stays. -/
def DS.wrote (S : DS) (n : Int) (bs : List Int) : DS := if 0 ≤ n ∧ n < S.kept.length ∧ (S.isUse n = true ∨ (S.used : Int) < S.room) then (S.put n.toNat bs).count 1 else S
theorem wrote_same (S : DS) (n : Int) (bs : List Int) : (S.wrote n bs).kept = S.kept ∧ (S.wrote n bs).inn = S.inn ∧ (S.wrote n bs).room = S.room ∧ (S.wrote n bs).off = S.off ∧ (S.wrote n bs).cut = S.cut ∧ (S.wrote n bs).waits.length ≤ S.waits.length + 1 := by
  unfold DS.wrote
  split
  · refine ⟨rfl, rfl, rfl, rfl, rfl, ?_⟩
    show (S.waits ++ _).length ≤ _
    simp
  · exact ⟨rfl, rfl, rfl, rfl, rfl, by omega⟩
theorem goes_on {S : DS} (hc : S.cut = -1) (k : Nat) : S.goes k = (S.count k, false) := by
  unfold DS.goes; rw [hc, if_pos (by omega)]
theorem dwrote_is (F : Nat → Prop) (w : World) (b : Nat) (S : DS) (h : PD F w b S) (n : Int) (bs : List Int) (hb : Byte128 bs) (ho : S.off = false) (hc : S.cut = -1) (hmany : S.waits.length ≤ 1000000) :
    Calls Try.prog 23 #[.pointer (some ⟨b, 0, none⟩), .int .i64 n, .agg (u8s bs).toArray] w fun e w' => (∃ er, e = .returned (.int .i64 er)) ∧ PD (More F w w') w' b (S.wrote n bs) ∧ Only F w w' := by
  have still : ∀ er, (Calls Try.prog 23 #[.pointer (some ⟨b, 0, none⟩), .int .i64 n, .agg (u8s bs).toArray] w fun e w' => e = .returned (.int .i64 er) ∧ Only Nothing w w') → S.wrote n bs = S → Calls Try.prog 23 #[.pointer (some ⟨b, 0, none⟩), .int .i64 n, .agg (u8s bs).toArray] w fun e w' => (∃ er, e = .returned (.int .i64 er)) ∧ PD (More F w w') w' b (S.wrote n bs) ∧ Only F w w' := by
    intro er hcall e
    refine hcall.mono ?_
    rintro e' w' ⟨rfl, hO⟩
    rw [e]
    exact ⟨⟨_, rfl⟩, More.refl (h.only hO (fun _ _ hk => hk)), hO.mono (fun _ _ hk => hk.elim)⟩
  by_cases hn : n < 0 ∨ (S.kept.length : Int) ≤ n
  · exact still 51 (dwrite_out F w b S h n bs hb ho hn) (by unfold DS.wrote; rw [if_neg (by omega)])
  · obtain ⟨k, rfl⟩ : ∃ k : Nat, n = (k : Int) := ⟨n.toNat, by omega⟩
    have hk : k < S.kept.length := by omega
    by_cases hu : S.isUse (k : Int) = true ∨ (S.used : Int) < S.room
    · have e : S.wrote (k : Int) bs = (S.put k bs).count 1 := by
        unfold DS.wrote; rw [if_pos ⟨by omega, by omega, hu⟩]; rfl
      refine (dwrite_in F w b S h k bs hb ho hk hu hmany).mono ?_
      rintro e' w' ⟨rfl, hp, hO⟩
      rw [goes_on (show (S.put k bs).cut = -1 from hc)] at hp ⊢
      rw [e]
      exact ⟨⟨_, rfl⟩, hp, hO⟩
    · have hiu : S.isUse (k : Int) = false := by
        cases e : S.isUse (k : Int)
        · rfl
        · exact absurd (Or.inl e) hu
      exact still 52 (dwrite_full F w b S h k bs hb ho hk hiu (by have : ¬ (S.used : Int) < S.room := fun h => hu (Or.inr h); omega)) (by unfold DS.wrote; rw [if_neg (fun h => hu h.2.2)])

theorem used_same {S T : DS} (h1 : S.kept.length = T.kept.length) (h2 : S.inn = T.inn) (h3 : S.waits = T.waits) : S.used = T.used := by
  unfold DS.used usedTo DS.isUse DS.waitsFor
  rw [h1, h2, h3]
theorem crashTo_none (S : DS) (k : Nat) : S.crashTo [] k = S := by
  induction k with
  | zero => rfl
  | succ k ih =>
    unfold DS.crashTo
    split
    · rw [ih]
      unfold DS.crash1
      rw [if_pos (by simp [cutAt])]
    · exact ih
theorem own_addr {w : World} {base : Nat} {e : TypeId} {A : Option Addr} {n c : Nat} {xs : List Value} (h : w.ownsRow base e 1 (.slice A n c) n xs) : ∀ ad, A = some ad → base ≤ ad.block ∧ ad.block < w.heap.size := by
  intro ad hA
  subst hA
  exact h.lt ad.block rfl
theorem cells2_only {F : Nat → Prop} {w w' : World} {b o1 o2 : Nat} {v1 v2 : Value} (hO : Only F w w') (hn : ¬ F b) (h : w.cell? ⟨b, o1, none⟩ = some v1 ∧ w.cell? ⟨b, o2, none⟩ = some v2) : w'.cell? ⟨b, o1, none⟩ = some v1 ∧ w'.cell? ⟨b, o2, none⟩ = some v2 :=
  ⟨(World.cell?_of_block (w := w) (hO.block b (World.block_lt_of_cell? w _ h.1) hn)).trans h.1, (World.cell?_of_block (w := w) (hO.block b (World.block_lt_of_cell? w _ h.2) hn)).trans h.2⟩
theorem new8_is (w : World) :
    Calls Try.prog 22 #[.int .i64 8, .int .i64 8] w fun e w' => ∃ b, e = .returned (.tuple #[.pointer (some ⟨b, 0, none⟩), .int .i64 0]) ∧ PD (fun k => w.heap.size ≤ k ∧ k < w'.heap.size) w' b (DS.new 8 8) ∧ Below w.heap.size w w' := dnew_is w 8 8 (by omega) (by omega) (by omega)
end Go.Proofs.Ythdclncgmhgmfaa
