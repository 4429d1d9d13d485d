/- The law's lists: begins, loads. -/
import Derived.Test.YteliebinhdphlaaDoorLists
namespace Go.Proofs.YteliebinhdphlaaDoor
set_option maxRecDepth 100000
open Go.RowKit Go.Deep
set_option linter.unusedSimpArgs false
set_option linter.unusedVariables false

theorem info_row9 : (Tryd.prog.info? 22).map (fun i => (i.zero, i.size, i.bytes)) = some (some (.slice none 0 0), 1, 24) := by kernel_rfl

/-- The rows of a list, where they are; in blocks of R, or below B. -/
def RowsL (w : World) (B : Nat) (R : Nat → Prop) (vs : List Value) (L : List (List Int)) : Prop := ∀ (i : Nat) (l : List Int), L[i]? = some l → l.length ≤ 9223372036854775807 ∧ ∃ A c, vs[i]? = some (.slice A l.length c) ∧ Sl w A l.length (u8s l) ∧ ∀ ad, A = some ad → 0 < l.length → R ad.block ∨ ad.block < B
theorem RowsL.stay {w w' : World} {B : Nat} {R : Nat → Prop} {vs : List Value} {L : List (List Int)} (h : RowsL w B R vs L) (e : ∀ k, (R k ∨ k < B) → w'.heap[k]? = w.heap[k]?) : RowsL w' B R vs L := fun i l hl => by
  obtain ⟨h0, A, c, h1, h2, h3⟩ := h i l hl
  refine ⟨h0, A, c, h1, ⟨h2.1, fun j u hu => ?_⟩, h3⟩
  obtain ⟨ad, e2, hc⟩ := h2.2 j u hu
  have hpos : 0 < l.length := by
    have := (List.getElem?_eq_some_iff.1 hu).1
    rw [List.length_map] at this; omega
  refine ⟨ad, e2, (World.cell?_of_block (w := w) (e _ ?_)).trans hc⟩
  rw [addr_block]; exact h3 ad e2 hpos
theorem RowsL.more {w : World} {B : Nat} {R R' : Nat → Prop} {vs : List Value} {L : List (List Int)} (h : RowsL w B R vs L) (hs : ∀ k, R k → R' k) : RowsL w B R' vs L := fun i l hl => by
  obtain ⟨h0, A, c, h1, h2, h3⟩ := h i l hl
  exact ⟨h0, A, c, h1, h2, fun ad e hp => (h3 ad e hp).imp (hs _) id⟩
/-- A list, to be read. -/
def LR (w : World) (v : Value) (L : List (List Int)) : Prop := ∃ A c vs, v = .slice A L.length c ∧ Sl w A L.length vs ∧ ∀ (i : Nat) (l : List Int), L[i]? = some l → l.length ≤ 9223372036854775807 ∧ ∃ A c, vs[i]? = some (.slice A l.length c) ∧ Sl w A l.length (u8s l)
theorem LR.below {w w' : World} {v : Value} {L : List (List Int)} (h : LR w v L) (hb : Below w.heap.size w w') : LR w' v L := by
  obtain ⟨A, c, vs, h1, h2, h3⟩ := h
  exact ⟨A, c, vs, h1, h2.below hb, fun i l hl => by
    obtain ⟨g0, A, c, g1, g2⟩ := h3 i l hl
    exact ⟨g0, A, c, g1, g2.below hb⟩⟩

set_option maxHeartbeats 3200000 in
/-- Some lists of bytes are the first ones of others. -/
theorem begins_is (w : World) (v1 v2 : Value) (L M : List (List Int)) (h1 : LR w v1 L) (h2 : LR w v2 M) (hle : L.length ≤ M.length) (hm : M.length ≤ 100) (hpre : ∀ (i : Nat) (l : List Int), L[i]? = some l → M[i]? = some l) :
    Calls Tryd.prog 24 #[v1, v2] w fun e w' => e = .returned (.bool true) ∧ Below w.heap.size w w' := by
  obtain ⟨A, c, vs, rfl, hs1, hr1⟩ := h1
  obtain ⟨A', c', ws, rfl, hs2, hr2⟩ := h2
  obtain ⟨n, hn⟩ : ∃ n, n = L.length := ⟨_, rfl⟩
  obtain ⟨m, hm'⟩ : ∃ m, m = M.length := ⟨_, rfl⟩
  rw [← hn] at hs1 hle ⊢
  rw [← hm'] at hs2 hle hm ⊢
  have hnm : (n : Int) ≤ (m : Int) := by omega
  have hdm : decide (m < n) = false := decide_eq_false (by omega)
  have Hn := Lib.hid hn
  clear hn hm'
  go_enter Tryd.func24, Tryd.ntmps24
  go_wp2_with fail
  go_loopw [13, 5] (fun i _ wr => ∃ k : Nat, k ≤ n ∧ i = .int .i64 k ∧ Below w.heap.size w wr) (fun i _ _ => n - (intOf i).toNat)
  case atStart => exact ⟨0, by omega, rfl, Below.refl _ _⟩
  case round =>
    obtain ⟨k, hk, rfl, hb⟩ := hrel
    by_cases hlt : k < n
    · have hlti : (k : Int) < (n : Int) := by omega
      obtain ⟨l, hl⟩ := getElem_of (show k < L.length by rw [← Hn.out]; exact hlt)
      obtain ⟨h0, A1, c1, g1, g2⟩ := hr1 k l hl
      obtain ⟨_, A2, c2, g3, g4⟩ := hr2 k l (hpre k l hl)
      obtain ⟨ad1, rfl, e1⟩ := hs1.2 k _ g1
      obtain ⟨ad2, rfl, e2⟩ := hs2.2 k _ g3
      have hkm : (k : Int) < (m : Int) := by omega
      obtain ⟨ll, hll⟩ : ∃ ll, ll = l.length := ⟨_, rfl⟩
      rw [← hll] at e1 e2 g2 g4 h0
      have hq : wr.cell? (ad1.add k) = some (.slice A1 ll c1) ∧ wr.cell? (ad2.add k) = some (.slice A2 ll c2) := ⟨(hb.cell (World.block_lt_of_cell? w _ e1)).trans e1, (hb.cell (World.block_lt_of_cell? w _ e2)).trans e2⟩
      have hbd : Below w.heap.size w wr.drew := hb.drew
      have Hsm := Lib.hid (same_any A1 A2 ll ll c1 c2 l l wr.drew (g2.below hbd) (g4.below hbd) h0 h0)
      clear e1 e2 g1 g2 g3 g4 hll hl
      go_upto_region 6 with fail
      go_region_held3 (fun w' => w'.cell? (ad1.add k) = some (.slice A1 ll c1) ∧ w'.cell? (ad2.add k) = some (.slice A2 ll c2))
        (first | exact hq)
        (first | (go_at_call 17; refine Hsm.out.mono ?_; rintro e w5 ⟨rfl, q5, rfl⟩; rw [show decide (l = l) = true from decide_eq_true rfl]))
      go_wp2_with fail
      go_roundw
      case rel => exact ⟨k + 1, by omega, by go_num, below_drewN hb (1 + q5)⟩
      case measure => simp [intOf]; omega
    · obtain rfl : k = n := by omega
      go_wp2
      go_ret
      exact ⟨rfl, hb⟩
end Go.Proofs.YteliebinhdphlaaDoor
