/- The law's lists: what was added, and what of it is sure. -/
import Derived.Test.YteliebinhdphlaaDoorJournalTwice
namespace Go.Proofs.YteliebinhdphlaaDoor
set_option maxRecDepth 100000
open Go.RowKit Go.Deep
set_option linter.unusedSimpArgs false
set_option linter.unusedVariables false

/-- An argument that is a list of lists of bytes. -/
def Rows2 (w : World) (A : Option Addr) (m : Nat) (Zc : Nat → List Int) : Prop := ∀ i, i < m → ∃ ad A' c', A = some ad ∧ w.cell? (ad.add i) = some (.slice A' (Zc i).length c') ∧ Sl w A' (Zc i).length (u8s (Zc i))
def RowsOk (m : Nat) (Zc : Nat → List Int) : Prop := ∀ i, i < m → (∀ x ∈ Zc i, 0 ≤ x ∧ x < 256) ∧ (Zc i).length ≤ 9223372036854775807
theorem Rows2.below {w w' : World} {A : Option Addr} {m : Nat} {Zc : Nat → List Int} (h : Rows2 w A m Zc) (hb : Below w.heap.size w w') : Rows2 w' A m Zc := fun i hi => by
  obtain ⟨ad, A', c', h1, h2, h3⟩ := h i hi
  exact ⟨ad, A', c', h1, (hb.cell (World.block_lt_of_cell? w _ h2)).trans h2, h3.below hb⟩

/-- All that was added, and, its first part, what is sure. -/
def LP (w : World) (B : Nat) (K R : Nat → Prop) (va : Value) (all : List (List Int)) (vs : Value) (s : Nat) : Prop :=
  (∀ k, R k → K k) ∧ ∃ us, w.ownsRow B 22 1 va all.length us ∧ (∀ k, va.ownBlock = some k → K k ∧ ¬ R k) ∧ RowsL w B R us all ∧ ∃ A c, vs = .slice A s c ∧ Sl w A s (us.take s) ∧ ∀ ad, A = some ad → 0 < s → ∃ g, ad = ⟨g, 0, none⟩ ∧ K g ∧ ¬ R g
theorem LP.stay {w w' : World} {B : Nat} {K R : Nat → Prop} {va vs : Value} {all : List (List Int)} {s : Nat} (h : LP w B K R va all vs s) (hst : ∀ k, K k → w'.heap[k]? = w.heap[k]?) (hb : Below B w w') : LP w' B K R va all vs s := by
  obtain ⟨h0, us, h1, h2, h3, A, c, h4, h5, h6⟩ := h
  refine ⟨h0, us, own_stays h1 (fun k hk => hst k (h2 k hk).1), h2, h3.stay (fun k hk => by
    rcases hk with hk | hk
    · exact hst k (h0 k hk)
    · exact hb.block k hk), A, c, h4, ⟨h5.1, fun j u hu => ?_⟩, h6⟩
  obtain ⟨ad, e, hc⟩ := h5.2 j u hu
  have hpos : 0 < s := by have := (List.getElem?_eq_some_iff.1 hu).1; have := h5.1; omega
  obtain ⟨g, rfl, hg, _⟩ := h6 ad e hpos
  exact ⟨_, e, (World.cell?_of_block (w := w) (by rw [addr_block]; exact hst g hg)).trans hc⟩
theorem LP.more {w : World} {B : Nat} {K K' R : Nat → Prop} {va vs : Value} {all : List (List Int)} {s : Nat} (h : LP w B K R va all vs s) (hs : ∀ k, K k → K' k) : LP w B K' R va all vs s := by
  obtain ⟨h0, us, h1, h2, h3, A, c, h4, h5, h6⟩ := h
  exact ⟨fun k hk => hs k (h0 k hk), us, h1, fun k hk => ⟨hs k (h2 k hk).1, (h2 k hk).2⟩, h3, A, c, h4, h5, fun ad e hp => by
    obtain ⟨g, g1, g2, g3⟩ := h6 ad e hp
    exact ⟨g, g1, hs g g2, g3⟩⟩
theorem LP.all {w : World} {B : Nat} {K R : Nat → Prop} {va vs : Value} {all : List (List Int)} {s : Nat} (h : LP w B K R va all vs s) : LR w va all := by
  obtain ⟨h0, us, h1, h2, h3, _⟩ := h
  exact LO.lr (K := K) (R := R) (B := B) ⟨us, h1, h2, h3⟩
theorem LP.sure {w : World} {B : Nat} {K R : Nat → Prop} {va vs : Value} {all : List (List Int)} {s : Nat} (h : LP w B K R va all vs s) (hs : s ≤ all.length) : LR w vs (all.take s) := by
  obtain ⟨h0, us, h1, h2, h3, A, c, h4, h5, h6⟩ := h
  have hl : (all.take s).length = s := by rw [List.length_take]; omega
  refine ⟨A, c, us.take s, by rw [hl]; exact h4, by rw [hl]; exact h5, fun i l hi => ?_⟩
  have his : i < s := by have := (List.getElem?_eq_some_iff.1 hi).1; omega
  rw [List.getElem?_take, if_pos his] at hi
  obtain ⟨g0, A', c', g1, g2, _⟩ := h3 i l hi
  exact ⟨g0, A', c', by rw [List.getElem?_take, if_pos his]; exact g1, g2⟩
/-- What was got is all, and sure. -/
theorem LO.pair {w : World} {B : Nat} {K R : Nat → Prop} {v : Value} {L : List (List Int)} (h : LO w B K R v L) (hR : ∀ k, R k → K k) : LP w B K R v L v L.length := by
  obtain ⟨us, h1, h2, h3⟩ := h
  have hl := own_len h1
  obtain ⟨A, c, e, hsl⟩ := own_form h1
  refine ⟨hR, us, h1, h2, h3, A, c, e, by rw [hl, List.take_length, ← hl]; exact hsl, fun ad e2 hp => ?_⟩
  rcases h1.2 with ⟨e3, h0⟩ | ⟨g, cap, cur, e3, _⟩
  · omega
  · rw [e] at e3
    injection e3 with e3 _ _
    rw [e2] at e3
    injection e3 with e3
    have := h2 g (by rw [e, e2, e3]; rfl)
    exact ⟨g, e3, this.1, this.2⟩
/-- What was flushed is sure. -/
theorem LP.flushed {w : World} {B : Nat} {K R : Nat → Prop} {va vs : Value} {all : List (List Int)} {s : Nat} (h : LP w B K R va all vs s) : LP w B K R va all va all.length := by
  obtain ⟨h0, us, h1, h2, h3, _⟩ := h
  exact LO.pair ⟨us, h1, h2, h3⟩ h0
/-- One more was added. -/
theorem lp_push {w w' : World} {B : Nat} {K R : Nat → Prop} {va v' vs : Value} {all : List (List Int)} {us : List Value} {s : Nat} {As A' : Option Addr} {cs c' : Nat} {l : List Int} (h0 : ∀ k, R k → K k) (h1 : w.ownsRow B 22 1 va all.length us) (h2 : ∀ k, va.ownBlock = some k → K k ∧ ¬ R k) (h3 : RowsL w B R us all) (h4 : vs = .slice As s cs) (h5 : Sl w As s (us.take s)) (h6 : ∀ ad, As = some ad → 0 < s → ∃ g, ad = ⟨g, 0, none⟩ ∧ K g ∧ ¬ R g) (hs : s ≤ all.length)
    (hK : ∀ k, K k → k < w.heap.size) (hx : Sl w A' l.length (u8s l)) (hA : ∀ ad, A' = some ad → 0 < l.length → ad.block < B) (hll : l.length ≤ 9223372036854775807)
    (hown : w'.ownsRow B 22 1 v' (all.length + 1) (us ++ [.slice A' l.length c'])) (hb : Below B w w') (hat : ∀ k, v'.ownBlock = some k → va.ownBlock = some k ∨ w.heap.size ≤ k) (hst : ∀ k, k < w.heap.size → va.ownBlock ≠ some k → w'.heap[k]? = w.heap[k]?)
    (hsl : ∀ b s' ys, b < w.heap.size → s' ≤ all.length → Sl w (some ⟨b, 0, none⟩) s' ys → Sl w' (some ⟨b, 0, none⟩) s' ys) :
    LP w' B (fun k => K k ∨ (w.heap.size ≤ k ∧ k < w'.heap.size)) R v' (all ++ [l]) vs s := by
  have hul := own_len h1
  refine ⟨fun k hk => Or.inl (h0 k hk), us ++ [.slice A' l.length c'], by rw [List.length_append]; exact hown, fun k hk => ?_, fun i l' hl' => ?_, As, cs, h4, ?_, fun ad e hp => ?_⟩
  · rcases hat k hk with h | h
    · exact ⟨Or.inl (h2 k h).1, (h2 k h).2⟩
    · exact ⟨Or.inr ⟨h, (hown.lt k hk).2⟩, fun hr => by have := hK k (h0 k hr); omega⟩
  · have hstay : RowsL w' B R us all := h3.stay (fun k hk => by
      rcases hk with hk | hk
      · exact hst k (hK k (h0 k hk)) (fun e => (h2 k e).2 hk)
      · exact hb.block k hk)
    by_cases hi : i < all.length
    · rw [List.getElem?_append_left hi] at hl'
      obtain ⟨g0, A1, c1, g1, g2, g3⟩ := hstay i l' hl'
      exact ⟨g0, A1, c1, by rw [List.getElem?_append_left (by omega)]; exact g1, g2, g3⟩
    · rw [List.getElem?_append_right (by omega)] at hl'
      have h9 := (List.getElem?_eq_some_iff.1 hl').1
      simp at h9
      have e : i = all.length := by omega
      subst e
      rw [Nat.sub_self] at hl'
      simp at hl'
      subst hl'
      refine ⟨hll, A', c', by rw [List.getElem?_append_right (by omega), ← hul, Nat.sub_self]; rfl, ⟨hx.1, fun j u hu => ?_⟩, fun ad e hp => Or.inr (hA ad e hp)⟩
      obtain ⟨ad, e, hc⟩ := hx.2 j u hu
      have hp : 0 < l.length := by have := (List.getElem?_eq_some_iff.1 hu).1; rw [List.length_map] at this; omega
      exact ⟨ad, e, (World.cell?_of_block (w := w) (by rw [addr_block]; exact hb.block _ (hA ad e hp))).trans hc⟩
  · rw [List.take_append_of_le_length (by omega)]
    refine ⟨h5.1, fun j u hu => ?_⟩
    obtain ⟨ad, e, hc⟩ := h5.2 j u hu
    have hp : 0 < s := by have := (List.getElem?_eq_some_iff.1 hu).1; have := h5.1; omega
    obtain ⟨g, rfl, hg, _⟩ := h6 ad e hp
    subst e
    exact (hsl g s _ (hK g hg) hs h5).2 j u hu
  · obtain ⟨g, g1, g2, g3⟩ := h6 ad e hp
    exact ⟨g, g1, Or.inl g2, g3⟩
end Go.Proofs.YteliebinhdphlaaDoor
