/- The law's lists: loads. -/
import Derived.Test.YteliebinhdphlaaDoorLists2
namespace Go.Proofs.YteliebinhdphlaaDoor
set_option maxRecDepth 100000
open Go.RowKit Go.Deep
set_option linter.unusedSimpArgs false
set_option linter.unusedVariables false

/-- A list of the law's own. -/
def LO (w : World) (B : Nat) (K R : Nat → Prop) (v : Value) (L : List (List Int)) : Prop := ∃ vs, w.ownsRow B 22 1 v L.length vs ∧ (∀ k, v.ownBlock = some k → K k ∧ ¬ R k) ∧ RowsL w B R vs L
theorem LO.lr {w : World} {B : Nat} {K R : Nat → Prop} {v : Value} {L : List (List Int)} (h : LO w B K R v L) : LR w v L := by
  obtain ⟨vs, h1, h2, h3⟩ := h
  obtain ⟨A, c, e, hsl⟩ := own_form h1
  exact ⟨A, c, vs, e, hsl, fun i l hl => by
    obtain ⟨g0, A, c, g1, g2, _⟩ := h3 i l hl
    exact ⟨g0, A, c, g1, g2⟩⟩

set_option maxHeartbeats 6400000 in
theorem loads_is (B : Nat) (K : Nat → Prop) (w : World) (a d : Nat) (S : DS) (h : PK B K w d S) (ha : PArea w a d 1 8) (hKa : K a) (hlen : S.kept.length = 10) (hB : B ≤ w.heap.size) (ht : Tabs w) (hTB : NoTabs (fun k => B ≤ k))
    (j : Nat) (all : List (List Int)) (hj : PJ w j a 3 all.length) (hKj : K j) (hnext : all.length ≤ 8) (hl113 : ∀ l ∈ all, l.length ≤ 113) (hget : ∀ (i : Nat) (l : List Int), all[i]? = some l → ∀ t, (S.reads t).jGet 1 8 3 all.length i = (l, 0, S.reads (t + 1))) :
    Calls Tryd.prog 23 #[.pointer (some ⟨j, 0, none⟩)] w fun e w' => ∃ v K' R, e = .returned (.tuple #[v, .bool true]) ∧ (∀ k, K k → K' k) ∧ (∀ k, R k → K' k ∧ w.heap.size ≤ k) ∧ (∀ k, v.ownBlock = some k → w.heap.size ≤ k) ∧ PK B K' w' d (S.reads all.length) ∧ LO w' B K' R v all ∧ Below B w w' ∧ Stay K Nothing w w' := by
  obtain ⟨n, hn⟩ : ∃ n, n = all.length := ⟨_, rfl⟩
  rw [← hn] at hj hnext hget ⊢
  have Hlen := Lib.hid (pk_len B K w a d S h ha hKa hlen hB ht hTB j 3 n hj hKj hnext (by omega))
  obtain ⟨i8, hi8, hz8, hs8, hb8⟩ := info_parts' info_row9
  have Hn := Lib.hid hn
  have Hget := Lib.hid hget
  have HTB := Lib.hid hTB
  have Ht := Lib.hid ht
  have H113 := Lib.hid hl113
  clear hn hget hTB ht hl113
  go_enter Tryd.func23, Tryd.ntmps23
  go_wp2_with fail
  refine Hlen.out.mono ?_
  rintro e w1 ⟨rfl, hb1⟩
  have h1 := h.below hb1
  have hst1 : Stay K Nothing w w1 := fun k hk _ => hb1.block k (h.lt hk).2
  have hbB1 : Below B w w1 := hb1.mono hB
  clear Hlen
  go_wp2_with fail
  go_loopw [4, 10, 5] (fun u i _ wr => ∃ (k : Nat) (vs : List Value) (K' R : Nat → Prop) (v : Value), u = v ∧ k ≤ n ∧ i = .int .i64 (k : Int) ∧ PK B K' wr d (S.reads k) ∧ (∀ k, K k → K' k) ∧ (∀ k, R k → K' k ∧ w.heap.size ≤ k) ∧ (∀ k, v.ownBlock = some k → (K' k ∧ ¬ R k) ∧ w.heap.size ≤ k) ∧ wr.ownsRow B 22 1 v k vs ∧ RowsL wr B R vs (all.take k) ∧ Below B w wr ∧ Stay K Nothing w wr) (fun _ i _ _ => n - (intOf i).toNat)
  case atStart => exact ⟨0, [], K, fun _ => False, _, rfl, by omega, rfl, h1, fun _ hk => hk, fun _ hk => hk.elim, fun k hk => (by cases hk), ⟨by simp, Or.inl ⟨rfl, rfl⟩⟩, fun i l hl => (by simp at hl), hbB1, hst1⟩
  case round =>
    obtain ⟨k, vs, K', R, v, hv, hk, rfl, hpk, hKK, hRK, hvo, hown, hrows, hb, hst⟩ := hrel
    obtain rfl := hv.symm
    by_cases hlt : k < n
    · have hlti : (k : Int) < (n : Int) := by omega
      obtain ⟨l, hl⟩ := getElem_of (show k < all.length by rw [← Hn.out]; exact hlt)
      have hl1 := H113.out l (List.mem_of_getElem? hl)
      have hBr : B ≤ wr.heap.size := Nat.le_trans hB hb.size
      have har : PArea wr a d 1 8 := ha.kept (hst a hKa (fun h => h))
      have hjr : PJ wr j a 3 n := hj.kept (hst j hKj (fun h => h))
      have htr : Tabs wr := (Ht.out).base hb HTB.out
      have hG := Lib.hid (pk_get B K' wr a d (S.reads k) hpk har (hKK a hKa) (by rw [(reads_same S k).1]; exact hlen) hBr htr HTB.out j 3 n hjr (hKK j hKj) hnext (by omega) (k : Int) (by omega) (l, 0, S.reads (k + 1)) (Hget.out k l hl k).symm)
      go_wp2_with fail
      refine hG.out.mono ?_
      rintro e w3 ⟨A, cc, rfl, hsl, hA, hpk3, hb3, hst3⟩
      have hown3 := own_stays hown (fun b hb2 => hst3 b (hvo b hb2).1.1 (fun h => h))
      have hst3b : ∀ b, K' b → w3.heap[b]? = wr.heap[b]? := fun b hb2 => hst3 b hb2 (fun h => h)
      have hrows3 : RowsL w3 B R vs (all.take k) := hrows.stay (fun b hb2 => by
        rcases hb2 with hb2 | hb2
        · exact hst3 b (hRK b hb2).1 (fun h => h)
        · exact hb3.block b hb2)
      have hB3 : B ≤ w3.heap.size := Nat.le_trans hBr hb3.size
      have hownlt : ∀ b, v.ownBlock = some b → b < wr.heap.size := fun b hb2 => (hpk.lt (hvo b hb2).1.1).2
      have hRlt : ∀ b, R b → b < wr.heap.size := fun b hb2 => (hpk.lt (hRK b hb2).1).2
      have hAlt : ∀ ad, A = some ad → 0 < l.length → ad.block < w3.heap.size := fun ad e h0 => (hpk3.lt (Or.inr ⟨h0, ad, e, rfl⟩)).2
      obtain ⟨ll, hll⟩ : ∃ ll, ll = l.length := ⟨_, rfl⟩
      have hs3r := hb3.size
      simp only [] at hsl hpk3 ⊢
      rw [← hll] at hsl hAlt hl1 hpk3 ⊢
      have Hll := Lib.hid hll
      clear hll hG hrows hown hst3
      go_wp2_with (at_builtin; refine wpList_push_keep (.tmp 21) (.tmp 23) 56 22 i8 _ (.slice A ll cc) 24 rfl rfl Tryd.underlying56 hi8 hz8 hs8 hb8 rfl B _ _ _ hown3 rfl rfl rfl (by omega) (by omega) hB3 ?_; intro v5 w5 hown5 hb5 hat5 hst5 _)
      have hvl := own_len hown3
      have hO5 : Only (fun b => v.ownBlock = some b) w3 w5 := ⟨hb5.os, hb5.tape, hb5.output, hb5.size, fun b hb2 hn2 => hst5 b hb2 hn2⟩
      have hpk5 := hpk3.grow hB3 hO5 (fun b hb2 => Or.inl (hvo b hb2).1.1)
      have hrows5 : RowsL w5 B (fun b => R b ∨ (0 < ll ∧ ∃ ad, A = some ad ∧ ad.block = b)) (vs ++ [.slice A ll cc]) (all.take (k + 1)) := by
        intro i l' hl'
        have hik : i < k + 1 := by have := (List.getElem?_eq_some_iff.1 hl').1; rw [List.length_take] at this; omega
        rw [List.getElem?_take, if_pos hik] at hl'
        by_cases e : i = k
        · subst e
          rw [hl] at hl'
          injection hl' with hl'
          subst hl'
          refine ⟨by rw [← Hll.out]; omega, A, cc, ?_, ?_, fun ad e h0 => Or.inl (Or.inr ⟨by rw [Hll.out]; exact h0, ad, e, rfl⟩)⟩
          · rw [List.getElem?_append_right (by omega), ← hvl, Nat.sub_self, ← Hll.out]; rfl
          · rw [← Hll.out]
            refine ⟨hsl.1, fun t u hu => ?_⟩
            obtain ⟨ad, e2, hc⟩ := hsl.2 t u hu
            have h0 : 0 < ll := by have := (List.getElem?_eq_some_iff.1 hu).1; have := hsl.1; omega
            refine ⟨ad, e2, (World.cell?_of_block (w := w3) (hst5 _ ?_ ?_)).trans hc⟩
            · rw [addr_block]; exact hAlt ad e2 h0
            · rw [addr_block]; intro e3
              have := hownlt _ e3; have := hA ad e2; omega
        · have hl2 : (all.take k)[i]? = some l' := by rw [List.getElem?_take, if_pos (by omega)]; exact hl'
          have hrr : RowsL w5 B R vs (all.take k) := hrows3.stay (fun b hb2 => by
            rcases hb2 with hb2 | hb2
            · exact hst5 b (Nat.lt_of_lt_of_le (hRlt b hb2) hs3r) (fun e3 => (hvo b e3).1.2 hb2)
            · exact hb5.block b hb2)
          obtain ⟨g0, A', c', g1, g2, g3⟩ := hrr i l' hl2
          exact ⟨g0, A', c', by rw [List.getElem?_append_left (by omega)]; exact g1, g2, fun ad e h0 => (g3 ad e h0).imp Or.inl id⟩
      have hst' : Stay K Nothing w w5 := fun b hb2 hx => by
        have hbw := (h.lt hb2).2
        have hbwr : b < wr.heap.size := (hpk.lt (hKK b hb2)).2
        rw [hst5 b (Nat.lt_of_lt_of_le hbwr hs3r) (fun e3 => by have := (hvo b e3).2; omega)]
        rw [hst3b b (hKK b hb2)]
        exact hst b hb2 hx
      have hbt := hb.trans (hb3.trans hb5)
      have hRK5 : ∀ b, (R b ∨ (0 < ll ∧ ∃ ad, A = some ad ∧ ad.block = b)) → ((K' b ∨ (0 < ll ∧ ∃ ad, A = some ad ∧ ad.block = b)) ∨ (w3.heap.size ≤ b ∧ b < w5.heap.size)) ∧ w.heap.size ≤ b := fun b hb2 => by
        rcases hb2 with hb2 | ⟨h0, ad, e, rfl⟩
        · exact ⟨Or.inl (Or.inl (hRK b hb2).1), (hRK b hb2).2⟩
        · exact ⟨Or.inl (Or.inr ⟨h0, ad, e, rfl⟩), by have := hA ad e; have := hb.size; omega⟩
      have hvo5 : ∀ b, v5.ownBlock = some b → ((((K' b ∨ (0 < ll ∧ ∃ ad, A = some ad ∧ ad.block = b)) ∨ (w3.heap.size ≤ b ∧ b < w5.heap.size))) ∧ ¬ (R b ∨ (0 < ll ∧ ∃ ad, A = some ad ∧ ad.block = b))) ∧ w.heap.size ≤ b := fun b hb2 => by
        rcases hat5 b hb2 with h2 | h2
        · have h3 := hvo b h2
          exact ⟨⟨Or.inl (Or.inl h3.1.1), fun h4 => by
            rcases h4 with h4 | ⟨h0, ad, e, rfl⟩
            · exact h3.1.2 h4
            · have := hownlt _ h2; have := hA ad e; omega⟩, h3.2⟩
        · have h3 := (hown5.lt b hb2).2
          exact ⟨⟨Or.inr ⟨h2, h3⟩, fun h4 => by
            rcases h4 with h4 | ⟨h0, ad, e, rfl⟩
            · have := hRlt b h4; omega
            · have := hAlt ad e h0; omega⟩, by have := hb.size; omega⟩
      have hKK5 : ∀ b, K b → ((K' b ∨ (0 < ll ∧ ∃ ad, A = some ad ∧ ad.block = b)) ∨ (w3.heap.size ≤ b ∧ b < w5.heap.size)) := fun b hb2 => Or.inl (Or.inl (hKK b hb2))
      clear hO5 hpk3 hrows3 hst5 hat5 hb5 hown3 hsl hpk
      go_wp2
      go_roundw
      case rel => exact ⟨k + 1, _, _, _, _, rfl, by omega, by go_num, hpk5, hKK5, hRK5, hvo5, hown5, hrows5, hbt, hst'⟩
      case measure => simp [intOf]; omega
    · obtain rfl : k = n := by omega
      go_wp2
      go_ret2
      refine ⟨v, rfl, K', hKK, R, hRK, fun b hb2 => (hvo b hb2).2, hpk, ⟨vs, by rw [← Hn.out]; exact hown, fun b hb2 => (hvo b hb2).1, ?_⟩, hb, hst⟩
      rw [Hn.out, List.take_length] at hrows
      exact hrows
end Go.Proofs.YteliebinhdphlaaDoor
