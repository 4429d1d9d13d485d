/- Lists of lists of bytes: slices of slices, one of them the first part of another one's row. -/
import Derived.Test.YteliebinhdphlaaDoorM7
import Derived.ArgAppend
namespace Go.Proofs.YteliebinhdphlaaDoor
set_option maxRecDepth 100000
open Go.RowKit Go.Deep
set_option linter.unusedSimpArgs false
set_option linter.unusedVariables false

theorem add_zero (g j : Nat) : (⟨g, 0, none⟩ : Addr).add j = ⟨g, j, none⟩ := by unfold Addr.add; split <;> simp_all
theorem Sl.stay {w w' : World} {g s : Nat} {ys : List Value} (h : Sl w (some ⟨g, 0, none⟩) s ys) (e : w'.heap[g]? = w.heap[g]?) : Sl w' (some ⟨g, 0, none⟩) s ys :=
  ⟨h.1, fun j u hu => by
    obtain ⟨ad, e2, hc⟩ := h.2 j u hu
    cases e2
    refine ⟨_, rfl, ?_⟩
    rw [add_zero] at hc ⊢
    exact (World.cell?_of_block (w := w) e).trans hc⟩

/-- An element is appended to a row of the call's own: what stood before the end stays, in whatever slice it is read. -/
theorem wpList_push_keep {P : Program} {W : World} {ops : Array Oper} {rest : List Oper} {o : Oper} {a : Act} {Q : Exit → Act → World → Prop} (s x : Operand) (t e : TypeId) (i : TypeInfo) (z u : Value) (bytes : Nat)
    (hgd : o.guard = none) (ho : o.op = .call { callee := .builtin .append, args := #[s, x], argTypes := #[t, t] })
    (ht : P.underlying t = some (.slice e)) (hi : P.info? e = some i) (hz : i.zero = some z) (hs1 : i.size = 1) (hby : i.bytes = bytes) (hzs : z.cells.size = 1)
    (base : Nat) (v : Value) (n : Nat) (xs : List Value) (hown : W.ownsRow base e 1 v n xs) (hs : a.eval s = v) (hx : a.eval x = .slice (some ⟨W.heap.size, 0, none⟩) 1 1) (h1 : u.oneCell' = true)
    (hbytes : (n + 1) * bytes ≤ 140737488355328) (hpos : 1 ≤ bytes) (hbase : base ≤ W.heap.size)
    (h : ∀ v' w', w'.ownsRow base e 1 v' (n + 1) (xs ++ [u]) → Below base W w' → (∀ k, v'.ownBlock = some k → v.ownBlock = some k ∨ W.heap.size ≤ k) → (∀ k, k < W.heap.size → v.ownBlock ≠ some k → w'.heap[k]? = W.heap[k]?) →
      (∀ b s' ys, b < W.heap.size → s' ≤ n → Sl W (some ⟨b, 0, none⟩) s' ys → Sl w' (some ⟨b, 0, none⟩) s' ys) → wpList P ops Q rest (a.put o.dst v') w') :
    wpList P ops Q (o :: rest) a (W.alloc (.cells #[u] e)) := by
  have hn : n + 1 ≤ maxLen := by
    have : n + 1 ≤ (n + 1) * bytes := Nat.le_mul_of_pos_right _ hpos
    simp only [maxLen]; omega
  have hnew : ∀ (j : Nat) (y : Value), [u][j]? = some y → (W.alloc (.cells #[u] e)).cell? ((⟨W.heap.size, 0, none⟩ : Addr).add j) = some y := by
    intro j y hj
    match j, hj with
    | 0, hj => simp at hj; subst hj; simp [Addr.add]
  have hone : ∀ y ∈ [u], y.oneCell' = true := by intro y hy; simp at hy; subst hy; exact h1
  have hlx := own_len hown
  have hgrow : ∀ (v' : Value) (w' : World), w'.ownsRow (W.alloc (.cells #[u] e)).heap.size e 1 v' (n + 1) (xs ++ [u]) → (W.alloc (.cells #[u] e)).grownBy w' none → wpList P ops Q rest (a.put o.dst v') w' := by
    intro v' w' ho' hg
    have hsz : (W.alloc (.cells #[u] e)).heap.size = W.heap.size + 1 := nblk_alloc _ _
    have hst : ∀ k, k < W.heap.size → w'.heap[k]? = W.heap[k]? := fun k hk => (hg.block k (by rw [hsz]; omega) (by simp)).trans (blk_alloc_lt _ _ _ hk)
    refine h v' w' (own_base ho' (by rw [hsz]; omega)) ⟨hg.os, hg.tape, hg.output, by have := hg.size; rw [hsz] at this; omega, fun k hk => hst k (by omega)⟩ (fun k hk => Or.inr (by have := (ho'.lt k hk).1; rw [hsz] at this; omega)) (fun k hk _ => hst k hk) (fun b s' ys hb _ hsl => hsl.stay (hst b hb))
  rcases hown.2 with ⟨hv, hn0⟩ | ⟨g, cap, cur, hv, hg0, hg, hc, hcm, hcs, hct⟩
  · subst hn0
    subst hv
    have hx0 : xs = [] := List.eq_nil_of_length_eq_zero hlx.symm
    subst hx0
    exact wpList_append_grows _ hgd s x t ho e i z 1 bytes ht hi hz hs1 hby hzs (by decide) none 0 0 [] hs (fun _ => ⟨rfl, rfl⟩) rfl (fun b hb => by cases hb) ⟨W.heap.size, 0, none⟩ 1 1 [u] hx rfl hnew hone (by omega) hn hbytes hgrow
  · subst hv
    have hB : Blk W g e cur.toList := by unfold Blk; rw [hg]
    have hB2 : Blk (W.alloc (.cells #[u] e)) g e cur.toList := hB.alloc _
    have hcl : cur.toList.length = cap := by have : cur.size = cap * 1 := hcs; rw [Array.length_toList]; omega
    have hct2 : cur.toList.take n = xs := by have := hct; rw [Nat.mul_one] at this; exact this
    refine wpList_append_arg _ hgd s x t ho e i z 1 bytes ht hi hz hs1 hby hzs (by decide) g 0 n cap xs hs (by omega) (fun j y hj => ?_) ⟨W.heap.size, 0, none⟩ 1 1 [u] hx rfl hnew hone (fun hr j hj => ?_) hn hbytes (fun hr => ?_) (fun _ => hgrow)
    · rw [Nat.zero_add]
      refine hB2.cell ?_
      rw [← hct2, List.getElem?_take] at hj
      split at hj
      · exact hj
      · cases hj
    · simp at hj
      subst hj
      rw [Nat.zero_add, Nat.mul_one, Nat.add_zero]
      obtain ⟨y, hy⟩ : ∃ y, cur.toList[n]? = some y := ⟨_, List.getElem?_eq_getElem (by omega)⟩
      exact ⟨by rw [hB2.cell hy]; rfl, hB2.frozen n⟩
    · rw [Nat.zero_add, Nat.mul_one]
      have hB3 := setCells_blk [u] n (W.alloc (.cells #[u] e)) cur.toList hB2 (by simp; omega)
      have hst : ∀ k, k < W.heap.size → k ≠ g → ((W.alloc (.cells #[u] e)).setCells g n [u]).heap[k]? = W.heap[k]? := fun k hk hne => (setCells_other g [u] n _ k hne).trans (blk_alloc_lt _ _ _ hk)
      obtain ⟨m1, m2, m3⟩ := setCells_misc g [u] n (W.alloc (.cells #[u] e))
      have hsz : ((W.alloc (.cells #[u] e)).setCells g n [u]).heap.size = W.heap.size + 1 := by rw [setCells_size]; exact nblk_alloc _ _
      refine h _ _ ⟨by simp; omega, Or.inr ⟨g, cap, (cur.toList.take n ++ [u] ++ cur.toList.drop (n + [u].length)).toArray, rfl, hg0, hB3, hr, hcm, ?_, ?_⟩⟩ ⟨m1, m2, m3, by rw [hsz]; omega, fun k hk => hst k (by omega) (by omega)⟩ (fun k hk => Or.inl hk) (fun k hk hne => hst k hk (fun e => hne (by rw [e]; rfl))) (fun b s' ys hb hs' hsl => ?_)
      · simp; omega
      · rw [Nat.mul_one, hct2, List.append_assoc, ← List.append_assoc xs [u]]
        show (xs ++ [u] ++ _).toArray.toList.take (n + 1) = xs ++ [u]
        rw [List.take_left' (by simp; omega)]
      · by_cases e2 : b = g
        · subst e2
          refine ⟨hsl.1, fun j y hj => ?_⟩
          obtain ⟨ad, e3, hcj⟩ := hsl.2 j y hj
          cases e3
          refine ⟨_, rfl, ?_⟩
          have hjs : j < s' := by have := (List.getElem?_eq_some_iff.1 hj).1; have := hsl.1; omega
          rw [add_zero] at hcj ⊢
          obtain ⟨y', hy'⟩ : ∃ y', cur.toList[j]? = some y' := ⟨_, List.getElem?_eq_getElem (by omega)⟩
          have := hB.cell hy'
          rw [this] at hcj
          injection hcj with hcj
          subst hcj
          refine hB3.cell ?_
          rw [List.append_assoc, List.getElem?_append_left (by rw [List.length_take]; omega), List.getElem?_take, if_pos (by omega)]
          exact hy'
        · exact hsl.stay (hst b hb e2)
end Go.Proofs.YteliebinhdphlaaDoor
