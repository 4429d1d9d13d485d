/- A slice of the call's own that need not begin where its row begins: cut at the front, appended to. No function of the program is named here. -/
import Derived.Test.YtjokcofbabfcfaaLib
import Derived.ArgAppend
namespace Go.Proofs.Ytjokcofbabfcfaa
open Go.RowKit

/-- v is a slice of n one-cell elements, xs, in a block of the call's own (from 'base' on). -/
def OwnAt (w : World) (base : Nat) (e : TypeId) (g o cap n : Nat) (xs : List Value) : Prop :=
  base ≤ g ∧ n ≤ cap ∧ cap ≤ maxLen ∧ xs.length = n ∧ ∃ cur, w.heap[g]? = some (.cells cur e (0, 0)) ∧ o + cap ≤ cur.size ∧ ∀ j u, xs[j]? = some u → cur[o + j]? = some u

theorem OwnAt.of_row {w : World} {base : Nat} {e : TypeId} {v : Value} {n : Nat} {xs : List Value} (h : w.ownsRow base e 1 v n xs) (hn : 0 < n) :
    ∃ g cap, v = .slice (some ⟨g, 0, none⟩) n cap ∧ OwnAt w base e g 0 cap n xs := by
  rcases h.2 with ⟨_, h0⟩ | ⟨g, cap, cur, hv, hb, hg, hnc, hcm, hcs, htake⟩
  · omega
  · refine ⟨g, cap, hv, hb, hnc, hcm, by simpa using h.1, cur, hg, by omega, ?_⟩
    intro j u hj
    rw [← htake, List.getElem?_take] at hj
    split at hj
    · simpa using hj
    · simp at hj

theorem OwnAt.sl {w : World} {base : Nat} {e : TypeId} {g o cap n : Nat} {xs : List Value} (h : OwnAt w base e g o cap n xs) : Sl w (some ⟨g, o, none⟩) n xs := by
  obtain ⟨_, _, _, hl, cur, hg, _, hc⟩ := h
  refine ⟨hl, fun j u hj => ⟨_, rfl, ?_⟩⟩
  have ha : (⟨g, o, none⟩ : Addr).add j = ⟨g, o + j, none⟩ := by unfold Addr.add; split <;> simp_all
  rw [ha, cell_of_row w g (o + j) cur e (0, 0) hg]
  exact hc j u hj

theorem OwnAt.lt {w : World} {base : Nat} {e : TypeId} {g o cap n : Nat} {xs : List Value} (h : OwnAt w base e g o cap n xs) : g < w.heap.size := by
  obtain ⟨_, _, _, _, cur, hg, _⟩ := h
  exact (Array.getElem?_eq_some_iff.1 hg).1

theorem OwnAt.below {w w' : World} {base : Nat} {e : TypeId} {g o cap n : Nat} {xs : List Value} (h : OwnAt w base e g o cap n xs) (hb : Below w.heap.size w w') : OwnAt w' base e g o cap n xs := by
  have hlt := h.lt
  obtain ⟨h1, h2, h3, h4, cur, hg, h5, h6⟩ := h
  exact ⟨h1, h2, h3, h4, cur, (hb.block g hlt).trans hg, h5, h6⟩

/-- The slice without its first element. -/
theorem OwnAt.tail {w : World} {base : Nat} {e : TypeId} {g o cap n : Nat} {x : Value} {xs : List Value} (h : OwnAt w base e g o (cap + 1) (n + 1) (x :: xs)) : OwnAt w base e g (o + 1) cap n xs := by
  obtain ⟨h1, h2, h3, h4, cur, hg, h5, h6⟩ := h
  refine ⟨h1, by omega, by omega, by simpa using h4, cur, hg, by omega, fun j u hj => ?_⟩
  have := h6 (j + 1) u (by simpa using hj)
  rw [show o + 1 + j = o + (j + 1) by omega]
  exact this

/-- One element appended, at a step of a region that draws its order (for 'go_region_law'). -/
theorem step_push_at {P : Program} {W : World} {ops : Array Oper} {o : Oper} {a : Act} {K : Act → World → Prop} {Q : Exit → Act → World → Prop} {E : Prop} (s x : Operand) (t e : TypeId) (i : TypeInfo) (z u : Value) (bytes : Nat)
    (hgd : o.guard = none) (ho : o.op = .call { callee := .builtin .append, args := #[s, x], argTypes := #[t, t] })
    (ht : P.underlying t = some (.slice e)) (hi : P.info? e = some i) (hz : i.zero = some z) (hs1 : i.size = 1) (hby : i.bytes = bytes) (hzs : z.cells.size = 1)
    (base g off cap n : Nat) (xs : List Value) (hown : OwnAt W base e g off cap n xs) (hs : a.eval s = .slice (some ⟨g, off, none⟩) n cap) (hx : a.eval x = .slice (some ⟨W.heap.size, 0, none⟩) 1 1) (h1 : u.oneCell' = true)
    (hbytes : (n + 1) * bytes ≤ 140737488355328) (hpos : 1 ≤ bytes) (hbase : base ≤ W.heap.size)
    (h : ∀ g' off' cap' w', OwnAt w' base e g' off' cap' (n + 1) (xs ++ [u]) → Below base W w' → W.heap.size ≤ w'.heap.size → K (a.put o.dst (.slice (some ⟨g', off', none⟩) (n + 1) cap')) w') :
    if Region.wanted o (yielded ops a.tmps) = true then Oper.wp P o a (W.alloc (.cells #[u] e)) K Q else E := by
  have hw : Region.wanted o (yielded ops a.tmps) = true := by simp [Region.wanted, hgd]
  rw [if_pos hw]
  have hn : n + 1 ≤ maxLen := by
    have : n + 1 ≤ (n + 1) * bytes := Nat.le_mul_of_pos_right _ hpos
    simp only [maxLen]; omega
  have hlt := hown.lt
  have hsl := hown.sl
  obtain ⟨hb, hnc, hcm, hl, cur, hg, hcs, hcur⟩ := hown
  have hg2 : (W.alloc (.cells #[u] e)).heap[g]? = some (.cells cur e (0, 0)) := by rw [heap_alloc_old W _ hlt]; exact hg
  have hnews : ∀ j y, [u][j]? = some y → (W.alloc (.cells #[u] e)).cell? ((⟨W.heap.size, 0, none⟩ : Addr).add j) = some y := World.news_of_block (cs := #[u]) (heap_alloc_new W _)
  have hone : ∀ y ∈ [u], y.oneCell' = true := by intro y hy; simp at hy; subst hy; exact h1
  have hal : Below base W (W.alloc (.cells #[u] e)) := (Below.refl _ _).alloc hbase _
  by_cases hroom : n + 1 ≤ cap
  · have hr := run_append_room_cells (P := P) (W.alloc (.cells #[u] e)) t o.type e i ht hi g off n cap ⟨W.heap.size, 0, none⟩ 1 1 [u] (by rw [hs1]; rfl) hnews hone hroom
      (fun j hj => by
        simp at hj; subst hj
        rw [cell_of_row _ g _ cur e (0, 0) hg2, hs1, Array.getElem?_eq_getElem (by omega)]; rfl)
      (fun j hj => frozen_of_row _ g _ cur e hg2)
    rw [hs1] at hr
    unfold Oper.wp execOp
    simp only [ho, resolve, invoke, builtin, Sem.run_bind, Sem.run_pure, Result.andThen_ok, List.map_toArray, List.map_cons, List.map_nil, hs, hx, hr]
    refine h g off cap _ ⟨hb, hroom, hcm, by simp [hl], cur.setIfInBounds (off + n) u, ?_, by simpa using hcs, ?_⟩ ?_ ?_
    · rw [Nat.mul_one]; exact heap_setCell_same _ g (off + n) cur e u hg2
    · intro j y hj
      rw [Array.getElem?_setIfInBounds]
      rcases Nat.lt_or_ge j n with hjn | hjn
      · rw [List.getElem?_append_left (by omega)] at hj
        rw [if_neg (by omega)]
        exact hcur j y hj
      · have hjl : j < (xs ++ [u]).length := (List.getElem?_eq_some_iff.1 hj).1
        simp [hl] at hjl
        obtain rfl : j = n := by omega
        rw [if_pos rfl, if_pos (by omega)]
        rw [List.getElem?_append_right (by omega), hl] at hj
        simpa using hj
    · show Below base W ((W.alloc (.cells #[u] e)).setCell ⟨g, off + n * 1, none⟩ u)
      exact hal.setCell (p := ⟨g, off + n * 1, none⟩) hb u
    · show W.heap.size ≤ ((W.alloc (.cells #[u] e)).setCell ⟨g, off + n * 1, none⟩ u).heap.size
      exact ((Below.refl base (W.alloc (.cells #[u] e))).setCell (p := ⟨g, off + n * 1, none⟩) hb u).size |> Nat.le_trans (by simp)
  · obtain ⟨v', w', hr, hown', hgr⟩ := run_append_arg_grows (P := P) (W.alloc (.cells #[u] e)) t o.type e i z 1 bytes ht hi hz hs1 hby hzs (by decide) ⟨g, off, none⟩ n cap xs (by omega)
      (fun j y hj => by
        obtain ⟨ad, had, hc⟩ := (hsl.below (below_alloc W (.cells #[u] e))).2 j y hj
        cases had
        exact hc)
      ⟨W.heap.size, 0, none⟩ 1 1 [u] rfl hnews (by omega) hn hbytes
    obtain ⟨g', cap', rfl, hown2⟩ := OwnAt.of_row hown' (by omega)
    unfold Oper.wp execOp
    simp only [ho, resolve, invoke, builtin, Sem.run_bind, Sem.run_pure, Result.andThen_ok, List.map_toArray, List.map_cons, List.map_nil, hs, hx, hr]
    have hbel : Below base W w' := hal.grown hgr (by simp; omega) (by simp)
    obtain ⟨q1, q2⟩ := hown2
    refine h g' 0 cap' w' ⟨?_, q2⟩ hbel hbel.size
    simp at q1
    omega
end Go.Proofs.Ytjokcofbabfcfaa
