/- Merged texts: Lib Math Vals Zeros Same Crc More Sum SumOne CrcLaid Bit Bits Number Put Get Get2 GB BitN CTurn. -/
import Derived.WalkKit
import Derived.ProofKit
import Derived.OpenShut
import Derived.Below
import Derived.RegionTactic
import Derived.ChangeAlike
import Derived.Deep.QuietTactic
import Derived.BigQuiet
import Derived.Deep.RegionWith
import Derived.Deep.Draws
import Derived.Lib.Hide
import Derived.Maps.AppendAt
import Derived.Deep.AppendLies
import Derived.Deep.DeepCutAuto
import Derived.Deep.RegionLaw
import Derived.Test.YteliebinhdphlaaDoorChecked
import Derived.Test.YteliebinhdphlaaDoorRows
import Derived.Deep.DeepHandedRow
import Derived.Lib.LaidTab
/- Plain words for memory, used by all proofs of this seat: a slice value that reads as a list of cells; a row of the call's own; what a call leaves as it was. No function of the program is named here. -/
namespace Go.Proofs.YteliebinhdphlaaDoor
set_option maxRecDepth 100000
open Go.RowKit
set_option linter.unusedSimpArgs false
set_option linter.unusedVariables false

theorem addr_block (a : Addr) (n : Nat) : (a.add n).block = a.block := by
  unfold Addr.add
  split <;> rfl
theorem addr_twice (a : Addr) (i j : Nat) : (a.add i).add j = a.add (i + j) := by
  unfold Addr.add
  by_cases hi : i = 0 <;> by_cases hj : j = 0 <;> simp [hi, hj, Nat.add_assoc]

/-- The slice at A of n one-cell elements reads as the cells xs. -/
def Sl (w : World) (A : Option Addr) (n : Nat) (xs : List Value) : Prop :=
  xs.length = n ∧ ∀ j u, xs[j]? = some u → ∃ ad, A = some ad ∧ w.cell? (ad.add j) = some u

theorem Sl.at_ {w : World} {A : Option Addr} {n k : Nat} {xs : List Value} (h : Sl w A n xs) (hk : k < n) : ∃ ad, A = some ad ∧ w.cell? (ad.add k) = some (xs.getD k undef) := by
  have hl : k < xs.length := by rw [h.1]; exact hk
  obtain ⟨ad, e, hc⟩ := h.2 k xs[k] (List.getElem?_eq_getElem hl)
  exact ⟨ad, e, by simpa [List.getD, List.getElem?_eq_getElem hl] using hc⟩

/-- The k-th element of a slice of integers, under a name of its own. -/
theorem Sl.num {w : World} {kd : IntKind} {A : Option Addr} {n k : Nat} {xs : List Int} (h : Sl w A n (xs.map (Value.int kd))) (hk : k < n) : ∃ ad u, A = some ad ∧ w.cell? (ad.add k) = some (.int kd u) ∧ xs[k]? = some u := by
  have hl : k < xs.length := by have := h.1; simp at this; omega
  obtain ⟨ad, e, hc⟩ := h.2 k (.int kd xs[k]) (by simp [List.getElem?_eq_getElem hl])
  exact ⟨ad, _, e, hc, List.getElem?_eq_getElem hl⟩

theorem Sl.nil_ (w : World) (A : Option Addr) : Sl w A 0 [] := ⟨rfl, fun j u h => by simp at h⟩

theorem Sl.below {w w' : World} {A : Option Addr} {n : Nat} {xs : List Value} (h : Sl w A n xs) (hb : Below w.heap.size w w') : Sl w' A n xs :=
  ⟨h.1, fun j u hu => by
    obtain ⟨ad, e, hc⟩ := h.2 j u hu
    exact ⟨ad, e, (hb.cell (World.block_lt_of_cell? w _ hc)).trans hc⟩⟩

theorem Sl.drewN {w : World} {A : Option Addr} {n : Nat} {xs : List Value} (h : Sl w A n xs) (k : Nat) : Sl (w.drewN k) A n xs := h

theorem own_form {w : World} {base : Nat} {e : TypeId} {v : Value} {n : Nat} {xs : List Value} (h : w.ownsRow base e 1 v n xs) : ∃ A c, v = .slice A n c ∧ Sl w A n xs := by
  rcases h.2 with ⟨rfl, rfl⟩ | ⟨g, cap, cur, rfl, _, hg, _, _, _, _⟩
  · exact ⟨none, 0, rfl, by simpa using h.1, fun j u hu => by
      have : xs = [] := List.eq_nil_of_length_eq_zero (by simpa using h.1)
      subst this
      simp at hu⟩
  · exact ⟨_, cap, rfl, by simpa using h.1, fun j u hu => ⟨_, rfl, h.cells (g := g) rfl j u hu⟩⟩

theorem own_below {w w' : World} {base : Nat} {e : TypeId} {size : Nat} {v : Value} {n : Nat} {xs : List Value} (h : w.ownsRow base e size v n xs) (hb : Below w.heap.size w w') : w'.ownsRow base e size v n xs := by
  refine ⟨h.1, ?_⟩
  rcases h.2 with h2 | ⟨g, cap, cur, hv, hg, hh, r⟩
  · exact .inl h2
  · exact .inr ⟨g, cap, cur, hv, hg, (hb.block g (Array.getElem?_eq_some_iff.1 hh).1).trans hh, r⟩

theorem own_base {w : World} {base base' : Nat} {e : TypeId} {size : Nat} {v : Value} {n : Nat} {xs : List Value} (h : w.ownsRow base e size v n xs) (hb : base' ≤ base) : w.ownsRow base' e size v n xs := by
  refine ⟨h.1, ?_⟩
  rcases h.2 with h2 | ⟨g, cap, cur, hv, hg, hh, r⟩
  · exact .inl h2
  · exact .inr ⟨g, cap, cur, hv, by omega, hh, r⟩

theorem below_drewN {B : Nat} {a w : World} (h : Below B a w) (n : Nat) : Below B a (w.drewN n) := ⟨h.os, h.tape, h.output, h.size, h.block⟩

/-- One element appended to a row of the call's own: the element lies in a new block of one cell. -/
theorem wpList_push {P : Program} {W : World} {ops : Array Oper} {rest : List Oper} {o : Oper} {a : Act} {Q : Exit → Act → World → Prop} (s x : Operand) (t e : TypeId) (i : TypeInfo) (z u : Value) (bytes : Nat)
    (hgd : o.guard = none) (ho : o.op = .call { callee := .builtin .append, args := #[s, x], argTypes := #[t, t] })
    (ht : P.underlying t = some (.slice e)) (hi : P.info? e = some i) (hz : i.zero = some z) (hs1 : i.size = 1) (hby : i.bytes = bytes) (hzs : z.cells.size = 1)
    (base : Nat) (v : Value) (n : Nat) (xs : List Value) (hown : W.ownsRow base e 1 v n xs) (hs : a.eval s = v) (hx : a.eval x = .slice (some ⟨W.heap.size, 0, none⟩) 1 1) (h1 : u.oneCell' = true)
    (hbytes : (n + 1) * bytes ≤ 140737488355328) (hpos : 1 ≤ bytes) (hbase : base ≤ W.heap.size)
    (h : ∀ v' w', w'.ownsRow base e 1 v' (n + 1) (xs ++ [u]) → (W.alloc (.cells #[u] e)).grownBy w' v.ownBlock → Below base W w' → W.heap.size ≤ w'.heap.size → wpList P ops Q rest (a.put o.dst v') w') :
    wpList P ops Q (o :: rest) a (W.alloc (.cells #[u] e)) := by
  have hn : n + 1 ≤ maxLen := by
    have : n + 1 ≤ (n + 1) * bytes := Nat.le_mul_of_pos_right _ hpos
    simp only [maxLen]; omega
  refine wpList_append_own _ hgd s x t ho base e i z 1 bytes ht hi hz hs1 hby hzs (by decide) v n xs hs (hown.alloc _) ⟨W.heap.size, 0, none⟩ 1 1 [u] hx rfl ?_ ?_ hn hbytes (by simp; omega) ?_
  · intro j y hj
    match j, hj with
    | 0, hj => simp at hj; subst hj; simp [Addr.add]
  · intro y hy; simp at hy; subst hy; exact h1
  · intro v' w' hown' hg _
    have hb : Below base W w' := ((Below.refl _ _).alloc hbase _).grown hg (by simp; omega) (fun k hk => (hown.lt k hk).1)
    exact h v' w' hown' hg hb hb.size

/-- The same, at a step of a region that draws its order (for 'go_region_law'). -/
theorem step_push {P : Program} {W : World} {ops : Array Oper} {o : Oper} {a : Act} {K : Act → World → Prop} {Q : Exit → Act → World → Prop} {E : Prop} (s x : Operand) (t e : TypeId) (i : TypeInfo) (z u : Value) (bytes : Nat)
    (hgd : o.guard = none) (ho : o.op = .call { callee := .builtin .append, args := #[s, x], argTypes := #[t, t] })
    (ht : P.underlying t = some (.slice e)) (hi : P.info? e = some i) (hz : i.zero = some z) (hs1 : i.size = 1) (hby : i.bytes = bytes) (hzs : z.cells.size = 1)
    (base : Nat) (v : Value) (n : Nat) (xs : List Value) (hown : W.ownsRow base e 1 v n xs) (hs : a.eval s = v) (hx : a.eval x = .slice (some ⟨W.heap.size, 0, none⟩) 1 1) (h1 : u.oneCell' = true)
    (hbytes : (n + 1) * bytes ≤ 140737488355328) (hpos : 1 ≤ bytes) (hbase : base ≤ W.heap.size)
    (h : ∀ v' w', w'.ownsRow base e 1 v' (n + 1) (xs ++ [u]) → Below base W w' → W.heap.size ≤ w'.heap.size → K (a.put o.dst v') w') :
    if Region.wanted o (yielded ops a.tmps) = true then Oper.wp P o a (W.alloc (.cells #[u] e)) K Q else E := by
  have hn : n + 1 ≤ maxLen := by
    have : n + 1 ≤ (n + 1) * bytes := Nat.le_mul_of_pos_right _ hpos
    simp only [maxLen]; omega
  refine step_append_lies _ hgd s x t ho base e i z 1 bytes ht hi hz hs1 hby hzs (by decide) v n xs hs (hown.alloc _) ⟨W.heap.size, 0, none⟩ 1 1 [u] hx rfl ?_ ?_ (by omega) hn hbytes (by simp; omega) _ rfl ?_
  · exact World.news_of_block (cs := #[u]) (heap_alloc_new W _)
  · intro y hy; simp at hy; subst hy; exact h1
  · intro g cap w' hown' hg _ _
    have hb : Below base W w' := ((Below.refl _ _).alloc hbase _).grown hg (by simp; omega) (fun k hk => (hown.lt k hk).1)
    exact h _ w' hown' hb hb.size

/-- A new slice of n one-cell elements. -/
theorem wpList_mk {P : Program} {w : World} {ops : Array Oper} {rest : List Oper} {o : Oper} {a : Act} {Q : Exit → Act → World → Prop} (l c : Operand) (t e : TypeId) (i : TypeInfo) (z : Value) (bytes n : Nat)
    (hgd : o.guard = none) (hop : o.op = Op.makeSlice t l c) (ht : P.underlying t = some (.slice e)) (hi : P.info? e = some i) (hz : i.zero = some z) (hs1 : i.size = 1) (hby : i.bytes = bytes) (hzs : z.cells = #[z])
    (kl kc : IntKind) (L C : Int) (hl : a.eval l = .int kl L) (hc : a.eval c = .int kc C) (hL : L = (n : Int)) (hC : C = (n : Int)) (hn : bytes * n ≤ 281474976710656) (hm : n ≤ 9223372036854775807)
    (h : ∀ w', w'.ownsRow w.heap.size e 1 (.slice (some ⟨w.heap.size, 0, none⟩) n n) n (List.replicate n z) → Below w.heap.size w w' → wpList P ops Q rest (a.put o.dst (.slice (some ⟨w.heap.size, 0, none⟩) n n)) w') :
    wpList P ops Q (o :: rest) a w := by
  refine wpList_make_full w hgd l c t hop w.heap.size e i z 1 ht hi hz hs1 kl kc L C n hl hc hL hC (by rw [hby]; exact hn) (by simp only [maxLen]; omega) (Nat.le_refl _) ?_
  intro w' hown hg
  rw [Nat.mul_one, hzs, toList_madeCells_one] at hown
  exact h w' hown ((Below.refl _ _).grown hg (Nat.le_refl _) (by simp))

/-- A new block reads as what was laid into it. -/
theorem Sl.new_ (w : World) (e : TypeId) (xs : List Value) (n : Nat) (h : xs.length = n) : Sl (w.alloc (.cells xs.toArray e)) (some ⟨w.heap.size, 0, none⟩) n xs := by
  refine ⟨h, fun j u hu => ⟨_, rfl, ?_⟩⟩
  have ha : (⟨w.heap.size, 0, none⟩ : Addr).add j = ⟨w.heap.size, j, none⟩ := by unfold Addr.add; split <;> simp_all
  rw [ha, cell_of_row _ w.heap.size j xs.toArray e (0, 0) (heap_alloc_new w _)]
  simpa using hu

theorem below_alloc (w : World) (o : Obj) : Below w.heap.size w (w.alloc o) := (Below.refl _ _).alloc (Nat.le_refl _) o

/-- An argument that is a slice of integers: its elements are the first of what its row holds. -/
theorem Sl.of_row {kd : IntKind} {w : World} {x : Addr} {len cap : Nat} {zs : List Int} (hl : len ≤ cap) (hz : zs.length = cap) (hcell : ∀ i, i < zs.length → w.cell? (x.add i) = some (.int kd (zs.getD i 0))) :
    Sl w (some x) len ((zs.take len).map (Value.int kd)) := by
  refine ⟨by simp; omega, fun j u hu => ⟨x, rfl, ?_⟩⟩
  rw [List.getElem?_map, List.getElem?_take] at hu
  split at hu
  · have hj : j < zs.length := by omega
    rw [List.getElem?_eq_getElem hj] at hu
    rw [hcell j hj, show zs.getD j 0 = zs[j] by simp [List.getD, List.getElem?_eq_getElem hj]]
    simpa using hu
  · simp at hu

/-- A new block of one-cell elements is a row of the call's own. -/
theorem own_new (w : World) (e : TypeId) (xs : List Value) (n : Nat) (h : xs.length = n) (hm : n ≤ 9223372036854775807) : (w.alloc (.cells xs.toArray e)).ownsRow w.heap.size e 1 (.slice (some ⟨w.heap.size, 0, none⟩) n n) n xs := by
  have := World.ownsRow_lit (base := w.heap.size) (e := e) (size := 1) w xs.toArray n (Nat.le_refl _) (by simp only [maxLen]; omega) (by simp [h])
  simpa using this

/-- All elements of one slice appended to a row of the call's own; the slice may be nil. -/
theorem wpList_cat {P : Program} {W : World} {ops : Array Oper} {rest : List Oper} {o : Oper} {a : Act} {Q : Exit → Act → World → Prop} (s x : Operand) (t e : TypeId) (i : TypeInfo) (z : Value) (bytes : Nat)
    (hgd : o.guard = none) (ho : o.op = .call { callee := .builtin .append, args := #[s, x], argTypes := #[t, t] })
    (ht : P.underlying t = some (.slice e)) (hi : P.info? e = some i) (hz : i.zero = some z) (hs1 : i.size = 1) (hby : i.bytes = bytes) (hzs : z.cells.size = 1)
    (base : Nat) (v : Value) (n : Nat) (xs : List Value) (hown : W.ownsRow base e 1 v n xs) (A : Option Addr) (m c : Nat) (ys : List Value) (hsl : Sl W A m ys) (hs : a.eval s = v) (hx : a.eval x = .slice A m c) (h1 : ∀ u ∈ ys, u.oneCell' = true)
    (hbytes : (n + m) * bytes ≤ 140737488355328) (hpos : 1 ≤ bytes) (hbase : base ≤ W.heap.size)
    (h : ∀ v' w', w'.ownsRow base e 1 v' (n + m) (xs ++ ys) → W.grownBy w' v.ownBlock → Below base W w' → W.heap.size ≤ w'.heap.size → wpList P ops Q rest (a.put o.dst v') w') :
    wpList P ops Q (o :: rest) a W := by
  have hn : n + m ≤ maxLen := by
    have : n + m ≤ (n + m) * bytes := Nat.le_mul_of_pos_right _ hpos
    simp only [maxLen]; omega
  rcases A with _ | ad
  · have hy : ys = [] := by
      cases ys with
      | nil => rfl
      | cons y r =>
        obtain ⟨ad, e, _⟩ := hsl.2 0 y rfl
        cases e
    subst hy
    obtain rfl : m = 0 := by simpa using hsl.1.symm
    have hrun : (Builtin.append_ #[t, t] o.type #[v, .slice none 0 c]).run P W = .ok v W := by
      rcases hown.2 with ⟨rfl, rfl⟩ | ⟨g, cap, cur, rfl, _, _, hnc, _⟩
      · simp [Builtin.append_, run_underlying ht, sizeOf, typeInfo, hi, Builtin.lenOf, Builtin.firstCells]
      · simp [Builtin.append_, run_underlying ht, sizeOf, typeInfo, hi, Builtin.lenOf, Builtin.firstCells, hnc, storeCells]
    refine wpList_plain hgd fun K hK => ?_
    unfold Oper.wp execOp
    simp only [ho, resolve, invoke, builtin, Sem.run_bind, Sem.run_pure, Result.andThen_ok, List.map_toArray, List.map_cons, List.map_nil, hs, hx, hrun]
    exact hK _ _ (h v W (by simpa using hown) ⟨rfl, rfl, rfl, Nat.le_refl _, fun _ _ _ => rfl⟩ (Below.refl _ _) (Nat.le_refl _))
  · refine wpList_append_own W hgd s x t ho base e i z 1 bytes ht hi hz hs1 hby hzs (by decide) v n xs hs hown ad m c ys hx (by simpa using hsl.1) ?_ h1 hn hbytes hbase ?_
    · intro j y hj
      obtain ⟨ad', e, hc⟩ := hsl.2 j y hj
      cases e
      exact hc
    · intro v' w' hown' hg _
      exact h v' w' hown' hg ((Below.refl _ _).grown hg hbase (fun k hk => (hown.lt k hk).1)) hg.size

theorem ints_one {kd : IntKind} {xs : List Int} : ∀ u ∈ xs.map (Value.int kd), u.oneCell' = true := by
  intro u hu
  obtain ⟨y, _, rfl⟩ := List.mem_map.1 hu
  rfl

/-- The first k elements of a row of the call's own are one, too. -/
theorem own_cut {w : World} {base : Nat} {e : TypeId} {A : Option Addr} {n c k : Nat} {xs : List Value} (h : w.ownsRow base e 1 (.slice A n c) n xs) (hk : k ≤ n) : w.ownsRow base e 1 (.slice A k c) k (xs.take k) := by
  refine ⟨by have := h.1; simp; omega, ?_⟩
  rcases h.2 with ⟨hv, rfl⟩ | ⟨g, cap, cur, hv, hg, hh, h1, h2, h3, h4⟩
  · obtain rfl : k = 0 := by omega
    exact .inl ⟨by simpa using hv, rfl⟩
  · simp only [Value.slice.injEq] at hv
    obtain ⟨rfl, _, rfl⟩ := hv
    exact .inr ⟨g, c, cur, rfl, hg, hh, by omega, h2, h3, by rw [← h4, List.take_take]; congr 1; omega⟩

theorem own_cap {w : World} {base : Nat} {e : TypeId} {size : Nat} {A : Option Addr} {n c : Nat} {xs : List Value} (h : w.ownsRow base e size (.slice A n c) n xs) : n ≤ c := by
  rcases h.2 with ⟨hv, rfl⟩ | ⟨g, cap, cur, hv, hg, hh, h1, h2, h3, h4⟩
  · omega
  · simp only [Value.slice.injEq] at hv
    omega

/-- The first k elements of a slice. -/
theorem Sl.take {w : World} {A : Option Addr} {n k : Nat} {xs : List Value} (h : Sl w A n xs) (hk : k ≤ n) : Sl w A k (xs.take k) :=
  ⟨by rw [List.length_take, h.1]; omega, fun j u hu => by
    rw [List.getElem?_take] at hu
    split at hu
    · exact h.2 j u hu
    · simp at hu⟩

theorem own_len {w : World} {base : Nat} {e : TypeId} {v : Value} {n : Nat} {xs : List Value} (h : w.ownsRow base e 1 v n xs) : n = xs.length := by simpa using h.1.symm
end Go.Proofs.YteliebinhdphlaaDoor

/- Plain lemmas on numbers: no program is named here. -/
namespace Go.Proofs.YteliebinhdphlaaDoor
set_option maxRecDepth 100000
open Go.RowKit
set_option linter.unusedSimpArgs false
set_option linter.unusedVariables false

theorem half_pow (n : Int) (i : Nat) : n / 2 ^ i / 2 = n / 2 ^ (i + 1) := by
  rw [Int.pow_succ, Int.ediv_ediv_of_nonneg (Int.le_of_lt (Int.pow_pos (by omega)))]

theorem tdiv_two {q : Int} (h : q < 0) : q.tdiv 2 = -((-q) / 2) := by
  have : q = -(-q) := by omega
  conv => lhs; rw [this, Int.neg_tdiv, Int.tdiv_eq_ediv_of_nonneg (by omega)]
theorem tmod_two {q : Int} (h : q < 0) : q.tmod 2 = -((-q) % 2) := by
  have : q = -(-q) := by omega
  conv => lhs; rw [this, Int.neg_tmod, Int.tmod_eq_emod_of_nonneg (by omega)]

theorem bit_odd {q : Int} (h : q < 0) (h1 : -9223372036854775808 ≤ q) (ho : (q.tmod 2 != 0) = true) : wrap64 ((wrap64 (q - 1)).tdiv 2) = q / 2 := by
  rw [tmod_two h] at ho
  simp at ho
  have e : wrap64 (q - 1) = q - 1 := IntWalk.wrap64_in _ ⟨by omega, by omega⟩
  rw [e, tdiv_two (by omega), IntWalk.wrap64_in _ ⟨by omega, by omega⟩]
  omega
theorem bit_even {q : Int} (h : q < 0) (ho : (q.tmod 2 != 0) = false) : q.tdiv 2 = q / 2 := by
  rw [tmod_two h] at ho
  simp at ho
  rw [tdiv_two h]
  omega
theorem bit_zero {q : Int} (h : (q.tmod 2 == 0) = true) : q % 2 = 0 := by
  rcases (show q < 0 ∨ 0 ≤ q by omega) with hq | hq
  · rw [tmod_two hq] at h; simp at h; omega
  · rw [Int.tmod_eq_emod_of_nonneg hq] at h; simpa using h
theorem bit_one {q : Int} (h : (q.tmod 2 == 0) = false) : q % 2 = 1 := by
  rcases (show q < 0 ∨ 0 ≤ q by omega) with hq | hq
  · rw [tmod_two hq] at h; simp at h; omega
  · rw [Int.tmod_eq_emod_of_nonneg hq] at h; simp at h; omega

/-- The first k of m places hold f, the others z. -/
def fillTo {α : Type} (f : Nat → α) (z : α) (m k : Nat) : List α := (List.range m).map fun i => if i < k then f i else z
theorem fillTo_length {α : Type} (f : Nat → α) (z : α) (m k : Nat) : (fillTo f z m k).length = m := by simp [fillTo]
theorem fillTo_zero {α : Type} (f : Nat → α) (z : α) (m : Nat) : fillTo f z m 0 = List.replicate m z := by
  apply List.ext_getElem (by simp [fillTo])
  intro i h1 h2
  simp [fillTo]
theorem fillTo_full {α : Type} (f : Nat → α) (z : α) (m : Nat) : fillTo f z m m = (List.range m).map f := by
  apply List.ext_getElem (by simp [fillTo])
  intro i h1 h2
  simp [fillTo] at h1 ⊢
  intro h; omega
theorem fillTo_set {α : Type} (f : Nat → α) (z : α) (m k : Nat) : (fillTo f z m k).set k (f k) = fillTo f z m (k + 1) := by
  apply List.ext_getElem (by simp [fillTo])
  intro i h1 h2
  simp [fillTo] at h1 ⊢
  rw [List.getElem_set]
  split
  · subst_vars; simp
  · simp
    by_cases h : i < k
    · rw [if_pos h, if_pos (by omega)]
    · rw [if_neg h, if_neg (by omega)]

/-- The number of digits to the base b, the lowest first. -/
def val (b : Int) : List Int → Int
  | [] => 0
  | x :: r => x + b * val b r
theorem val_nil (b : Int) : val b [] = 0 := rfl
theorem val_cons (b x : Int) (r : List Int) : val b (x :: r) = x + b * val b r := rfl
theorem val_append (b : Int) (l r : List Int) : val b (l ++ r) = val b l + b ^ l.length * val b r := by
  induction l with
  | nil => simp [val]
  | cons x l ih => rw [List.cons_append, val_cons, val_cons, ih, List.length_cons, Int.pow_succ, Int.mul_add, Int.add_assoc, ← Int.mul_assoc, Int.mul_comm b (b ^ l.length)]
theorem val_snoc (b x : Int) (l : List Int) : val b (l ++ [x]) = val b l + b ^ l.length * x := by
  rw [val_append]; simp [val]
theorem val_range (b : Int) (hb : 0 < b) (l : List Int) (h : ∀ x ∈ l, 0 ≤ x ∧ x < b) : 0 ≤ val b l ∧ val b l < b ^ l.length := by
  induction l with
  | nil => simp [val]
  | cons x l ih =>
    obtain ⟨h1, h2⟩ := ih fun y hy => h y (List.mem_cons_of_mem _ hy)
    obtain ⟨h3, h4⟩ := h x List.mem_cons_self
    rw [val_cons, List.length_cons, Int.pow_succ]
    refine ⟨Int.add_nonneg h3 (Int.mul_nonneg (by omega) h1), ?_⟩
    have : b * (val b l + 1) ≤ b * b ^ l.length := Int.mul_le_mul_of_nonneg_left (by omega) (by omega)
    rw [Int.mul_add, Int.mul_one] at this
    rw [Int.mul_comm (b ^ l.length) b]
    omega

theorem take_snoc {α : Type} (l : List α) (k : Nat) (u : α) (h : l[k]? = some u) : l.take (k + 1) = l.take k ++ [u] := by
  have hk : k < l.length := (List.getElem?_eq_some_iff.1 h).1
  rw [List.take_succ_eq_append_getElem hk, (List.getElem?_eq_some_iff.1 h).2]
theorem drop_at {α : Type} (l : List α) (k : Nat) (u : α) (h : l[k]? = some u) : l.drop k = u :: l.drop (k + 1) := by
  have hk : k < l.length := (List.getElem?_eq_some_iff.1 h).1
  rw [List.drop_eq_getElem_cons hk, (List.getElem?_eq_some_iff.1 h).2]

/-- A byte of a number that is cut to 64 bits. -/
def byteAt (n : Int) (i : Nat) : Int := n / 2 ^ (8 * i) % 256
theorem byte_of_wrap (n : Int) (k : Nat) (h : k < 8) : IntKind.u64.wrap n / 2 ^ (8 * k) % 256 = byteAt n k := by
  unfold byteAt
  rw [IntKind.wrap_u64]
  rcases (show k = 0 ∨ k = 1 ∨ k = 2 ∨ k = 3 ∨ k = 4 ∨ k = 5 ∨ k = 6 ∨ k = 7 by omega) with rfl | rfl | rfl | rfl | rfl | rfl | rfl | rfl <;> simp <;> omega

/-- m bits of a number from the a-th on, read from the highest down. -/
theorem bits_step (n : Int) (a m : Nat) : 2 * (n / 2 ^ (a + 1) % 2 ^ m) + n / 2 ^ a % 2 = n / 2 ^ a % 2 ^ (m + 1) := by
  rw [← half_pow]
  generalize n / 2 ^ a = q
  have hp : (0 : Int) < 2 ^ m := Int.pow_pos (by omega)
  rw [Int.pow_succ, Int.mul_comm (2 ^ m) 2]
  generalize (2 : Int) ^ m = p at hp
  have h1 := Int.emod_add_mul_ediv (q / 2) p
  have h2 : q = 2 * (q / 2) + q % 2 := by omega
  generalize q / 2 / p = d at h1
  have h3 : 0 ≤ q / 2 % p := Int.emod_nonneg _ (by omega)
  have h4 : q / 2 % p < p := Int.emod_lt_of_pos _ hp
  generalize hr : q / 2 % p = r at *
  generalize hs : q % 2 = s at *
  have hs2 : 0 ≤ s ∧ s < 2 := by omega
  have e : q = (2 * r + s) + (2 * p) * d := by
    rw [h2, ← h1, Int.mul_assoc, Int.mul_add]
    omega
  rw [e, Int.add_mul_emod_self_left, Int.emod_eq_of_lt (by omega) (by omega)]

theorem emod_pow_lt (x : Int) (m k : Nat) (h : m ≤ k) : 0 ≤ x % 2 ^ m ∧ x % 2 ^ m < 2 ^ k := by
  have hp : (0 : Int) < 2 ^ m := Int.pow_pos (by omega)
  have h1 := Int.emod_nonneg x (show (2 : Int) ^ m ≠ 0 by omega)
  have h2 := Int.emod_lt_of_pos x hp
  have h3 : (2 : Int) ^ m ≤ 2 ^ k := by exact_mod_cast Nat.pow_le_pow_right (show 0 < 2 by omega) h
  omega


theorem pow256 (k : Nat) : (2 : Int) ^ (8 * k) = 256 ^ k := by rw [Int.pow_mul]; rfl

/-- One digit more, laid on by 'or': nothing overlaps. -/
theorem or_join (q u : Int) (a d : Nat) (hq : 0 ≤ q) (hq2 : q < 2 ^ a) (hu : 0 ≤ u) (hu2 : u < 2 ^ d) (ha : a + d ≤ 64) :
    bits .or .u64 q (IntKind.u64.wrap (u * 2 ^ a)) = q + u * 2 ^ a ∧ q + u * 2 ^ a < 18446744073709551616 := by
  obtain ⟨x, rfl⟩ := Int.eq_ofNat_of_zero_le hq
  obtain ⟨y, rfl⟩ := Int.eq_ofNat_of_zero_le hu
  have hx : x < 2 ^ a := by exact_mod_cast hq2
  have hy : y < 2 ^ d := by exact_mod_cast hu2
  have h1 : (y + 1) * 2 ^ a ≤ 2 ^ d * 2 ^ a := Nat.mul_le_mul_right _ hy
  have h2 : 2 ^ d * 2 ^ a ≤ 2 ^ 64 := by rw [← Nat.pow_add]; exact Nat.pow_le_pow_right (by omega) (by omega)
  have h3 : (2 : Nat) ^ 64 = 18446744073709551616 := by decide
  rw [Nat.add_mul] at h1
  have e : ((y : Int) * 2 ^ a) = ((y * 2 ^ a : Nat) : Int) := by simp
  rw [e]
  have hz : y * 2 ^ a < 18446744073709551616 := by omega
  have hm : x < 18446744073709551616 := by omega
  rw [IntKind.wrap_u64, show (((y * 2 ^ a : Nat) : Int)) % 18446744073709551616 = ((y * 2 ^ a : Nat) : Int) by omega, u64_or_nat _ _ hm hz, Nat.or_comm, nat_join a (y * 2 ^ a) x (by simp) hx]
  omega

theorem ofInt_max : BitVec.ofInt 64 18446744073709551615 = BitVec.allOnes 64 := by decide
theorem u64_max : IntKind.u64.max = 18446744073709551615 := by decide
/-- All 64 bits the other way. -/
theorem u64_not (x : Int) (h0 : 0 ≤ x) (h1 : x < 18446744073709551616) : bits .xor .u64 IntKind.u64.max x = 18446744073709551615 - x := by
  obtain ⟨y, rfl⟩ := Int.eq_ofNat_of_zero_le h0
  rw [u64_max]
  show IntKind.u64.wrap ((BitVec.ofInt 64 18446744073709551615 ^^^ BitVec.ofInt 64 (y : Int)).toNat : Int) = _
  rw [ofInt_max, BitVec.allOnes_xor, BitVec.toNat_not, ofInt_u64 y (by omega), IntKind.wrap_u64]
  omega

theorem ofInt_ones : BitVec.ofInt 64 (-1) = BitVec.allOnes 64 := by decide
theorem i64_not (x : Int) (h0 : 0 ≤ x) (h1 : x < 9223372036854775808) : bits .xor .i64 (-1) x = -1 - x := by
  obtain ⟨y, rfl⟩ := Int.eq_ofNat_of_zero_le h0
  show IntKind.i64.wrap ((BitVec.ofInt 64 (-1) ^^^ BitVec.ofInt 64 (y : Int)).toNat : Int) = _
  rw [ofInt_ones, BitVec.allOnes_xor, BitVec.toNat_not, ofInt_u64 y (by omega), IntKind.wrap_i64]
  omega

theorem or_join_i (q u : Int) (a d : Nat) (hq : 0 ≤ q) (hq2 : q < 2 ^ a) (hu : 0 ≤ u) (hu2 : u < 2 ^ d) (ha : a + d ≤ 63) :
    bits .or .i64 q (u * 2 ^ a) = q + u * 2 ^ a ∧ q + u * 2 ^ a < 9223372036854775808 ∧ 0 ≤ u * 2 ^ a ∧ u * 2 ^ a < 9223372036854775808 := by
  obtain ⟨x, rfl⟩ := Int.eq_ofNat_of_zero_le hq
  obtain ⟨y, rfl⟩ := Int.eq_ofNat_of_zero_le hu
  have hx : x < 2 ^ a := by exact_mod_cast hq2
  have hy : y < 2 ^ d := by exact_mod_cast hu2
  have h1 : (y + 1) * 2 ^ a ≤ 2 ^ d * 2 ^ a := Nat.mul_le_mul_right _ hy
  have h2 : 2 ^ d * 2 ^ a ≤ 2 ^ 63 := by rw [← Nat.pow_add]; exact Nat.pow_le_pow_right (by omega) (by omega)
  have h3 : (2 : Nat) ^ 63 = 9223372036854775808 := by decide
  rw [Nat.add_mul] at h1
  have e : ((y : Int) * 2 ^ a) = ((y * 2 ^ a : Nat) : Int) := by simp
  rw [e]
  have hz : y * 2 ^ a < 9223372036854775808 := by omega
  have hm : x < 9223372036854775808 := by omega
  have hor : bits .or .i64 (x : Int) ((y * 2 ^ a : Nat) : Int) = ((x + y * 2 ^ a : Nat) : Int) := by
    show IntKind.i64.wrap ((BitVec.ofInt 64 (x : Int) ||| BitVec.ofInt 64 ((y * 2 ^ a : Nat) : Int)).toNat : Int) = _
    rw [BitVec.toNat_or, ofInt_u64 x (by omega), ofInt_u64 _ (by omega), Nat.or_comm, nat_join a (y * 2 ^ a) x (by simp) hx, IntKind.wrap_i64]
    omega
  rw [hor]
  omega

/-- What is shifted to its place and laid on comes back by the shift. -/
theorem shr_back (q u : Int) (a : Nat) (hq : 0 ≤ q) (hq2 : q < 2 ^ a) : (q + u * 2 ^ a) / 2 ^ a = u := by
  have hp : (0 : Int) < 2 ^ a := Int.pow_pos (by omega)
  rw [Int.add_mul_ediv_right _ _ (by omega), Int.ediv_eq_zero_of_lt hq hq2]; omega
end Go.Proofs.YteliebinhdphlaaDoor

/- Short names for lists of values; no function of the program is named here. -/
namespace Go.Proofs.YteliebinhdphlaaDoor
set_option maxRecDepth 100000
open Go.RowKit
set_option linter.unusedSimpArgs false
set_option linter.unusedVariables false

abbrev u8s (xs : List Int) : List Value := xs.map (Value.int .u8)
abbrev i64s (xs : List Int) : List Value := xs.map (Value.int .i64)
theorem val_int {k : IntKind} {a b : Int} (h : a = b) : Value.int k a = Value.int k b := by rw [h]
theorem ret_int {k : IntKind} {a b : Int} (h : a = b) : Ending.returned (.int k a) = .returned (.int k b) := by rw [h]
theorem ret_bool {a b : Bool} (h : a = b) : Ending.returned (.bool a) = .returned (.bool b) := by rw [h]

theorem info_int : (Tryd.prog.info? 3).map (fun i => (i.zero, i.size, i.bytes)) = some (some (.int .i64 0), 1, 8) := by kernel_rfl
theorem info_u8 : (Tryd.prog.info? 5).map (fun i => (i.zero, i.size, i.bytes)) = some (some (.int .u8 0), 1, 1) := by kernel_rfl

def bitsTo (n : Int) (k : Nat) : List Int := (List.range k).map fun j => n / 2 ^ j % 2
theorem bitsTo_succ (n : Int) (k : Nat) : bitsTo n (k + 1) = bitsTo n k ++ [n / 2 ^ k % 2] := by simp [bitsTo, List.range_succ]
theorem bitsTo_length (n : Int) (k : Nat) : (bitsTo n k).length = k := by simp [bitsTo]
theorem bitsTo_at (n : Int) (m k : Nat) (h : k < m) : (bitsTo n m)[k]? = some (n / 2 ^ k % 2) := by simp [bitsTo, h]

theorem own_cell {w : World} {base : Nat} {e : TypeId} {g n cap : Nat} {L : List Int} (h : w.ownsRow base e 1 (.slice (some ⟨g, 0, none⟩) n cap) n (i64s L)) {k : Nat} {u : Int} (hk : k < n) (hu : L[k]? = some u) :
    w.cell? ⟨g, k, none⟩ = some (.int .i64 u) := by
  rw [h.cellAt k (by omega), List.getElem?_map, hu]; rfl
theorem own_set {w : World} {base : Nat} {e : TypeId} {g n cap : Nat} {L L' : List Int} (h : w.ownsRow base e 1 (.slice (some ⟨g, 0, none⟩) n cap) n (i64s L)) {k : Nat} {u : Int} (hu : L.set k u = L') :
    (w.setCell ⟨g, k, none⟩ (.int .i64 u)).ownsRow base e 1 (.slice (some ⟨g, 0, none⟩) n cap) n (i64s L') := by
  have := (h.stored k (.int .i64 u)).1
  rw [← List.map_set, hu] at this
  exact this
theorem ret_two {k k' : IntKind} {a b c d : Int} (h : a = b) (h' : c = d) : Ending.returned (.tuple #[.int k a, .int k' c]) = .returned (.tuple #[.int k b, .int k' d]) := by rw [h, h']
theorem ret_two' {k k' : IntKind} {a b c d : Int} (h : b = a) (h' : d = c) : Ending.returned (.tuple #[.int k a, .int k' c]) = .returned (.tuple #[.int k b, .int k' d]) := by rw [h, h']
theorem ret_three {k k' k'' : IntKind} {a b c d e f : Int} (h : a = b) (h' : c = d) (h'' : e = f) : Ending.returned (.tuple #[.int k a, .int k' c, .int k'' e]) = .returned (.tuple #[.int k b, .int k' d, .int k'' f]) := by rw [h, h', h'']
theorem val_bits (n : Int) (m : Nat) : val 2 (bitsTo n m) = n % 2 ^ m := by
  induction m with
  | zero => simp [bitsTo, val, Int.emod_one]
  | succ m ih =>
    rw [bitsTo_succ, val_snoc, ih, bitsTo_length]
    have hp : (0 : Int) < 2 ^ m := Int.pow_pos (by omega)
    rw [Int.pow_succ]
    generalize (2 : Int) ^ m = p at *
    have h1 := Int.emod_add_mul_ediv n p
    have h2 := Int.emod_nonneg n (show p ≠ 0 by omega)
    have h3 := Int.emod_lt_of_pos n hp
    generalize hq : n / p = q at *
    generalize hr : n % p = r at *
    have h4 : q = q % 2 + 2 * (q / 2) := by omega
    have h5 : 0 ≤ p * (q % 2) ∧ p * (q % 2) ≤ p := by rcases (show q % 2 = 0 ∨ q % 2 = 1 by omega) with h | h <;> rw [h] <;> omega
    have e : n = (r + p * (q % 2)) + p * 2 * (q / 2) := by
      have : p * q = p * (q % 2) + p * 2 * (q / 2) := by conv => lhs; rw [h4, Int.mul_add, ← Int.mul_assoc]
      omega
    have h6 : r + p * (q % 2) < p * 2 := by rcases (show q % 2 = 0 ∨ q % 2 = 1 by omega) with h | h <;> rw [h] <;> omega
    rw [e, Int.add_mul_emod_self_left, Int.emod_eq_of_lt (by omega) h6]
theorem bits_bit (n : Int) (m : Nat) : ∀ x ∈ bitsTo n m, 0 ≤ x ∧ x < 2 := by
  intro x hx
  simp only [bitsTo, List.mem_map] at hx
  obtain ⟨j, _, rfl⟩ := hx
  omega
theorem set_u8 (l : List Int) (k : Nat) (u : Int) : (u8s l).set k (.int .u8 u) = u8s (l.set k u) := by simp [u8s, List.map_set]
theorem wrap_i64 (x : Int) : IntKind.i64.wrap x = wrap64 x := by unfold wrap64; exact IntKind.wrap_i64 x
theorem ent_of {f : FuncId} {fn : Func} {c : Code} (hf : Tryd.prog.funcs[f]? = some fn) (hname : (fn.name == "runtime.NumGoroutine") = false) (hb : fn.body = some c) (args : Array Value) (w : World) :
    (callFunc f args).run Tryd.prog w = .ok (.enter f args) w := by
  have h1 : fn.name ≠ "runtime.NumGoroutine" := by simpa using hname
  simp [callFunc, hf, h1, hb]
end Go.Proofs.YteliebinhdphlaaDoor

/- 128 noughts. -/
namespace Go.Proofs.YteliebinhdphlaaDoor
set_option maxRecDepth 100000
def zeros128 : List Int := List.replicate 128 0
theorem zeros_len : zeros128.length = 128 := by simp [zeros128]
end Go.Proofs.YteliebinhdphlaaDoor

namespace Go.Proofs.YteliebinhdphlaaDoor
set_option maxRecDepth 100000
open Go.RowKit
set_option linter.unusedSimpArgs false
set_option linter.unusedVariables false



set_option maxHeartbeats 400000 in
theorem same_any (A B : Option Addr) (n m c d : Nat) (xs ys : List Int) (w : World) (hx : Sl w A n (u8s xs)) (hy : Sl w B m (u8s ys)) (hn : n ≤ 9223372036854775807) (hm : m ≤ 9223372036854775807) :
    Calls Tryd.prog 17 #[.slice A n c, .slice B m d] w fun e w' => e = .returned (.bool (decide (xs = ys))) ∧ ∃ k, w' = w.drewN k := by
  have hnx : xs.length = n := by simpa using hx.1
  have hny : ys.length = m := by simpa using hy.1
  have Hnx := Lib.hid hnx; have Hny := Lib.hid hny
  clear hnx hny
  by_cases hnm : n = m
  · subst hnm
    go_enter Tryd.func17, Tryd.ntmps17
    go_wp2
    go_loopw [5] (fun i wr => ∃ k : Nat, k ≤ n ∧ i = .int .i64 k ∧ xs.take k = ys.take k ∧ ∃ q, wr = w.drewN q) (fun i _ => n - (intOf i).toNat)
    case atStart => exact ⟨0, by omega, rfl, by simp, 0, rfl⟩
    case round =>
      obtain ⟨k, hk, rfl, heq, q, rfl⟩ := hrel
      have Heq := Lib.hid heq
      clear heq
      by_cases hlt : k < n
      · obtain ⟨a, u, rfl, ha, hu⟩ := hx.num hlt
        obtain ⟨b, v, rfl, hb, hv⟩ := hy.num hlt
        have Hu := Lib.hid hu; have Hv := Lib.hid hv
        clear hu hv
        by_cases huv : u = v
        · subst huv
          go_wp2
          go_quiet (fail)
          go_wp2
          go_roundw
          case rel => exact ⟨k + 1, by omega, by go_num, by rw [take_snoc _ _ _ Hu.out, take_snoc _ _ _ Hv.out, Heq.out], _, rfl⟩
          case measure => simp [intOf]; omega
        · go_wp2
          go_quiet (fail)
          go_wp2
          go_ret
          exact ⟨ret_bool (by rw [decide_eq_false]; rintro rfl; have := Hu.out.symm.trans Hv.out; simp at this; exact huv this), _, World.drewN_drewN _ _ _⟩
      · have : k = n := by omega
        subst this
        go_wp2
        go_ret
        exact ⟨ret_bool (by rw [decide_eq_true]; have h1 := Heq.out; rwa [List.take_of_length_le (by rw [Hnx.out]; omega), List.take_of_length_le (by rw [Hny.out]; omega)] at h1), _, rfl⟩
  · go_enter Tryd.func17, Tryd.ntmps17
    go_wp2
    go_ret
    exact ⟨ret_bool (by rw [decide_eq_false]; rintro rfl; exact hnm (Hnx.out.symm.trans Hny.out)), 0, rfl⟩
end Go.Proofs.YteliebinhdphlaaDoor

/- Sums of bits: plain lemmas on numbers; no program is named here. -/
namespace Go.Proofs.YteliebinhdphlaaDoor
set_option maxRecDepth 100000
open Go.RowKit

def poly : Nat := 3988292384
def half (c : Nat) : Nat := (c / 2) ^^^ (if c % 2 = 1 then poly else 0)
def half8 (c : Nat) : Nat := half (half (half (half (half (half (half (half c)))))))
def lowTab : List Nat := [0, 1996959894, 3993919788, 2567524794, 124634137, 1886057615, 3915621685, 2657392035, 249268274, 2044508324, 3772115230, 2547177864, 162941995, 2125561021, 3887607047, 2428444049]
def upTab : List Nat := [0, 498536548, 997073096, 651767980, 1994146192, 1802195444, 1303535960, 1342533948, 3988292384, 4027552580, 3604390888, 3412177804, 2607071920, 2262029012, 2685067896, 3183342108]

theorem xor_swap (a b c d : Nat) : (a ^^^ b) ^^^ (c ^^^ d) = (a ^^^ c) ^^^ (b ^^^ d) := by
  apply Nat.eq_of_testBit_eq; intro i; simp only [Nat.testBit_xor]; cases a.testBit i <;> cases b.testBit i <;> cases c.testBit i <;> cases d.testBit i <;> rfl

theorem xor_zero_eq {a b : Nat} (h : a ^^^ b = 0) : a = b := by
  have : b = a ^^^ (a ^^^ b) := by rw [← Nat.xor_assoc, Nat.xor_self, Nat.zero_xor]
  rw [this, h, Nat.xor_zero]
theorem xor_cancel {a b x : Nat} (h : a ^^^ x = b ^^^ x) : a = b := by
  apply xor_zero_eq
  have : (a ^^^ x) ^^^ (b ^^^ x) = 0 := by rw [h, Nat.xor_self]
  rw [xor_swap, Nat.xor_self, Nat.xor_zero] at this
  exact this
theorem xor_mod_two (a b : Nat) : (a ^^^ b) % 2 = (a + b) % 2 := by
  have h : (a ^^^ b) % 2 = a % 2 ^^^ b % 2 := Nat.xor_mod_two_pow (n := 1)
  rw [h]
  rcases (show a % 2 = 0 ∨ a % 2 = 1 by omega) with ha | ha <;> rcases (show b % 2 = 0 ∨ b % 2 = 1 by omega) with hb | hb <;> rw [ha, hb] <;> simp <;> omega

theorem half_xor (a b : Nat) : half (a ^^^ b) = half a ^^^ half b := by
  have h : (a ^^^ b) / 2 = a / 2 ^^^ b / 2 := Nat.xor_div_two
  have m : (a ^^^ b) % 2 = (a + b) % 2 := xor_mod_two a b
  unfold half
  rw [h, m, xor_swap]
  congr 1
  rcases (show a % 2 = 0 ∨ a % 2 = 1 by omega) with ha | ha <;> rcases (show b % 2 = 0 ∨ b % 2 = 1 by omega) with hb | hb
  · rw [if_neg (by omega), if_neg (by omega), if_neg (by omega)]; rfl
  · rw [if_pos (by omega), if_neg (by omega), if_pos (by omega)]; simp
  · rw [if_pos (by omega), if_pos (by omega), if_neg (by omega)]; simp
  · rw [if_neg (by omega), if_pos (by omega), if_pos (by omega)]; simp

theorem half_lt {c : Nat} (h : c < 2 ^ 32) : half c < 2 ^ 32 := by
  unfold half
  apply Nat.xor_lt_two_pow (by omega)
  split <;> decide
theorem half_zero {c : Nat} (h : c < 2 ^ 32) (h0 : half c = 0) : c = 0 := by
  unfold half at h0
  by_cases ho : c % 2 = 1
  · rw [if_pos ho] at h0
    have := xor_zero_eq h0
    unfold poly at this
    omega
  · rw [if_neg ho] at h0
    simp at h0
    omega
theorem half_inj {a b : Nat} (ha : a < 2 ^ 32) (hb : b < 2 ^ 32) (h : half a = half b) : a = b := by
  have : half (a ^^^ b) = 0 := by rw [half_xor, h, Nat.xor_self]
  exact xor_zero_eq (half_zero (Nat.xor_lt_two_pow ha hb) this)
theorem half_even (q : Nat) : half (2 * q) = q := by unfold half; rw [if_neg (by omega)]; simp

theorem half8_xor (a b : Nat) : half8 (a ^^^ b) = half8 a ^^^ half8 b := by unfold half8; simp only [half_xor]
theorem half8_lt {c : Nat} (h : c < 2 ^ 32) : half8 c < 2 ^ 32 := half_lt (half_lt (half_lt (half_lt (half_lt (half_lt (half_lt (half_lt h)))))))
theorem half8_inj {a b : Nat} (ha : a < 2 ^ 32) (hb : b < 2 ^ 32) (h : half8 a = half8 b) : a = b := by
  unfold half8 at h
  have a1 := half_lt ha; have a2 := half_lt a1; have a3 := half_lt a2; have a4 := half_lt a3; have a5 := half_lt a4; have a6 := half_lt a5; have a7 := half_lt a6
  have b1 := half_lt hb; have b2 := half_lt b1; have b3 := half_lt b2; have b4 := half_lt b3; have b5 := half_lt b4; have b6 := half_lt b5; have b7 := half_lt b6
  exact half_inj ha hb (half_inj a1 b1 (half_inj a2 b2 (half_inj a3 b3 (half_inj a4 b4 (half_inj a5 b5 (half_inj a6 b6 (half_inj a7 b7 h)))))))
theorem half8_byte (q : Nat) : half8 (256 * q) = q := by
  unfold half8
  rw [show 256 * q = 2 * (2 * (2 * (2 * (2 * (2 * (2 * (2 * q))))))) by omega]
  simp only [half_even]

/-- A byte below others: no bit in common. -/
theorem xor_join (q r : Nat) (h : r < 256) : r ^^^ 256 * q = 256 * q + r := by
  have h8 : r < 2 ^ 8 := h
  have : 256 * q + r = 2 ^ 8 * q + r := by omega
  rw [this]
  apply Nat.eq_of_testBit_eq
  intro i
  rw [Nat.testBit_xor, Nat.testBit_two_pow_mul_add _ h8, show 256 * q = 2 ^ 8 * q by omega, Nat.testBit_two_pow_mul]
  by_cases hi : i < 8
  · rw [if_pos hi]; simp [show ¬ 8 ≤ i by omega]
  · rw [if_neg hi, Nat.testBit_lt_two_pow (Nat.lt_of_lt_of_le h8 (Nat.pow_le_pow_right (by omega) (by omega)))]
    simp [show 8 ≤ i by omega]

theorem tab_all : ∀ r < 256, half8 r = lowTab.getD (r % 16) 0 ^^^ upTab.getD (r / 16) 0 := by decide +kernel
theorem low_lt : ∀ r < 16, lowTab.getD r 0 < 4294967296 := by decide +kernel
theorem up_lt : ∀ r < 16, upTab.getD r 0 < 4294967296 := by decide +kernel

/-- A byte's eight steps are two looks at the tables. -/
theorem tab_step {c x : Nat} (hx : x < 256) : half8 (c ^^^ x) = (c / 256 ^^^ lowTab.getD ((c % 256 ^^^ x) % 16) 0) ^^^ upTab.getD ((c % 256 ^^^ x) / 16) 0 := by
  have hf : c % 256 ^^^ x < 256 := Nat.xor_lt_two_pow (n := 8) (Nat.mod_lt _ (by omega)) hx
  have e : c ^^^ x = 256 * (c / 256) ^^^ (c % 256 ^^^ x) := by
    conv => lhs; rw [show c = c % 256 ^^^ 256 * (c / 256) by rw [xor_join _ _ (Nat.mod_lt _ (by omega))]; omega]
    rw [Nat.xor_comm (c % 256) (256 * (c / 256)), Nat.xor_assoc]
  rw [e, half8_xor, half8_byte, tab_all _ hf, Nat.xor_assoc]

/-- What a text leaves of 32 bits. -/
def reg (c : Nat) (xs : List Int) : Nat := xs.foldl (fun c x => half8 (c ^^^ x.toNat)) c
def ones : Nat := 4294967295
/-- The sum of a text with more behind it. -/
def moreOf (s : Nat) (xs : List Int) : Nat := ones ^^^ reg (ones ^^^ s) xs
abbrev Bytes (xs : List Int) : Prop := ∀ x ∈ xs, 0 ≤ x ∧ x < 256

theorem reg_nil (c : Nat) : reg c [] = c := rfl
theorem reg_cons (c : Nat) (x : Int) (xs : List Int) : reg c (x :: xs) = reg (half8 (c ^^^ x.toNat)) xs := rfl
theorem reg_append (c : Nat) (xs ys : List Int) : reg c (xs ++ ys) = reg (reg c xs) ys := by simp [reg]
theorem reg_snoc (c : Nat) (xs : List Int) (x : Int) : reg c (xs ++ [x]) = half8 (reg c xs ^^^ x.toNat) := by simp [reg]
theorem byte_lt {x : Int} (h : 0 ≤ x ∧ x < 256) : x.toNat < 2 ^ 32 := by omega
theorem reg_lt {c : Nat} {xs : List Int} (hc : c < 2 ^ 32) (h : Bytes xs) : reg c xs < 2 ^ 32 := by
  induction xs generalizing c with
  | nil => exact hc
  | cons x xs ih => exact ih (half8_lt (Nat.xor_lt_two_pow hc (byte_lt (h x List.mem_cons_self)))) fun y hy => h y (List.mem_cons_of_mem _ hy)
theorem reg_inj {a b : Nat} {xs : List Int} (ha : a < 2 ^ 32) (hb : b < 2 ^ 32) (h : Bytes xs) (e : reg a xs = reg b xs) : a = b := by
  induction xs generalizing a b with
  | nil => exact e
  | cons x xs ih =>
    have hx := byte_lt (h x List.mem_cons_self)
    have := ih (half8_lt (Nat.xor_lt_two_pow ha hx)) (half8_lt (Nat.xor_lt_two_pow hb hx)) (fun y hy => h y (List.mem_cons_of_mem _ hy)) e
    have := half8_inj (Nat.xor_lt_two_pow ha hx) (Nat.xor_lt_two_pow hb hx) this
    exact xor_cancel this
theorem ones_lt : ones < 2 ^ 32 := by decide
theorem flip_lt {s : Nat} (h : s < 2 ^ 32) : ones ^^^ s < 2 ^ 32 := Nat.xor_lt_two_pow ones_lt h
theorem flip_flip (s : Nat) : ones ^^^ (ones ^^^ s) = s := by rw [← Nat.xor_assoc, Nat.xor_self, Nat.zero_xor]
theorem more_lt {s : Nat} {xs : List Int} (hs : s < 2 ^ 32) (h : Bytes xs) : moreOf s xs < 2 ^ 32 := flip_lt (reg_lt (flip_lt hs) h)
theorem more_more (s : Nat) (xs ys : List Int) : moreOf (moreOf s xs) ys = moreOf s (xs ++ ys) := by
  unfold moreOf; rw [flip_flip, reg_append]
theorem more_nil (s : Nat) : moreOf s [] = s := by unfold moreOf; rw [reg_nil, flip_flip]
theorem digits_sum : moreOf 0 [49, 50, 51, 52, 53, 54, 55, 56, 57] = 3421780262 := by decide +kernel

end Go.Proofs.YteliebinhdphlaaDoor

namespace Go.Proofs.YteliebinhdphlaaDoor
set_option maxRecDepth 100000
open Go.RowKit

/-- The program's two tables hold what its text lays. -/
def Tabs (w : World) : Prop :=
  (∀ i : Nat, i < 16 → w.cell? ⟨0, i, none⟩ = some (.int .u32 ((lowTab.getD i 0 : Nat) : Int))) ∧
  (∀ i : Nat, i < 16 → w.cell? ⟨1, i, none⟩ = some (.int .u32 ((upTab.getD i 0 : Nat) : Int)))
theorem Tabs.below {w w' : World} (h : Tabs w) (hb : Below w.heap.size w w') : Tabs w' :=
  ⟨fun i hi => (hb.cell (World.block_lt_of_cell? w _ (h.1 i hi))).trans (h.1 i hi), fun i hi => (hb.cell (World.block_lt_of_cell? w _ (h.2 i hi))).trans (h.2 i hi)⟩


theorem u32_max : IntKind.u32.max = 4294967295 := by decide
theorem u32_not (s : Nat) (h : s < 4294967296) : bits .xor .u32 IntKind.u32.max (s : Int) = ((ones ^^^ s : Nat) : Int) := by
  rw [u32_max]; exact u32_xor_nat 4294967295 s (by omega) h

set_option maxHeartbeats 800000 in
theorem more_any (s : Nat) (hs : s < 4294967296) (A : Option Addr) (n c : Nat) (xs : List Int) (w : World) (ht : Tabs w) (hx : Sl w A n (u8s xs)) (hb : Bytes xs) (hn : n ≤ 9223372036854775807) :
    Calls Tryd.prog 79 #[.int .u32 s, .slice A n c] w fun e w' => e = .returned (.int .u32 ((moreOf s xs : Nat) : Int)) ∧ ∃ q, w' = w.drewN q := by
  have hlen : xs.length = n := by simpa using hx.1
  have Hlen := Lib.hid hlen
  have Hb := Lib.hid hb
  have Ht := Lib.hid ht
  clear hlen hb ht
  obtain ⟨c0, hc0, hc1⟩ : ∃ c0 : Nat, c0 = ones ^^^ s ∧ c0 < 4294967296 := ⟨_, rfl, flip_lt hs⟩
  have hnot := u32_not s hs
  rw [← hc0] at hnot
  have Hc0 := Lib.hid hc0
  clear hc0
  go_enter Tryd.func79, Tryd.ntmps79
  go_wp2
  go_loopw [5, 13] (fun v i wr => ∃ (k r : Nat), k ≤ n ∧ i = .int .i64 k ∧ v = .int .u32 (r : Int) ∧ r < 4294967296 ∧ r = reg c0 (xs.take k) ∧ ∃ q, wr = w.drewN q) (fun _ i _ => n - (intOf i).toNat)
  case atStart => exact ⟨0, c0, by omega, rfl, rfl, hc1, rfl, 0, rfl⟩
  case round =>
    obtain ⟨k, r, hk, rfl, rfl, hr1, hr, q, rfl⟩ := hrel
    have Hr := Lib.hid hr
    clear hr
    by_cases hlt : k < n
    · obtain ⟨ad, u, rfl, hc, hu⟩ := hx.num hlt
      have hu1 : 0 ≤ u ∧ u < 256 := Hb.out u (List.mem_of_getElem? hu)
      obtain ⟨x, rfl⟩ := Int.eq_ofNat_of_zero_le hu1.1
      have hx1 : x < 256 := by omega
      obtain ⟨f, hf, hf1⟩ : ∃ f : Nat, f = r % 256 ^^^ x ∧ f < 256 := ⟨_, rfl, Nat.xor_lt_two_pow (n := 8) (Nat.mod_lt _ (by omega)) hx1⟩
      have hfx : bits .xor .u8 ((r : Int) % 256) (x : Int) = (f : Int) := by
        rw [show (r : Int) % 256 = ((r % 256 : Nat) : Int) by omega, u8_xor_nat _ _ (by omega) hx1, hf]
      obtain ⟨i1, hi1, hi2⟩ : ∃ i : Nat, i = f % 16 ∧ i < 16 := ⟨_, rfl, by omega⟩
      obtain ⟨i3, hi3, hi4⟩ : ∃ i : Nat, i = f / 16 ∧ i < 16 := ⟨_, rfl, by omega⟩
      obtain ⟨t1, ht1, ht2⟩ : ∃ t : Nat, t = lowTab.getD i1 0 ∧ t < 4294967296 := ⟨_, rfl, low_lt i1 hi2⟩
      obtain ⟨t3, ht3, ht4⟩ : ∃ t : Nat, t = upTab.getD i3 0 ∧ t < 4294967296 := ⟨_, rfl, up_lt i3 hi4⟩
      have hcl : w.cell? ⟨0, i1, none⟩ = some (.int .u32 (t1 : Int)) := by rw [ht1]; exact Ht.out.1 i1 hi2
      have hcu : w.cell? ⟨1, i3, none⟩ = some (.int .u32 (t3 : Int)) := by rw [ht3]; exact Ht.out.2 i3 hi4
      have hm : (f : Int) % 16 = (i1 : Int) := by omega
      have hd : (f : Int) / 16 = (i3 : Int) := by omega
      obtain ⟨sh, hsh, hsh2⟩ : ∃ t : Nat, t = r / 256 ∧ t < 4294967296 := ⟨_, rfl, by omega⟩
      have hsr : (r : Int) / 256 = (sh : Int) := by omega
      obtain ⟨y1, hy1, hy2⟩ : ∃ t : Nat, t = sh ^^^ t1 ∧ t < 4294967296 := ⟨_, rfl, Nat.xor_lt_two_pow (n := 32) hsh2 ht2⟩
      obtain ⟨y2, hy3, hy4⟩ : ∃ t : Nat, t = y1 ^^^ t3 ∧ t < 4294967296 := ⟨_, rfl, Nat.xor_lt_two_pow (n := 32) hy2 ht4⟩
      have hxa : bits .xor .u32 (sh : Int) (t1 : Int) = (y1 : Int) := by rw [u32_xor_nat _ _ hsh2 ht2, hy1]
      have hxb : bits .xor .u32 (y1 : Int) (t3 : Int) = (y2 : Int) := by rw [u32_xor_nat _ _ hy2 ht4, hy3]
      have Hy : Hid (y2 = half8 (r ^^^ x)) := Lib.hid (by rw [tab_step hx1, ← hf, ← hi1, ← hi3, ← ht1, ← ht3, ← hsh, ← hy1, ← hy3])
      have Hu := Lib.hid hu
      clear hu hf hu1 hi1 hi3 ht1 ht3 hsh hy1 hy3
      go_wp2
      go_quiet (fail)
      go_wp2
      go_roundw
      case rel => exact ⟨k + 1, y2, by omega, by go_num, rfl, hy4, by rw [take_snoc _ _ _ Hu.out, reg_snoc, ← Hr.out, Hy.out, Int.toNat_natCast], _, rfl⟩
      case measure => simp [intOf]; omega
    · obtain rfl : k = n := by omega
      have hend := u32_not r hr1
      rw [Hr.out, List.take_of_length_le (by rw [Hlen.out]; omega)] at hend
      have hend : bits .xor .u32 IntKind.u32.max (r : Int) = ((moreOf s xs : Nat) : Int) := by
        rw [Hr.out, List.take_of_length_le (by rw [Hlen.out]; omega), hend, moreOf, Hc0.out]
      obtain ⟨m, hm⟩ : ∃ m : Nat, m = moreOf s xs := ⟨_, rfl⟩
      rw [← hm] at hend
      have Hm := Lib.hid hm
      clear hm
      go_wp2
      go_ret
      exact ⟨ret_int (by rw [Hm.out]), _, rfl⟩
end Go.Proofs.YteliebinhdphlaaDoor

namespace Go.Proofs.YteliebinhdphlaaDoor
set_option maxRecDepth 100000
open Go.RowKit

/-- A slice of bytes in memory, with what it reads as. -/
structure Part where
  A : Option Addr
  n : Nat
  c : Nat
  xs : List Int
def Part.val (p : Part) : Value := .slice p.A p.n p.c
def Part.fits (w : World) (p : Part) : Prop := Sl w p.A p.n (u8s p.xs) ∧ Bytes p.xs ∧ p.n ≤ 9223372036854775807
theorem Part.fits.below {w w' : World} {p : Part} (h : p.fits w) (hb : Below w.heap.size w w') : p.fits w' := ⟨h.1.below hb, h.2⟩

def sumOf (xs : List Int) : Nat := moreOf 0 xs
theorem sum_lt {xs : List Int} (h : Bytes xs) : sumOf xs < 4294967296 := more_lt (by omega) h

theorem bytes_append {xs ys : List Int} (hx : Bytes xs) (hy : Bytes ys) : Bytes (xs ++ ys) := fun z hz => by
  rcases List.mem_append.1 hz with h | h
  · exact hx z h
  · exact hy z h

set_option maxHeartbeats 800000 in
theorem sum_any (A : Option Addr) (m d : Nat) (ps : List Part) (w : World) (ht : Tabs w) (hx : Sl w A m (ps.map Part.val)) (hp : ∀ p ∈ ps, p.fits w) (hm : m ≤ 9223372036854775807) :
    Calls Tryd.prog 58 #[.slice A m d] w fun e w' => e = .returned (.int .u32 ((sumOf (ps.flatMap Part.xs) : Nat) : Int)) ∧ ∃ q, w' = w.drewN q := by
  have hlen : ps.length = m := by simpa using hx.1
  have Hlen := Lib.hid hlen
  have Hp := Lib.hid hp
  have Ht := Lib.hid ht
  clear hlen hp ht
  go_enter Tryd.func58, Tryd.ntmps58
  go_wp2
  go_loopw [3, 8] (fun v i wr => ∃ (k r : Nat), k ≤ m ∧ i = .int .i64 k ∧ v = .int .u32 (r : Int) ∧ r < 4294967296 ∧ r = sumOf ((ps.take k).flatMap Part.xs) ∧ ∃ q, wr = w.drewN q) (fun _ i _ => m - (intOf i).toNat)
  case atStart => exact ⟨0, 0, by omega, rfl, rfl, by omega, (more_nil 0).symm, 0, rfl⟩
  case round =>
    obtain ⟨k, r, hk, rfl, rfl, hr1, hr, q, rfl⟩ := hrel
    have Hr := Lib.hid hr
    clear hr
    by_cases hlt : k < m
    · have hkl : k < ps.length := by rw [Hlen.out]; exact hlt
      obtain ⟨p, hpk⟩ : ∃ p, ps[k]? = some p := ⟨_, List.getElem?_eq_getElem hkl⟩
      obtain ⟨ad, rfl, hc⟩ := hx.2 k p.val (by rw [List.getElem?_map, hpk]; rfl)
      obtain ⟨f1, f2, f3⟩ := Hp.out p (List.mem_of_getElem? hpk)
      obtain ⟨B, n, c, ys⟩ := p
      dsimp only [Part.val] at hc f1 f2 f3
      have Hpk := Lib.hid hpk; have F1 := Lib.hid f1; have F2 := Lib.hid f2
      clear hpk f1 f2 hkl
      go_wp2_with (go_at_call 79; refine (more_any r hr1 B n c ys (w.drewN q) Ht.out F1.out F2.out f3).mono ?_; rintro e w' ⟨rfl, q2, rfl⟩)
      go_roundw
      case rel => exact ⟨k + 1, _, by omega, by go_num, rfl, more_lt hr1 F2.out, by rw [take_snoc _ _ _ Hpk.out, List.flatMap_append, sumOf, ← more_more, ← sumOf, ← Hr.out]; simp, _, rfl⟩
      case measure => simp [intOf]; omega
    · obtain rfl : k = m := by omega
      rw [List.take_of_length_le (by rw [Hlen.out]; omega)] at Hr
      go_wp2
      go_ret
      exact ⟨ret_int (by rw [Hr.out]), _, rfl⟩
end Go.Proofs.YteliebinhdphlaaDoor

namespace Go.Proofs.YteliebinhdphlaaDoor
set_option maxRecDepth 100000
open Go.RowKit

/-- One slice alone, as the parts of a call. -/
theorem parts_one (w : World) (p : Part) (e : TypeId) (hp : p.fits w) :
    Sl (w.alloc (.cells #[p.val] e)) (some ⟨w.heap.size, 0, none⟩) 1 ([p].map Part.val) ∧ ∀ q ∈ [p], q.fits (w.alloc (.cells #[p.val] e)) :=
  ⟨Sl.new_ w e [p.val] 1 rfl, fun q hq => by simp at hq; subst hq; exact hp.below (below_alloc _ _)⟩
theorem parts_two (w : World) (p q : Part) (e : TypeId) (hp : p.fits w) (hq : q.fits w) :
    Sl (w.alloc (.cells #[p.val, q.val] e)) (some ⟨w.heap.size, 0, none⟩) 2 ([p, q].map Part.val) ∧ ∀ r ∈ [p, q], r.fits (w.alloc (.cells #[p.val, q.val] e)) :=
  ⟨Sl.new_ w e [p.val, q.val] 2 rfl, fun r hr => by simp at hr; rcases hr with rfl | rfl; exact hp.below (below_alloc _ _); exact hq.below (below_alloc _ _)⟩

/-- The call with one part that lies in memory. -/
theorem sum_one (A : Option Addr) (n c : Nat) (xs : List Int) (w : World) (e : TypeId) (ht : Tabs w) (hx : Sl w A n (u8s xs)) (hb : Bytes xs) (hn : n ≤ 9223372036854775807) :
    Calls Tryd.prog 58 #[.slice (some ⟨w.heap.size, 0, none⟩) 1 1] (w.alloc (.cells #[.slice A n c] e)) fun r w' => r = .returned (.int .u32 ((sumOf xs : Nat) : Int)) ∧ Below w.heap.size w w' := by
  have h := parts_one w ⟨A, n, c, xs⟩ e ⟨hx, hb, hn⟩
  refine (sum_any _ 1 1 _ _ (ht.below (below_alloc _ _)) h.1 h.2 (by omega)).mono ?_
  rintro r w' ⟨rfl, q, rfl⟩
  exact ⟨by simp, below_drewN (below_alloc _ _) q⟩
theorem sum_two (A B : Option Addr) (n c m d : Nat) (xs ys : List Int) (w : World) (e : TypeId) (ht : Tabs w) (hx : Sl w A n (u8s xs)) (hb : Bytes xs) (hn : n ≤ 9223372036854775807) (hy : Sl w B m (u8s ys)) (hb2 : Bytes ys) (hm : m ≤ 9223372036854775807) :
    Calls Tryd.prog 58 #[.slice (some ⟨w.heap.size, 0, none⟩) 2 2] (w.alloc (.cells #[.slice A n c, .slice B m d] e)) fun r w' => r = .returned (.int .u32 ((sumOf (xs ++ ys) : Nat) : Int)) ∧ Below w.heap.size w w' := by
  have h := parts_two w ⟨A, n, c, xs⟩ ⟨B, m, d, ys⟩ e ⟨hx, hb, hn⟩ ⟨hy, hb2, hm⟩
  refine (sum_any _ 2 2 _ _ (ht.below (below_alloc _ _)) h.1 h.2 (by omega)).mono ?_
  rintro r w' ⟨rfl, q, rfl⟩
  exact ⟨by simp, below_drewN (below_alloc _ _) q⟩
theorem sum_none (w : World) (ht : Tabs w) :
    Calls Tryd.prog 58 #[.slice none 0 0] w fun r w' => r = .returned (.int .u32 0) ∧ Below w.heap.size w w' := by
  refine (sum_any none 0 0 [] w ht (Sl.nil_ _ _) (by simp) (by omega)).mono ?_
  rintro r w' ⟨rfl, q, rfl⟩
  exact ⟨by simp [sumOf, more_nil], below_drewN (Below.refl _ _) q⟩

/-- The same, with the answer under a name. -/
theorem sum_one_is (r : Nat) (A : Option Addr) (n c : Nat) (xs : List Int) (w : World) (e : TypeId) (ht : Tabs w) (hx : Sl w A n (u8s xs)) (hb : Bytes xs) (hn : n ≤ 9223372036854775807) (hr : r = sumOf xs) :
    Calls Tryd.prog 58 #[.slice (some ⟨w.heap.size, 0, none⟩) 1 1] (w.alloc (.cells #[.slice A n c] e)) fun x w' => x = .returned (.int .u32 (r : Int)) ∧ Below w.heap.size w w' := by
  rw [hr]; exact sum_one A n c xs w e ht hx hb hn
theorem sum_two_is (r : Nat) (A B : Option Addr) (n c m d : Nat) (xs ys : List Int) (w : World) (e : TypeId) (ht : Tabs w) (hx : Sl w A n (u8s xs)) (hb : Bytes xs) (hn : n ≤ 9223372036854775807) (hy : Sl w B m (u8s ys)) (hb2 : Bytes ys) (hm : m ≤ 9223372036854775807) (hr : r = sumOf (xs ++ ys)) :
    Calls Tryd.prog 58 #[.slice (some ⟨w.heap.size, 0, none⟩) 2 2] (w.alloc (.cells #[.slice A n c, .slice B m d] e)) fun x w' => x = .returned (.int .u32 (r : Int)) ∧ Below w.heap.size w w' := by
  rw [hr]; exact sum_two A B n c m d xs ys w e ht hx hb hn hy hb2 hm
theorem more_is (r s : Nat) (hs : s < 4294967296) (A : Option Addr) (n c : Nat) (xs : List Int) (w : World) (ht : Tabs w) (hx : Sl w A n (u8s xs)) (hb : Bytes xs) (hn : n ≤ 9223372036854775807) (hr : r = moreOf s xs) :
    Calls Tryd.prog 79 #[.int .u32 s, .slice A n c] w fun x w' => x = .returned (.int .u32 (r : Int)) ∧ Below w.heap.size w w' := by
  rw [hr]
  exact (more_any s hs A n c xs w ht hx hb hn).mono fun x w' ⟨h, q, hq⟩ => ⟨h, by rw [hq]; exact below_drewN (Below.refl _ _) q⟩
end Go.Proofs.YteliebinhdphlaaDoor

namespace Go.Proofs.YteliebinhdphlaaDoor
set_option maxRecDepth 100000
open Go.RowKit

theorem gLow : Tryd.prog.globalNamed "tompion/crc.lower" = some 0 := by kernel_rfl
theorem gUp : Tryd.prog.globalNamed "tompion/crc.upper" = some 1 := by kernel_rfl
theorem gLowType : (Tryd.prog.globals[0]?).map (·.type) = some 151 := by kernel_rfl
theorem gUpType : (Tryd.prog.globals[1]?).map (·.type) = some 151 := by kernel_rfl
theorem cellsTab : Tryd.prog.cellsOf 151 = 16 := by kernel_rfl
theorem cellsU32 : Tryd.prog.cellsOf 122 = 1 := by kernel_rfl
def lowInts : List Int := [0, 1996959894, 3993919788, 2567524794, 124634137, 1886057615, 3915621685, 2657392035, 249268274, 2044508324, 3772115230, 2547177864, 162941995, 2125561021, 3887607047, 2428444049]
def upInts : List Int := [0, 498536548, 997073096, 651767980, 1994146192, 1802195444, 1303535960, 1342533948, 3988292384, 4027552580, 3604390888, 3412177804, 2607071920, 2262029012, 2685067896, 3183342108]
theorem low_ints : ∀ i : Nat, i < 16 → lowInts.getD i 0 = ((lowTab.getD i 0 : Nat) : Int) := by decide +kernel
theorem up_ints : ∀ i : Nat, i < 16 → upInts.getD i 0 = ((upTab.getD i 0 : Nat) : Int) := by decide +kernel

theorem laid_tail {P : Program} {x : String × DataW Unit} {r : List (String × DataW Unit)} {w : World} (h : laidMet P (x :: r) w) : laidMet P r w := by
  obtain ⟨ps, ⟨g, t, cs, fuel, p, q, h1, h2, h3, h4, h5, rfl⟩, hn, hb⟩ := h
  refine ⟨q, h5, (List.nodup_append.1 hn).2.1, fun b off hm => hb b off (List.mem_append.2 (.inr hm))⟩

/-- What the rows' list gives: the two tables. -/
theorem tabs_of {W : World} (h : laidMet Tryd.prog [("tompion/crc.lower", Rows.laid_tompion_crc_lower), ("tompion/crc.upper", Rows.laid_tompion_crc_upper)] W) : Tabs W := by
  have t1 : Lib.TabIs Tryd.prog W "tompion/crc.lower" .u32 lowInts := Lib.tabIs_of_head gLow gLowType Tryd.underlying151 Tryd.underlying122 cellsU32 cellsTab h
  have t2 : Lib.TabIs Tryd.prog W "tompion/crc.upper" .u32 upInts := Lib.tabIs_of_head gUp gUpType Tryd.underlying151 Tryd.underlying122 cellsU32 cellsTab (laid_tail h)
  exact ⟨fun i hi => by rw [t1.cell gLow i hi, low_ints i hi], fun i hi => by rw [t2.cell gUp i hi, up_ints i hi]⟩

def lay (k : IntKind) (zs : List Int) (o : Obj) : Obj :=
  match o with
  | .cells _ t frozen => .cells (zs.map (Value.int k)).toArray t frozen
  | o => o
/-- A world for the witness: the settled one, the tables holding what their initialisers lay. -/
noncomputable def laidWorld (os : Os) : World :=
  { World.holding Tryd.prog os ⟨#[], #[], []⟩ with heap := (((World.holding Tryd.prog os ⟨#[], #[], []⟩).heap.modify 0 (lay .u32 lowInts)).modify 1 (lay .u32 upInts)) }
end Go.Proofs.YteliebinhdphlaaDoor

namespace Go.Proofs.YteliebinhdphlaaDoor
set_option maxRecDepth 100000
open Go.RowKit


set_option maxHeartbeats 400000 in
theorem bit_any (n : Int) (k : Nat) (w : World) (h1 : -9223372036854775808 ≤ n) (h2 : n ≤ 9223372036854775807) (hk : k ≤ 1000) :
    Calls Tryd.prog 101 #[.int .i64 n, .int .i64 k] w fun e w' => e = .returned (.int .i64 (n / 2 ^ k % 2)) ∧ w' = w := by
  go_enter Tryd.func101, Tryd.ntmps101
  go_wp2
  go_loop [0, 5] (fun m i => ∃ j : Nat, j ≤ k ∧ i = .int .i64 j ∧ ∃ q : Int, m = .int .i64 q ∧ -9223372036854775808 ≤ q ∧ q ≤ 9223372036854775807 ∧ q = n / 2 ^ j) (fun _ i => k - (intOf i).toNat)
  case atStart => exact ⟨0, by omega, rfl, n, rfl, h1, h2, by simp⟩
  case round =>
    obtain ⟨j, hj, rfl, q, rfl, hq1, hq2, hq⟩ := hrel
    have Hq := Lib.hid hq
    clear hq
    by_cases hlt : j < k
    · by_cases hneg : q < 0
      · go_wp2
        · go_roundw
          case rel => exact ⟨j + 1, by omega, by go_num, q / 2, val_int (bit_odd hneg hq1 (by assumption)), by omega, by omega, by rw [Hq.out, half_pow]⟩
          case measure => simp [intOf]; omega
        · go_roundw
          case rel => exact ⟨j + 1, by omega, by go_num, q / 2, val_int (bit_even hneg (by assumption)), by omega, by omega, by rw [Hq.out, half_pow]⟩
          case measure => simp [intOf]; omega
      · go_wp2
        go_roundw
        case rel => exact ⟨j + 1, by omega, by go_num, q / 2, rfl, by omega, by omega, by rw [Hq.out, half_pow]⟩
        case measure => simp [intOf]; omega
    · have : j = k := by omega
      subst this
      go_wp2
      · go_ret
        exact ⟨ret_int (by rw [← Hq.out, bit_zero (by assumption)]), rfl⟩
      · go_ret
        exact ⟨ret_int (by rw [← Hq.out, bit_one (by assumption)]), rfl⟩
end Go.Proofs.YteliebinhdphlaaDoor

namespace Go.Proofs.YteliebinhdphlaaDoor
set_option maxRecDepth 100000
open Go.RowKit

set_option maxHeartbeats 400000 in
theorem bits_any (n : Int) (w : World) (h1 : -9223372036854775808 ≤ n) (h2 : n ≤ 9223372036854775807) :
    Calls Tryd.prog 99 #[.int .i64 n] w fun e w' => ∃ v, e = .returned v ∧ w'.ownsRow w.heap.size 3 1 v 64 (i64s (bitsTo n 64)) ∧ Below w.heap.size w w' := by
  obtain ⟨i0, hi0, hz0, hz1, hz2⟩ := info_parts info_int
  go_enter Tryd.func99, Tryd.ntmps99
  go_wp2
  go_loopw [3, 4] (fun v i wr => ∃ k : Nat, k ≤ 64 ∧ i = .int .i64 k ∧ wr.ownsRow w.heap.size 3 1 v k (i64s (bitsTo n k)) ∧ Below w.heap.size w wr) (fun _ i _ => 64 - (intOf i).toNat)
  case atStart => exact ⟨0, by omega, rfl, World.ownsRow_nil _ _ _ _, Below.refl _ _⟩
  case round =>
    obtain ⟨k, hk, rfl, hown, hbl⟩ := hrel
    by_cases hlt : k < 64
    · have hsz := hbl.size
      go_wp2_with (first
        | (go_at_call 101; refine (bit_any n k _ h1 h2 (by omega)).mono ?_; rintro e w' ⟨rfl, rfl⟩)
        | (at_builtin; refine wpList_push _ _ 83 3 i0 _ _ 8 rfl rfl Tryd.underlying83 hi0 hz0 hz1 hz2 rfl w.heap.size _ _ _ hown rfl rfl rfl (by omega) (by omega) hsz ?_; intro v' w1 hown1 hg1 hb1 hs1))
      go_roundw
      case rel => exact ⟨k + 1, by omega, by go_num, by simpa [bitsTo_succ] using hown1, hbl.trans hb1⟩
      case measure => simp [intOf]; omega
    · have : k = 64 := by omega
      subst this
      go_wp2
      go_ret
      exact ⟨_, rfl, hown, hbl⟩
end Go.Proofs.YteliebinhdphlaaDoor

namespace Go.Proofs.YteliebinhdphlaaDoor
set_option maxRecDepth 100000
open Go.RowKit

/-- What 'Number' makes of 64 bits. -/
def numOf (xs : List Int) : Int := val 2 (xs.take 63) - 9223372036854775808 * xs.getD 63 0

set_option maxHeartbeats 800000 in
theorem number_any (A : Option Addr) (c : Nat) (xs : List Int) (w : World) (hx : Sl w A 64 (i64s xs)) (hb : ∀ x ∈ xs, 0 ≤ x ∧ x < 2) :
    Calls Tryd.prog 93 #[.slice A 64 c] w fun e w' => e = .returned (.int .i64 (numOf xs)) ∧ w' = w := by
  have hlen : xs.length = 64 := by simpa using hx.1
  have Hlen := Lib.hid hlen
  have Hb := Lib.hid hb
  clear hlen hb
  go_enter Tryd.func93, Tryd.ntmps93
  go_wp2
  go_loop [3, 4] (fun v i => ∃ (j : Nat) (q : Int), j ≤ 63 ∧ i = .int .i64 ((j : Int) - 1) ∧ v = .int .i64 q ∧ 0 ≤ q ∧ q < 9223372036854775808 ∧ q = val 2 ((xs.take 63).drop j)) (fun _ i => (intOf i + 1).toNat)
  case atStart => exact ⟨63, 0, by omega, by go_num, rfl, by omega, by omega, by rw [List.drop_of_length_le (by rw [List.length_take]; omega)]; rfl⟩
  case round =>
    obtain ⟨j, q, hj, rfl, rfl, q1, q2, hq⟩ := hrel
    have Hq := Lib.hid hq
    clear hq
    rcases j with _ | j
    · obtain ⟨ad, u, rfl, hc, hu⟩ := hx.num (k := 63) (by omega)
      have hu1 : 0 ≤ u ∧ u < 2 := Hb.out u (List.mem_of_getElem? hu)
      have hu2 : numOf xs = q - 9223372036854775808 * u := by rw [Hq.out]; simp [numOf, hu]
      have Hu := Lib.hid hu2
      have hc : w.cell? ⟨ad.block, ad.off + 63, none⟩ = some (.int .i64 u) := hc
      clear hu hu2
      by_cases hu3 : u = 1
      · go_wp2
        go_ret
        exact ⟨ret_int (by rw [Hu.out]; go_num), rfl⟩
      · go_wp2
        go_ret
        exact ⟨ret_int (by rw [Hu.out]; go_num), rfl⟩
    · obtain ⟨ad, u, rfl, hc, hu⟩ := hx.num (k := j) (by omega)
      have hu1 : 0 ≤ u ∧ u < 2 := Hb.out u (List.mem_of_getElem? hu)
      have Hu := Lib.hid hu
      clear hu
      have hd : 2 * q + u = val 2 ((xs.take 63).drop j) := by
        rw [drop_at (xs.take 63) j u (by rw [List.getElem?_take, if_pos (by omega)]; exact Hu.out), val_cons, Hq.out]; omega
      have hr := val_range 2 (by omega) ((xs.take 63).drop j) (fun x hx => Hb.out x (List.mem_of_mem_take (List.mem_of_mem_drop hx)))
      rw [← hd] at hr
      have hp : (2 : Int) ^ ((xs.take 63).drop j).length ≤ 2 ^ 63 := by
        exact_mod_cast Nat.pow_le_pow_right (show 0 < 2 by omega) (by simp; omega)
      have Hd := Lib.hid hd
      have b1 : 0 ≤ 2 * q + u := hr.1
      have b2 : 2 * q + u < 9223372036854775808 := by have := hr.2; omega
      clear hd hr hp
      go_wp2
      go_roundw
      case rel => exact ⟨j, 2 * q + u, by omega, by go_num, by go_num, b1, b2, Hd.out⟩
      case measure => simp [intOf] <;> omega

theorem numOf_val (xs : List Int) (hl : xs.length = 64) (h : ∀ x ∈ xs, 0 ≤ x ∧ x < 2) : numOf xs = wrap64 (val 2 xs) := by
  have e : xs = xs.take 63 ++ [xs.getD 63 0] := by
    conv => lhs; rw [← List.take_append_drop 63 xs]
    rw [drop_at xs 63 (xs.getD 63 0) (by simp [List.getElem?_eq_getElem (show 63 < xs.length by omega)]), List.drop_of_length_le (by omega)]
  have hr := val_range 2 (by omega) (xs.take 63) fun x hx => h x (List.mem_of_mem_take hx)
  have hl2 : (xs.take 63).length = 63 := by rw [List.length_take]; omega
  have hu : 0 ≤ xs.getD 63 0 ∧ xs.getD 63 0 < 2 := h _ (by simp [List.getElem?_eq_getElem (show 63 < xs.length by omega)])
  have hv : val 2 xs = val 2 (xs.take 63) + 2 ^ 63 * xs.getD 63 0 := by conv => lhs; rw [e, val_snoc, hl2]
  rw [hl2] at hr
  unfold numOf
  rw [hv]
  unfold wrap64
  omega
end Go.Proofs.YteliebinhdphlaaDoor

namespace Go.Proofs.YteliebinhdphlaaDoor
set_option maxRecDepth 100000
open Go.RowKit

def bytesOf (n : Int) : List Int := (List.range 8).map (byteAt n)


set_option maxHeartbeats 400000 in
theorem put_any (n : Int) (w : World) :
    Calls Tryd.prog 56 #[.int .i64 n] w fun e w' => ∃ v, e = .returned v ∧ w'.ownsRow w.heap.size 5 1 v 8 (u8s (bytesOf n)) ∧ Below w.heap.size w w' := by
  obtain ⟨i0, hi0, hz0, hz1, hz2⟩ := info_parts info_u8
  go_enter Tryd.func56, Tryd.ntmps56
  go_wp2_with (at_make; refine wpList_mk _ _ 22 5 i0 _ 1 8 rfl rfl Tryd.underlying22 hi0 hz0 hz1 hz2 rfl .i64 .i64 _ _ rfl rfl rfl rfl (by omega) (by omega) ?_; intro w1 hown1 hb1)
  go_loopw [8] (fun i wr => ∃ k : Nat, k ≤ 8 ∧ i = .int .i64 k ∧ wr.ownsRow w.heap.size 5 1 (.slice (some ⟨w.heap.size, 0, none⟩) 8 8) 8 (u8s (fillTo (byteAt n) 0 8 k)) ∧ Below w.heap.size w wr) (fun i _ => 8 - (intOf i).toNat)
  case atStart => exact ⟨0, by omega, rfl, by rw [fillTo_zero]; exact hown1, hb1⟩
  case round =>
    obtain ⟨k, hk, rfl, hown, hbl⟩ := hrel
    have hfr := hown.frozenAt k
    by_cases hlt : k < 8
    · have hce := hown.cellAt k (by omega)
      rw [List.getElem?_eq_getElem (by simp [fillTo_length]; omega)] at hce
      go_wp2
      go_roundw
      case rel =>
        rw [byte_of_wrap n k hlt]
        have h2 := (hown.stored k (.int .u8 (byteAt n k))).1
        rw [set_u8, fillTo_set] at h2
        exact ⟨k + 1, by omega, by go_num, h2, hbl.setCell (Nat.le_refl _) _⟩
      case measure => simp [intOf] <;> omega
    · have : k = 8 := by omega
      subst this
      rw [fillTo_full] at hown
      go_wp2
      go_ret
      exact ⟨_, rfl, hown, hbl⟩


set_option maxHeartbeats 800000 in
theorem rput_any (n : Int) (w : World) (h1 : -9223372036854775808 ≤ n) (h2 : n ≤ 9223372036854775807) :
    Calls Tryd.prog 94 #[.int .i64 n] w fun e w' => ∃ v, e = .returned v ∧ w'.ownsRow w.heap.size 5 1 v 8 (u8s (bytesOf n)) ∧ Below w.heap.size w w' := by
  obtain ⟨i0, hi0, hz0, hz1, hz2⟩ := info_parts info_u8
  go_enter Tryd.func94, Tryd.ntmps94
  go_wp2_with (go_at_call 99; refine (bits_any n _ h1 h2).mono ?_; rintro e w1 ⟨v1, rfl, hown1, hb1⟩; obtain ⟨A, c, rfl, hsl⟩ := own_form hown1; clear hown1)
  have hsz1 := hb1.size
  go_loopw [4, 5] (fun v i wr => ∃ k : Nat, k ≤ 8 ∧ i = .int .i64 k ∧ wr.ownsRow w1.heap.size 5 1 v k (u8s ((List.range k).map (byteAt n))) ∧ Below w1.heap.size w1 wr) (fun _ i _ => 8 - (intOf i).toNat)
  case atStart => exact ⟨0, by omega, rfl, World.ownsRow_nil _ _ _ _, Below.refl _ _⟩
  case round =>
    obtain ⟨k, hk, rfl, hown, hbl⟩ := hrel
    by_cases hlt : k < 8
    · have hsz := hbl.size
      have hs := hsl.below hbl
      obtain ⟨wo, rfl⟩ : ∃ wo : World, wo = wr := ⟨_, rfl⟩
      go_wp2
      go_loop [6, 7] (fun c i => ∃ (j : Nat) (q : Int), j ≤ 8 ∧ i = .int .i64 ((j : Int) - 1) ∧ c = .int .i64 q ∧ 0 ≤ q ∧ q < 256 ∧ q = n / 2 ^ (8 * k + j) % 2 ^ (8 - j)) (fun _ i => (intOf i + 1).toNat)
      case atStart => exact ⟨8, 0, by omega, by go_num, rfl, by omega, by omega, by simp [Int.emod_one]⟩
      case round =>
        obtain ⟨j, q, hj, rfl, rfl, q1, q2, hq⟩ := hrel
        have Hq := Lib.hid hq
        clear hq
        rcases j with _ | j
        · go_wp2_with (at_builtin; refine wpList_push _ _ 22 5 i0 _ _ 1 rfl rfl Tryd.underlying22 hi0 hz0 hz1 hz2 rfl w1.heap.size _ _ _ hown rfl rfl rfl (by omega) (by omega) hsz ?_; intro v' w2 hown2 hg2 hb2 hs2)
          go_roundw
          case rel =>
            refine ⟨k + 1, by omega, by go_num, ?_, hbl.trans hb2⟩
            have e : q = byteAt n k := Hq.out
            simpa [List.range_succ, u8s, e] using hown2
          case measure => simp [intOf] <;> omega
        · obtain ⟨ad, u, rfl, hc, hu⟩ := hs.num (k := 8 * k + j) (by omega)
          rw [bitsTo_at n 64 _ (by omega)] at hu
          have hu' : u = n / 2 ^ (8 * k + j) % 2 := by simpa using hu.symm
          have u1 : 0 ≤ u ∧ u ≤ 1 := by omega
          have Hu := Lib.hid hu'
          clear hu hu'
          have q4 : q < 128 := by rw [Hq.out]; exact (emod_pow_lt _ _ 7 (by omega)).2
          go_wp2
          go_roundw
          case rel =>
            refine ⟨j, 2 * q + u, by omega, by go_num, by go_num, by omega, by omega, ?_⟩
            · rw [Hq.out, Hu.out]
              have := bits_step n (8 * k + j) (8 - (j + 1))
              rw [show 8 - (j + 1) + 1 = 8 - j by omega] at this
              exact this
          case measure => simp [intOf] <;> omega
    · have : k = 8 := by omega
      subst this
      go_wp2
      go_ret
      exact ⟨_, rfl, own_base hown hsz1, hb1.trans (hbl.mono hsz1)⟩
end Go.Proofs.YteliebinhdphlaaDoor

namespace Go.Proofs.YteliebinhdphlaaDoor
set_option maxRecDepth 100000
open Go.RowKit

theorem val_bits8 (x : Int) (h : 0 ≤ x ∧ x < 256) : val 2 (bitsTo x 8) = x := by
  simp [bitsTo, List.range_succ, val]
  omega
theorem bits_flat (b : List Int) (h : ∀ x ∈ b, 0 ≤ x ∧ x < 256) : val 2 (b.flatMap fun x => bitsTo x 8) = val 256 b := by
  induction b with
  | nil => rfl
  | cons x b ih =>
    rw [List.flatMap_cons, val_append, val_bits8 x (h x List.mem_cons_self), ih fun y hy => h y (List.mem_cons_of_mem _ hy), bitsTo_length, val_cons]
    rfl
theorem flat_len (b : List Int) : (b.flatMap fun x => bitsTo x 8).length = 8 * b.length := by
  induction b with
  | nil => rfl
  | cons x b ih => rw [List.flatMap_cons, List.length_append, ih, bitsTo_length, List.length_cons]; omega
theorem flat_bit (b : List Int) : ∀ x ∈ (b.flatMap fun x => bitsTo x 8), 0 ≤ x ∧ x < 2 := by
  intro x hx
  obtain ⟨y, _, hy⟩ := List.mem_flatMap.1 hx
  simp only [bitsTo, List.mem_map] at hy
  obtain ⟨j, _, rfl⟩ := hy
  omega
def getVal (b : List Int) : Int := if b.length = 8 then wrap64 (val 256 b) else 0
def getErr (n : Nat) : Int := if n < 8 then 10 else if 8 < n then 12 else 0
theorem getVal_not {b : List Int} (h : b.length ≠ 8) : getVal b = 0 := by rw [getVal, if_neg h]
theorem getVal_is {b : List Int} (h : b.length = 8) : getVal b = wrap64 (val 256 b) := by rw [getVal, if_pos h]
theorem getErr_lo {n : Nat} (h : n < 8) : getErr n = 10 := by rw [getErr, if_pos h]
theorem getErr_hi {n : Nat} (h : 8 < n) : getErr n = 12 := by rw [getErr, if_neg (by omega), if_pos h]



set_option maxHeartbeats 800000 in
theorem rget_any (A : Option Addr) (n c : Nat) (b : List Int) (w : World) (hx : Sl w A n (u8s b)) (hb : ∀ x ∈ b, 0 ≤ x ∧ x < 256) (hn : n ≤ 1000) :
    Calls Tryd.prog 85 #[.slice A n c] w fun e w' => Below w.heap.size w w' ∧
      e = .returned (.tuple #[.int .i64 (getVal b), .int .i64 (getErr n)]) := by
  have hlen : b.length = n := by simpa using hx.1
  have Hlen := Lib.hid hlen
  clear hlen
  by_cases h1 : n < 8
  · go_enter Tryd.func85, Tryd.ntmps85
    go_wp2
    go_ret2
    exact ⟨Below.refl _ _, ret_two (getVal_not (by rw [Hlen.out]; omega)).symm (getErr_lo h1).symm⟩
  · by_cases h2 : 8 < n
    · go_enter Tryd.func85, Tryd.ntmps85
      go_wp2
      go_ret2
      exact ⟨Below.refl _ _, ret_two (getVal_not (by rw [Hlen.out]; omega)).symm (getErr_hi h2).symm⟩
    · obtain rfl : n = 8 := by omega
      clear hn h1 h2
      have Hb := Lib.hid hb
      clear hb
      obtain ⟨i0, hi0, hz0, hz1, hz2⟩ := info_parts info_int
      go_enter Tryd.func85, Tryd.ntmps85
      go_wp2
      go_loopw [4, 5] (fun v i wr => ∃ k : Nat, k ≤ 8 ∧ i = .int .i64 k ∧ wr.ownsRow w.heap.size 3 1 v (8 * k) (i64s ((b.take k).flatMap fun x => bitsTo x 8)) ∧ Below w.heap.size w wr) (fun _ i _ => 8 - (intOf i).toNat)
      case atStart => exact ⟨0, by omega, rfl, World.ownsRow_nil _ _ _ _, Below.refl _ _⟩
      case round =>
        obtain ⟨k, hk, rfl, hown, hbl⟩ := hrel
        have hs := hx.below hbl
        by_cases hlt : k < 8
        · have hsz := hbl.size
          obtain ⟨ad, u, rfl, hc, hu⟩ := hs.num hlt
          have hu1 : 0 ≤ u ∧ u < 256 := Hb.out u (List.mem_of_getElem? hu)
          have Hu := Lib.hid hu
          clear hu
          obtain ⟨wo, rfl⟩ : ∃ wo : World, wo = wr := ⟨_, rfl⟩
          have hd : decide ((k : Int) < 8) = true := decide_eq_true (by omega)
          go_wp2
          go_loopw [4, 6, 7] (fun v q i wr => ∃ (j : Nat) (r : Int), j ≤ 8 ∧ i = .int .i64 j ∧ q = .int .i64 r ∧ 0 ≤ r ∧ r < 256 ∧ r = u / 2 ^ j ∧ wr.ownsRow w.heap.size 3 1 v (8 * k + j) (i64s ((b.take k).flatMap (fun x => bitsTo x 8) ++ bitsTo u j)) ∧ Below w.heap.size w wr) (fun _ _ i _ => 8 - (intOf i).toNat)
          case atStart => exact ⟨0, u, by omega, rfl, rfl, hu1.1, hu1.2, by simp, by simpa [bitsTo] using hown, hbl⟩
          case round =>
            obtain ⟨j, r, hj, rfl, rfl, r1, r2, hr, hown2, hbl2⟩ := hrel
            have Hr := Lib.hid hr
            clear hr
            by_cases hjl : j < 8
            · have hsz2 := hbl2.size
              go_wp2_with (at_builtin; refine wpList_push _ _ 83 3 i0 _ _ 8 rfl rfl Tryd.underlying83 hi0 hz0 hz1 hz2 rfl w.heap.size _ _ _ hown2 rfl rfl rfl (by omega) (by omega) hsz2 ?_; intro v' w2 hown3 hg2 hb2 hs2)
              go_roundw
              case rel =>
                refine ⟨j + 1, r / 2, by omega, by go_num, rfl, by omega, by omega, by rw [Hr.out, half_pow], ?_, hbl2.trans hb2⟩
                rw [bitsTo_succ, ← Hr.out, ← List.append_assoc]
                simpa [i64s, Nat.add_assoc] using hown3
              case measure => simp [intOf] <;> omega
            · obtain rfl : j = 8 := by omega
              go_wp2
              go_roundw
              case rel =>
                refine ⟨k + 1, by omega, by go_num, ?_, hbl2⟩
                rw [take_snoc _ _ _ Hu.out, List.flatMap_append]
                simpa [Nat.mul_add] using hown2
              case measure => simp [intOf] <;> omega
        · obtain rfl : k = 8 := by omega
          rw [List.take_of_length_le (by rw [Hlen.out]; omega)] at hown
          obtain ⟨A', c', rfl, hsl⟩ := own_form hown
          clear hown
          go_wp2_with (go_at_call 93; refine (number_any _ _ _ _ hsl (flat_bit b)).mono ?_; rintro e w' ⟨rfl, rfl⟩)
          go_ret2
          exact ⟨hbl, ret_two (by rw [numOf_val _ (by rw [flat_len, Hlen.out]) (flat_bit b), bits_flat b Hb.out, getVal_is Hlen.out]) rfl⟩
end Go.Proofs.YteliebinhdphlaaDoor

namespace Go.Proofs.YteliebinhdphlaaDoor
set_option maxRecDepth 100000
open Go.RowKit

set_option maxHeartbeats 800000 in
theorem get_any (A : Option Addr) (n c : Nat) (b : List Int) (w : World) (hx : Sl w A n (u8s b)) (hb : ∀ x ∈ b, 0 ≤ x ∧ x < 256) (hn : n ≤ 1000) :
    Calls Tryd.prog 82 #[.slice A n c] w fun e w' => Below w.heap.size w w' ∧
      e = .returned (.tuple #[.int .i64 (getVal b), .int .i64 (getErr n)]) := by
  have hlen : b.length = n := by simpa using hx.1
  have Hlen := Lib.hid hlen
  clear hlen
  by_cases h1 : n < 8
  · go_enter Tryd.func82, Tryd.ntmps82
    go_wp2
    go_ret2
    exact ⟨Below.refl _ _, ret_two (getVal_not (by rw [Hlen.out]; omega)).symm (getErr_lo h1).symm⟩
  · by_cases h2 : 8 < n
    · go_enter Tryd.func82, Tryd.ntmps82
      go_wp2
      go_ret2
      exact ⟨Below.refl _ _, ret_two (getVal_not (by rw [Hlen.out]; omega)).symm (getErr_hi h2).symm⟩
    · obtain rfl : n = 8 := by omega
      clear hn h1 h2
      have Hb := Lib.hid hb
      clear hb
      go_enter Tryd.func82, Tryd.ntmps82
      go_wp2
      go_loop [4, 15] (fun v i => ∃ (k : Nat) (q : Int), k ≤ 8 ∧ i = .int .i64 k ∧ v = .int .u64 q ∧ 0 ≤ q ∧ q < 18446744073709551616 ∧ q = val 256 (b.take k)) (fun _ i => 8 - (intOf i).toNat)
      case atStart => exact ⟨0, 0, by omega, rfl, rfl, by omega, by omega, rfl⟩
      case round =>
        obtain ⟨k, q, hk, rfl, rfl, q1, q2, hq⟩ := hrel
        have Hq := Lib.hid hq
        clear hq
        by_cases hlt : k < 8
        · obtain ⟨ad, u, rfl, hc, hu⟩ := hx.num hlt
          have hu1 : 0 ≤ u ∧ u < 256 := Hb.out u (List.mem_of_getElem? hu)
          have Hu := Lib.hid hu
          clear hu
          have hr := val_range 256 (by omega) (b.take k) fun x hx => Hb.out x (List.mem_of_mem_take hx)
          have hl : (b.take k).length = k := by rw [List.length_take, Hlen.out]; omega
          rw [← Hq.out, hl, ← pow256] at hr
          have hj := or_join q u (8 * k) 8 q1 hr.2 hu1.1 hu1.2 (by omega)
          have hv : q + u * 2 ^ (8 * k) = val 256 (b.take (k + 1)) := by rw [take_snoc _ _ _ Hu.out, val_snoc, hl, ← Hq.out, ← pow256, Int.mul_comm u]
          have hn : 0 ≤ u * 2 ^ (8 * k) := Int.mul_nonneg hu1.1 (Int.le_of_lt (Int.pow_pos (by omega)))
          have Hj := Lib.hid hj; have Hv := Lib.hid hv; have Hn := Lib.hid hn
          clear hj hv hr hl hn
          go_wp2
          go_roundw
          case rel => exact ⟨k + 1, q + u * 2 ^ (8 * k), by omega, by go_num, val_int Hj.out.1, by have := Hn.out; omega, Hj.out.2, Hv.out⟩
          case measure => simp [intOf] <;> omega
        · obtain rfl : k = 8 := by omega
          go_wp2
          go_ret2
          exact ⟨Below.refl _ _, ret_two (by rw [Hq.out, List.take_of_length_le (by rw [Hlen.out]; omega), getVal_is Hlen.out]) rfl⟩
end Go.Proofs.YteliebinhdphlaaDoor

/- What Put made Get reads: without the short bytes' texts. -/
namespace Go.Proofs.YteliebinhdphlaaDoor
set_option maxRecDepth 100000
open Go.RowKit
set_option linter.unusedSimpArgs false
set_option linter.unusedVariables false

theorem val_bytes8 (n : Int) (m : Nat) : val 256 ((List.range m).map (byteAt n)) = n % 2 ^ (8 * m) := by
  induction m with
  | zero => simp [val, Int.emod_one]
  | succ m ih =>
    rw [List.range_succ, List.map_append, List.map_cons, List.map_nil, val_snoc, ih, List.length_map, List.length_range, ← pow256]
    unfold byteAt
    have hp : (0 : Int) < 2 ^ (8 * m) := Int.pow_pos (by omega)
    rw [show 8 * (m + 1) = 8 * m + 8 by omega, Int.pow_add]
    generalize (2 : Int) ^ (8 * m) = p at *
    have h1 := Int.emod_add_mul_ediv n p
    have h2 := Int.emod_nonneg n (show p ≠ 0 by omega)
    have h3 := Int.emod_lt_of_pos n hp
    generalize hq : n / p = q at *
    generalize hr : n % p = r at *
    have h4 : q = q % 256 + 256 * (q / 256) := by omega
    generalize hd : q % 256 = d at *
    have hd1 : 0 ≤ d ∧ d < 256 := by omega
    have e : n = (r + p * d) + p * 256 * (q / 256) := by
      have : p * q = p * d + p * 256 * (q / 256) := by conv => lhs; rw [h4, Int.mul_add, ← Int.mul_assoc]
      omega
    have h5 : p * (d + 1) ≤ p * 256 := Int.mul_le_mul_of_nonneg_left (by omega) (by omega)
    rw [Int.mul_add, Int.mul_one] at h5
    have h6 : 0 ≤ p * d := Int.mul_nonneg (by omega) hd1.1
    have e8 : (2 : Int) ^ 8 = 256 := by decide
    rw [e8, e, Int.add_mul_emod_self_left, Int.emod_eq_of_lt (by omega) (by omega)]

theorem get_put8 (n : Int) (h1 : -9223372036854775808 ≤ n) (h2 : n ≤ 9223372036854775807) : getVal (bytesOf n) = n := by
  rw [getVal_is (by simp [bytesOf]), bytesOf, val_bytes8]
  unfold wrap64
  omega
end Go.Proofs.YteliebinhdphlaaDoor

/- Numbers as rows of bits: plain lemmas; no program is named here. -/
namespace Go.Proofs.YteliebinhdphlaaDoor
set_option maxRecDepth 100000
open Go.RowKit

/-- The first k of m places as g says, the others as f does. -/
def mixTo (g f : Nat → Int) (m k : Nat) : List Int := (List.range m).map fun i => if i < k then g i else f i
theorem mixTo_zero (g f : Nat → Int) (m : Nat) : mixTo g f m 0 = (List.range m).map f := by
  apply List.ext_getElem (by simp [mixTo])
  intro i h1 h2
  simp [mixTo]
theorem mixTo_full (g f : Nat → Int) (m : Nat) : mixTo g f m m = (List.range m).map g := by
  apply List.ext_getElem (by simp [mixTo])
  intro i h1 h2
  simp [mixTo] at h1 ⊢
  intro h; omega
theorem mixTo_set (g f : Nat → Int) (m k : Nat) : (mixTo g f m k).set k (g k) = mixTo g f m (k + 1) := by
  apply List.ext_getElem (by simp [mixTo])
  intro i h1 h2
  simp [mixTo] at h1 ⊢
  rw [List.getElem_set]
  split
  · subst_vars; simp
  · simp
    by_cases h : i < k
    · rw [if_pos h, if_pos (by omega)]
    · rw [if_neg h, if_neg (by omega)]
theorem mixTo_at (g f : Nat → Int) {m k i : Nat} (hi : i < m) (hk : k ≤ i) : (mixTo g f m k)[i]? = some (f i) := by
  simp [mixTo, hi]; omega

def bitN (c j : Nat) : Int := ((c / 2 ^ j % 2 : Nat) : Int)
/-- A number's 32 bits, the lowest first. -/
def bl (c : Nat) : List Int := (List.range 32).map (bitN c)
theorem bit_range (c j : Nat) : 0 ≤ bitN c j ∧ bitN c j < 2 := by unfold bitN; omega
theorem bl_length (c : Nat) : (bl c).length = 32 := by simp [bl]
theorem bl_at (c : Nat) {i : Nat} (hi : i < 32) : (bl c)[i]? = some (bitN c i) := by simp [bl, hi]

theorem bit_xor (a b j : Nat) : bitN (a ^^^ b) j = (bitN a j + bitN b j) % 2 := by
  have h : (a ^^^ b) / 2 ^ j = a / 2 ^ j ^^^ b / 2 ^ j := by rw [← Nat.shiftRight_eq_div_pow, ← Nat.shiftRight_eq_div_pow, ← Nat.shiftRight_eq_div_pow, Nat.shiftRight_xor_distrib]
  unfold bitN
  rw [h, xor_mod_two]
  omega
theorem bit_half (d j : Nat) : bitN (d / 2) j = bitN d (j + 1) := by
  unfold bitN
  rw [Nat.div_div_eq_div_mul, Nat.pow_succ, Nat.mul_comm]
theorem bit_high {c j m : Nat} (h : c < 2 ^ m) (hj : m ≤ j) : bitN c j = 0 := by
  unfold bitN
  rw [Nat.div_eq_of_lt (Nat.lt_of_lt_of_le h (Nat.pow_le_pow_right (by omega) hj))]; rfl
theorem bit_zero_num (j : Nat) : bitN 0 j = 0 := by unfold bitN; simp
theorem bit_low (c : Nat) : bitN c 0 = ((c % 2 : Nat) : Int) := by unfold bitN; simp

/-- A byte turned into the lowest eight bits. -/
theorem bl_byte (c x : Nat) (hx : x < 256) : mixTo (fun i => (bitN c i + bitN x i) % 2) (bitN c) 32 8 = bl (c ^^^ x) := by
  apply List.ext_getElem (by simp [mixTo, bl])
  intro i h1 h2
  simp [mixTo] at h1
  simp only [mixTo, bl, List.getElem_map, List.getElem_range, bit_xor]
  split
  · rfl
  · rw [bit_high (c := x) (m := 8) hx (by omega)]
    have := bit_range c i
    omega
/-- All bits one place down. -/
theorem bl_down (d : Nat) (hd : d < 4294967296) : (mixTo (fun i => bitN d (i + 1)) (bitN d) 32 31).set 31 0 = bl (d / 2) := by
  apply List.ext_getElem (by simp [mixTo, bl])
  intro i h1 h2
  simp [mixTo] at h1
  rw [List.getElem_set]
  simp only [mixTo, bl, List.getElem_map, List.getElem_range, bit_half]
  split
  · subst_vars
    exact (bit_high (m := 32) hd (by omega)).symm
  · rw [if_pos (by omega)]
theorem bl_turn (d : Nat) (ho : d % 2 = 1) : mixTo (fun i => (bitN (d / 2) i + bitN poly i) % 2) (bitN (d / 2)) 32 32 = bl (half d) := by
  rw [mixTo_full]
  unfold bl half
  rw [if_pos ho]
  apply List.map_congr_left
  intro i _
  rw [bit_xor]
theorem bl_stay (d : Nat) (ho : d % 2 = 0) : bl (d / 2) = bl (half d) := by
  unfold half
  rw [if_neg (by omega), Nat.xor_zero]
theorem bit_ones {j : Nat} (hj : j < 32) : bitN ones j = 1 := by
  have : ∀ j < 32, bitN ones j = 1 := by decide
  exact this j hj
theorem bl_ones (k : Nat) : mixTo (fun i => 1 - bitN k i) (bitN k) 32 32 = bl (ones ^^^ k) := by
  rw [mixTo_full]
  unfold bl
  apply List.map_congr_left
  intro i hi
  rw [bit_xor, bit_ones (by simpa using hi)]
  have := bit_range k i
  omega
theorem bl_start : List.replicate 32 (1 : Int) = bl ones := by decide

theorem val_map (f : Nat → Int) (c : Nat) (hf : ∀ j, f j = bitN c j) : ∀ m, val 2 ((List.range m).map f) = ((c % 2 ^ m : Nat) : Int) := by
  intro m
  induction m with
  | zero => simp [val, Nat.mod_one]
  | succ m ih =>
    rw [List.range_succ, List.map_append, List.map_cons, List.map_nil, val_snoc, ih, List.length_map, List.length_range, hf]
    unfold bitN
    rw [Nat.pow_succ, Nat.mod_mul]
    push_cast
    rfl
theorem val_bl {c : Nat} (h : c < 4294967296) : val 2 (bl c) = (c : Int) := by
  unfold bl
  rw [val_map (bitN c) c (fun _ => rfl) 32, Nat.mod_eq_of_lt h]

/-- Eight steps, one by one. -/
def halves : Nat → Nat → Nat
  | 0, c => c
  | r + 1, c => half (halves r c)
theorem halves_eight (c : Nat) : halves 8 c = half8 c := rfl
theorem halves_lt {c : Nat} (h : c < 4294967296) : ∀ r, halves r c < 4294967296
  | 0 => h
  | r + 1 => half_lt (halves_lt h r)
end Go.Proofs.YteliebinhdphlaaDoor

namespace Go.Proofs.YteliebinhdphlaaDoor
set_option maxRecDepth 100000
open Go.RowKit

def turnL : List Int := [14, 13, 11, 8, 8, 3, 2, 0]
/-- The bits of the last of eight numbers, of those from the m-th on. -/
def turnTo (m : Nat) : List Int := (turnL.drop m).reverse.flatMap fun x => bitsTo x 4
theorem turn_next {m : Nat} {u : Int} (hu : turnL[m]? = some u) : turnTo m = turnTo (m + 1) ++ bitsTo u 4 := by
  unfold turnTo
  rw [drop_at turnL m u hu, List.reverse_cons, List.flatMap_append]
  simp
theorem turn_full : turnTo 0 = bl poly := by decide
theorem turn_len (m : Nat) : m ≤ 8 → (turnTo m).length = 4 * (8 - m) := by
  intro h
  rcases (show m = 0 ∨ m = 1 ∨ m = 2 ∨ m = 3 ∨ m = 4 ∨ m = 5 ∨ m = 6 ∨ m = 7 ∨ m = 8 by omega) with rfl | rfl | rfl | rfl | rfl | rfl | rfl | rfl | rfl <;> rfl

set_option maxHeartbeats 1600000 in
theorem cturn_any (w : World) : Calls Tryd.prog 102 #[] w fun e w' => ∃ v, e = .returned v ∧ w'.ownsRow w.heap.size 3 1 v 32 (i64s (bl poly)) ∧ Below w.heap.size w w' := by
  obtain ⟨i0, hi0, hz0, hz1, hz2⟩ := info_parts info_int
  obtain ⟨wa, hwa⟩ : ∃ wa, wa = w.alloc (.cells #[.int .i64 14, .int .i64 13, .int .i64 11, .int .i64 8, .int .i64 8, .int .i64 3, .int .i64 2, .int .i64 0] 3) := ⟨_, rfl⟩
  have hs : Sl wa (some ⟨w.heap.size, 0, none⟩) 8 (i64s turnL) := by rw [hwa]; exact Sl.new_ w 3 (i64s turnL) 8 rfl
  have hbel : Below w.heap.size w wa := by rw [hwa]; exact below_alloc _ _
  have hlt1 : w.heap.size < wa.heap.size := by rw [hwa]; simp
  have Hwa := Lib.hid hwa
  go_enter Tryd.func102, Tryd.ntmps102
  go_wp2
  rw [← hwa]
  clear hwa
  go_loopw [2, 3] (fun v i wr => ∃ (m : Nat) (iv : Int), m ≤ 8 ∧ i = .int .i64 iv ∧ iv = (m : Int) - 1 ∧ wr.ownsRow wa.heap.size 3 1 v (4 * (8 - m)) (i64s (turnTo m)) ∧ Below wa.heap.size wa wr) (fun _ i _ => (intOf i + 1).toNat)
  case atStart => exact ⟨8, 7, by omega, by go_num, by omega, World.ownsRow_nil _ _ _ _, Below.refl _ _⟩
  case round =>
    obtain ⟨m, iv, hm, rfl, hiv, hown, hbl⟩ := hrel
    have hsr := hs.below hbl
    have hsz := hbl.size
    rcases m with _ | m
    · obtain rfl : iv = -1 := by omega
      clear hiv
      have hown2 := own_base hown (show w.heap.size ≤ wa.heap.size by omega)
      rw [turn_full] at hown2
      have hbw := hbel.trans (hbl.mono (by omega))
      go_wp2
      go_ret
      exact ⟨_, rfl, hown2, hbw⟩
    · obtain rfl : iv = (m : Int) := by omega
      clear hiv
      obtain ⟨ad, u, had, hc, hu⟩ := hsr.num (k := m) (by omega)
      simp only [Option.some.injEq] at had
      subst had
      have hc : wr.cell? ⟨w.heap.size, m, none⟩ = some (.int .i64 u) := by
        have e : (⟨w.heap.size, 0, none⟩ : Addr).add m = ⟨w.heap.size, m, none⟩ := by unfold Addr.add; split <;> simp_all
        rw [← e]; exact hc
      have hu1 : 0 ≤ u ∧ u < 16 := by
        have : ∀ x ∈ turnL, 0 ≤ x ∧ x < 16 := by decide
        exact this u (List.mem_of_getElem? hu)
      have Hn := Lib.hid (turn_next hu)
      clear hu
      obtain ⟨wo, rfl⟩ : ∃ wo : World, wo = wr := ⟨_, rfl⟩
      have hd : decide (0 ≤ (m : Int)) = true := decide_eq_true (by omega)
      go_wp2
      go_loopw [2, 4, 5] (fun v q i wr => ∃ (j : Nat) (r : Int), j ≤ 4 ∧ i = .int .i64 j ∧ q = .int .i64 r ∧ 0 ≤ r ∧ r < 16 ∧ r = u / 2 ^ j ∧ wr.ownsRow wa.heap.size 3 1 v (4 * (8 - (m + 1)) + j) (i64s (turnTo (m + 1) ++ bitsTo u j)) ∧ Below wa.heap.size wa wr) (fun _ _ i _ => 4 - (intOf i).toNat)
      case atStart => exact ⟨0, u, by omega, rfl, rfl, hu1.1, hu1.2, by simp, by simpa [bitsTo] using hown, hbl⟩
      case round =>
        obtain ⟨j, r, hj, rfl, rfl, r1, r2, hr, hown2, hbl2⟩ := hrel
        have Hr := Lib.hid hr
        clear hr
        by_cases hjl : j < 4
        · have hsz2 := hbl2.size
          go_wp2_with (at_builtin; refine wpList_push _ _ 83 3 i0 _ _ 8 rfl rfl Tryd.underlying83 hi0 hz0 hz1 hz2 rfl wa.heap.size _ _ _ hown2 rfl rfl rfl (by omega) (by omega) hsz2 ?_; intro v' w2 hown3 hg2 hb2 hs2)
          go_roundw
          case rel =>
            refine ⟨j + 1, r / 2, by omega, by go_num, rfl, by omega, by omega, by rw [Hr.out, half_pow], ?_, hbl2.trans hb2⟩
            rw [bitsTo_succ, ← Hr.out, ← List.append_assoc]
            simpa [i64s, Nat.add_assoc] using hown3
          case measure => simp [intOf] <;> omega
        · obtain rfl : j = 4 := by omega
          go_wp2
          go_roundw
          case rel =>
            refine ⟨m, (m : Int) - 1, by omega, by go_num, rfl, ?_, hbl2⟩
            rw [Hn.out, show 4 * (8 - m) = 4 * (8 - (m + 1)) + 4 by omega]
            exact hown2
          case measure => simp [intOf] <;> omega
end Go.Proofs.YteliebinhdphlaaDoor
