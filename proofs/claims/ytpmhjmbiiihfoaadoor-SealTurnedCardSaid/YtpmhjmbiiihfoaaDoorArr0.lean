/- Arrays by value; cells stored side by side. -/
import Derived.Test.YtpmhjmbiiihfoaaDoorHeap
import Derived.Deep.MidRow
import Derived.Deep.WholeRow
import Derived.ChangeKeysEq
namespace Go.Proofs.YtpmhjmbiiihfoaaDoor
open Go.RowKit Go.Deep
set_option linter.unusedSimpArgs false
set_option linter.unusedVariables false

theorem setCells_other (b : Nat) : ∀ (cs : List Value) (o : Nat) (w : World) (k : Nat), k ≠ b → (w.setCells b o cs).heap[k]? = w.heap[k]?
  | [], _, _, _, _ => rfl
  | v :: r, o, w, k, h => by
    rw [World.setCells, setCells_other b r (o + 1) _ k h]
    exact blk_setCell_other _ _ _ _ h
theorem setCells_size (b : Nat) : ∀ (cs : List Value) (o : Nat) (w : World), (w.setCells b o cs).heap.size = w.heap.size
  | [], _, _ => rfl
  | v :: r, o, w => by rw [World.setCells, setCells_size b r (o + 1)]; exact nblk_setCell _ _ _
theorem set_parts (vs r : List Value) (o : Nat) (v : Value) (ho : o < vs.length) : (vs.set o v).take (o + 1) ++ r ++ (vs.set o v).drop (o + 1 + r.length) = vs.take o ++ (v :: r) ++ vs.drop (o + (v :: r).length) := by
  have e1 : (vs.set o v).take (o + 1) = vs.take o ++ [v] := by
    apply List.ext_getElem?
    intro i
    by_cases hi : i < o
    · rw [List.getElem?_append_left (by rw [List.length_take]; omega), List.getElem?_take, List.getElem?_take, if_pos (by omega), if_pos hi, List.getElem?_set_ne (by omega)]
    · by_cases hi2 : i = o
      · subst hi2
        rw [List.getElem?_append_right (by rw [List.length_take]; omega), List.getElem?_take, if_pos (by omega), List.getElem?_set_self ho, List.length_take, Nat.min_eq_left (by omega), Nat.sub_self]; rfl
      · rw [List.getElem?_eq_none (by rw [List.length_take, List.length_set]; omega), List.getElem?_eq_none (by rw [List.length_append, List.length_take]; simp; omega)]
  have e2 : (vs.set o v).drop (o + 1 + r.length) = vs.drop (o + (v :: r).length) := by
    apply List.ext_getElem?
    intro i
    rw [List.getElem?_drop, List.getElem?_drop, List.getElem?_set_ne (by omega)]
    congr 1
    simp; omega
  rw [e1, e2]; simp
theorem setCells_blk {b : Nat} {t : TypeId} : ∀ (cs : List Value) (o : Nat) (w : World) (vs : List Value), Blk w b t vs → o + cs.length ≤ vs.length → Blk (w.setCells b o cs) b t (vs.take o ++ cs ++ vs.drop (o + cs.length))
  | [], o, w, vs, h, _ => by
    rw [World.setCells]; simpa using h
  | v :: r, o, w, vs, h, hl => by
    rw [World.setCells]
    have hl2 : o + (r.length + 1) ≤ vs.length := hl
    have h1 := setCells_blk r (o + 1) _ (vs.set o v) (h.set o v) (by rw [List.length_set]; omega)
    rw [set_parts vs r o v (by omega)] at h1
    exact h1
theorem setCells_whole {b : Nat} {t : TypeId} {cs vs : List Value} {w : World} (h : Blk w b t vs) (hl : cs.length = vs.length) : Blk (w.setCells b 0 cs) b t cs := by
  have := setCells_blk cs 0 w vs h (by omega)
  rw [List.drop_of_length_le (by omega)] at this
  simpa using this
theorem setCells_misc (b : Nat) : ∀ (cs : List Value) (o : Nat) (w : World), (w.setCells b o cs).os = w.os ∧ (w.setCells b o cs).tape = w.tape ∧ (w.setCells b o cs).output = w.output
  | [], _, _ => ⟨rfl, rfl, rfl⟩
  | v :: r, o, w => by rw [World.setCells]; exact setCells_misc b r (o + 1) _
theorem below_setCells {B b : Nat} {w w' : World} (h : Below B w w') (hb : B ≤ b) (cs : List Value) (o : Nat) : Below B w (w'.setCells b o cs) :=
  ⟨(setCells_misc b cs o w').1.trans h.os, (setCells_misc b cs o w').2.1.trans h.tape, (setCells_misc b cs o w').2.2.trans h.output, by rw [setCells_size]; exact h.size, fun k hk => (setCells_other b cs o w' k (by omega)).trans (h.block k hk)⟩

theorem Blk.range {w : World} {b : Nat} {t : TypeId} {vs : List Value} (h : Blk w b t vs) : w.rangeAt b 0 vs := fun j v hv => by
  rw [Nat.zero_add]; exact h.cell hv
theorem Blk.there {w : World} {b n : Nat} {t : TypeId} {vs : List Value} (h : Blk w b t vs) (hn : n ≤ vs.length) : w.there b 0 n := fun j hj => by
  rw [Nat.zero_add]
  exact ⟨by rw [h.cell (List.getElem?_eq_getElem (show j < vs.length by omega))]; rfl, h.frozen j⟩
theorem step_copy {P : Program} {ops : Array Oper} {o : Oper} {a : Act} {w : World} {K : Act → World → Prop} {Q : Exit → Act → World → Prop} {E : Prop} (hgd : o.guard = none) (d s : Operand) (t t' : TypeId)
    (ho : o.op = .call { callee := .builtin .copy, args := #[d, s], argTypes := #[t, t'] }) (v u : Value) (hd : a.eval d = v) (hs : a.eval s = u) {v' : Value} {w' : World}
    (hr : (Builtin.copy_ #[t, t'] o.type #[v, u]).run P w = .ok v' w') (h : K (a.put o.dst v') w') : if Region.wanted o (yielded ops a.tmps) = true then Oper.wp P o a w K Q else E := by
  rw [if_pos (by simp [Region.wanted, hgd])]
  unfold Oper.wp execOp
  simp only [ho, resolve, invoke, builtin, Sem.run_bind, Sem.run_pure, Result.andThen_ok, List.map_toArray, List.map_cons, List.map_nil, hd, hs, hr]
  exact h
theorem wpList_copy {P : Program} {w : World} {ops : Array Oper} {rest : List Oper} {o : Oper} {a : Act} {Q : Exit → Act → World → Prop} (hgd : o.guard = none) (d s : Operand) (t t' : TypeId)
    (ho : o.op = .call { callee := .builtin .copy, args := #[d, s], argTypes := #[t, t'] }) (v u : Value) (hd : a.eval d = v) (hs : a.eval s = u) {v' : Value} {w' : World}
    (hr : (Builtin.copy_ #[t, t'] o.type #[v, u]).run P w = .ok v' w') (h : wpList P ops Q rest (a.put o.dst v') w') : wpList P ops Q (o :: rest) a w := by
  refine wpList_plain hgd fun K hK => ?_
  unfold Oper.wp execOp
  simp only [ho, resolve, invoke, builtin, Sem.run_bind, Sem.run_pure, Result.andThen_ok, List.map_toArray, List.map_cons, List.map_nil, hd, hs, hr]
  exact hK _ _ h

/-- A load of a long row at a list of operations, under a guard that holds ('wpList_load_mid' wants none). -/
theorem wpList_load_want {P : Program} {ops : Array Oper} {rest : List Oper} {op : Oper} {a : Act} {w : World} {Q : Exit → Act → World → Prop} (hw : Region.wanted op (yielded ops a.tmps) = true) (ty : TypeId) (x : Operand) (ho : op.op = .load ty x)
    (b o : Nat) (hx : a.eval x = .pointer (some ⟨b, o, none⟩)) (cs : List Value) (d : TypeDesc) (hc : w.rangeAt b o cs)
    (hu : P.underlying ty = some d) (hd : d.isRow = true) (hi : (P.info? ty).map (·.size) = some cs.length)
    (h : wpList P ops Q rest (a.put op.dst (.agg cs.toArray)) w) : wpList P ops Q (op :: rest) a w :=
  Go.BigFrame.wpList_want hw fun _ hK => wp_load_mid ty x ho b o hx cs d hc hu hd hi (hK _ _ h)
/-- An array's cells are those of a slice of it. -/
theorem Blk.sl8 {w : World} {b : Nat} {t : TypeId} {xs : List Int} (h : Blk w b t (u8s xs)) : Sl w (some ⟨b, 0, none⟩) xs.length (u8s xs) :=
  ⟨by simp, fun j u hu => ⟨_, rfl, by rw [show (⟨b, 0, none⟩ : Addr).add j = ⟨b, j, none⟩ by unfold Addr.add; split <;> simp_all]; exact h.cell hu⟩⟩
theorem run_eq_bytes {P : Program} {e : TypeId} (he : P.plainKey e = true) (hu : P.underlying e = some (.int .u8)) (d : Nat) (xs ys : List Int) (w : World) : ∀ is : List Nat, (∀ i ∈ is, i < xs.length ∧ i < ys.length) →
    (Op.eqItems (d + 1) e 1 (u8s xs).toArray (u8s ys).toArray is).run P w = .ok (is.all fun i => xs[i]? == ys[i]?) w
  | [], _ => by simp [Op.eqItems]
  | i :: is, h => by
    obtain ⟨h1, h2⟩ := h i (by simp)
    have ih := run_eq_bytes he hu d xs ys w is (fun j hj => h j (by simp [hj]))
    have p1 := run_part_plain (P := P) (w := w) he (xs := (u8s xs).toArray) (off := i * 1) (v := .int .u8 xs[i]) (by simp [h1])
    have p2 := run_part_plain (P := P) (w := w) he (xs := (u8s ys).toArray) (off := i * 1) (v := .int .u8 ys[i]) (by simp [h2])
    have p3 : (Op.equalIn (d + 1) e (.int .u8 xs[i]) (.int .u8 ys[i])).run P w = .ok (xs[i] == ys[i]) w := by
      simp [Op.equalIn, run_underlying hu]
    simp only [Op.eqItems, Sem.run_bind, p1, p2, p3, Result.andThen_ok]
    by_cases he2 : xs[i] = ys[i]
    · simp [he2, h1, h2, ih]
    · simp [he2, h1, h2]
theorem arr_eq {P : Program} {t e : TypeId} {n : Nat} {i : TypeInfo} (hu : P.underlying t = some (.array n e)) (hi : P.info? e = some i) (hc : P.cellsOf e = 1) (he : P.plainKey e = true) (hue : P.underlying e = some (.int .u8)) (d : Nat) (xs ys : List Int) (hx : xs.length = n) (hy : ys.length = n) (w : World) :
    (Op.equalIn (d + 2) t (.agg (u8s xs).toArray) (.agg (u8s ys).toArray)).run P w = .ok (decide (xs = ys)) w := by
  rw [run_equalIn_array (w := w) (d + 1) _ _ hu hi, hc, run_eq_bytes he hue d xs ys w _ (fun i hi => by have := List.mem_range.1 hi; omega)]
  congr 1
  by_cases e : xs = ys
  · subst e; simp
  · rw [decide_eq_false e, Bool.eq_false_iff]
    intro h
    apply e
    apply List.ext_getElem?
    intro j
    by_cases hj : j < n
    · have := List.all_eq_true.1 h j (List.mem_range.2 hj)
      simpa using this
    · rw [List.getElem?_eq_none (by omega), List.getElem?_eq_none (by omega)]
end Go.Proofs.YtpmhjmbiiihfoaaDoor
