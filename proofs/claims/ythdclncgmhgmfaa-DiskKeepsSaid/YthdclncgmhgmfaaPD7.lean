/- The program's disk: what is kept of a piece. -/
import Derived.Test.YthdclncgmhgmfaaPD6
import Derived.Laws.IdiomCopy
namespace Go.Proofs.Ythdclncgmhgmfaa
open Go.RowKit Go.Deep
set_option linter.unusedSimpArgs false
set_option linter.unusedVariables false

/-- A sector's cells with a new row, in use. -/
def keptIn (vs : List Value) (n : Nat) (new : List Int) : List Value := (vs.take (n * 130) ++ u8s new ++ vs.drop (n * 130 + 128)).set (n * 130 + 128) (.bool true)
theorem keptIn_len {vs : List Value} {n : Nat} {new : List Int} (h : n * 130 + 130 ≤ vs.length) (hn : new.length = 128) : (keptIn vs n new).length = vs.length := by
  unfold keptIn
  rw [List.length_set, List.length_append, List.length_append, List.length_take, List.length_drop, List.length_map, hn]
  omega
theorem keptIn_at {vs : List Value} {n : Nat} {new : List Int} (h : n * 130 + 130 ≤ vs.length) (hn : new.length = 128) (x : Nat) :
    (keptIn vs n new)[x]? = if x = n * 130 + 128 then some (.bool true) else if n * 130 ≤ x ∧ x < n * 130 + 128 then (u8s new)[x - n * 130]? else vs[x]? := by
  have hl : (u8s new).length = 128 := by rw [List.length_map, hn]
  unfold keptIn
  rw [set_at _ _ _ _ (by rw [List.length_append, List.length_append, List.length_take, List.length_drop, hl]; omega)]
  have := put_at vs (u8s new) (n * 130) x (by rw [hl]; omega)
  rw [hl] at this
  rw [this]

theorem keep_end {w : World} {sb n : Nat} {vs : List Value} {new : List Int} (hs : Blk w sb 70 vs) (h : n * 130 + 130 ≤ vs.length) (hn : new.length = 128) :
    Blk ((w.setCells sb (n * 130) (u8s new)).setCell ⟨sb, n * 130 + 128, none⟩ (.bool true)) sb 70 (keptIn vs n new) := by
  have h1 := setCells_blk (u8s new) (n * 130) w vs hs (by rw [List.length_map, hn]; omega)
  rw [show (u8s new).length = 128 by rw [List.length_map, hn]] at h1
  exact h1.set (n * 130 + 128) (.bool true)

/-- Nothing is kept. -/
theorem dkeep_none (w : World) (p : Addr) (bs : List Int) :
    Calls Try.prog 52 #[.pointer (some p), .agg (u8s bs).toArray, .int .i64 0] w fun e w' => e = .returned (.tuple #[]) ∧ Only Nothing w w' := by
  obtain ⟨w1, hw1⟩ : ∃ w1, w1 = w.alloc (.cells (u8s bs).toArray 52) := ⟨_, rfl⟩
  have hb1 : Below w.heap.size w w1 := by rw [hw1]; exact below_alloc _ _
  have Hw1 := Lib.hid hw1
  clear hw1
  go_enter Try.func52, Try.ntmps52
  go_wp2_with fail
  rw [← Hw1.out]
  go_wp2
  exact bodyPost_ret (results_none rfl _ _ _) rfl ⟨rfl, Only.of_below hb1⟩

set_option maxRecDepth 100000 in
set_option maxHeartbeats 1600000 in
/-- All is kept. -/
theorem dkeep_whole (w : World) (sb n m : Nat) (vs : List Value) (bs : List Int) (hs : Blk w sb 70 vs) (hv : n * 130 + 130 ≤ vs.length) (hb : bs.length = 128) (hm : 128 ≤ m) (hm2 : m < 256) :
    Calls Try.prog 52 #[.pointer (some ⟨sb, n * 130, none⟩), .agg (u8s bs).toArray, .int .i64 (m : Int)] w fun e w' => e = .returned (.tuple #[]) ∧ Blk w' sb 70 (keptIn vs n bs) ∧ Only (fun k => k = sb) w w' := by
  obtain ⟨w1, hw1⟩ : ∃ w1, w1 = w.alloc (.cells (u8s bs).toArray 52) := ⟨_, rfl⟩
  have hbx : Blk w1 w.heap.size 52 (u8s bs) := by rw [hw1]; exact box_new w bs
  have hb1 : Below w.heap.size w w1 := by rw [hw1]; exact below_alloc _ _
  have hs1 := hs.kept (hb1.block _ hs.lt)
  have Hw1 := Lib.hid hw1
  have hsizeL : (Try.prog.info? 52).map (·.size) = some (u8s bs).length := by rw [size_arr, List.length_map, hb]
  have hsizeA : (Try.prog.info? 52).map (·.size) = some (u8s bs).toArray.size := by rw [size_arr, List.size_toArray, List.length_map, hb]
  have Hthere := Lib.hid (show w1.there sb (n * 130) (u8s bs).toArray.size from fun j hj => by
    rw [List.size_toArray, List.length_map, hb] at hj
    exact ⟨by rw [hs1.cell (List.getElem?_eq_getElem (show n * 130 + j < vs.length by omega))]; rfl, hs1.frozen _⟩)
  have Hrange := Lib.hid hbx.range
  obtain ⟨w2, hw2⟩ : ∃ w2, w2 = w1.setCells sb (n * 130) (u8s bs) := ⟨_, rfl⟩
  have hs2 : Blk w2 sb 70 (vs.take (n * 130) ++ u8s bs ++ vs.drop (n * 130 + (u8s bs).length)) := by
    rw [hw2]; exact setCells_blk (u8s bs) (n * 130) w1 vs hs1 (by rw [List.length_map, hb]; omega)
  have hcu : ∃ u, w2.cell? ⟨sb, n * 130 + 128, none⟩ = some u := ⟨_, hs2.cell (List.getElem?_eq_getElem (by
    rw [List.length_append, List.length_append, List.length_take, List.length_drop, List.length_map, hb]; omega))⟩
  obtain ⟨u, hcu⟩ := hcu
  have hfu := hs2.frozen (n * 130 + 128)
  have Hfin := Lib.hid (show Blk (w2.setCell ⟨sb, n * 130 + 128, none⟩ (.bool true)) sb 70 (keptIn vs n bs) ∧ Only (fun k => k = sb) w (w2.setCell ⟨sb, n * 130 + 128, none⟩ (.bool true)) by
    rw [hw2]
    exact ⟨keep_end hs1 hv hb, ((Only.of_below hb1).trans (setCells_only (F := fun k => k = sb) w1 (rb := sb) rfl _ _) (fun _ _ h => h)).set (Or.inr rfl) _⟩)
  have Hw2 := Lib.hid hw2
  have hd : ((m : Int) == 0) = false := by simp; omega
  have hd1 : decide ((m : Int) = 0) = false := decide_eq_false (by omega)
  have hd2 : decide ((m : Int) < 128) = false := decide_eq_false (by omega)
  clear hw1 hs1 hw2 hs2 hbx hs hm hm2
  go_enter Try.func52, Try.ntmps52
  go_wp2_with fail
  rw [← Hw1.out]
  go_wp2_with fail
  refine wp_load_mid 52 (.tmp 4) rfl w.heap.size 0 rfl (u8s bs) _ Hrange.out Try.underlying52 rfl hsizeL ?_
  go_wp2_with (refine wpList_store_mid rfl 52 (.tmp 21) (.tmp 19) rfl sb (n * 130) (u8s bs).toArray rfl rfl Hthere.out hsizeA (all_oneCell_toArray (one_u8s _)) ?_; rw [show (u8s bs).toArray.toList = u8s bs from rfl, ← Hw2.out])
  go_end0
  exact ⟨rfl, Hfin.out⟩

/-- Of a piece the first m bytes are kept. -/
def partOf (m : Nat) (bs old : List Int) : List Int := bs.take m ++ old.drop m
theorem partOf_len {m : Nat} {bs old : List Int} (hb : bs.length = 128) (ho : old.length = 128) (hm : m ≤ 128) : (partOf m bs old).length = 128 := by
  unfold partOf; rw [List.length_append, List.length_take, List.length_drop]; omega

theorem step_copy {P : Program} {ops : Array Oper} {o : Oper} {a : Act} {w : World} {K : Act → World → Prop} {Q : Exit → Act → World → Prop} {E : Prop} (hgd : o.guard = none) (d s : Operand) (t t' : TypeId)
    (ho : o.op = .call { callee := .builtin .copy, args := #[d, s], argTypes := #[t, t'] }) (v u : Value) (hd : a.eval d = v) (hs : a.eval s = u) {v' : Value} {w' : World}
    (hr : (Builtin.copy_ #[t, t'] o.type #[v, u]).run P w = .ok v' w') (h : K (a.put o.dst v') w') : if Region.wanted o (yielded ops a.tmps) = true then Oper.wp P o a w K Q else E := by
  rw [if_pos (by simp [Region.wanted, hgd])]
  unfold Oper.wp execOp
  simp only [ho, resolve, invoke, builtin, Sem.run_bind, Sem.run_pure, Result.andThen_ok, List.map_toArray, List.map_cons, List.map_nil, hd, hs, hr]
  exact h

set_option maxRecDepth 100000 in
set_option maxHeartbeats 3200000 in
/-- A part is kept. -/
theorem dkeep_part (w : World) (sb n m : Nat) (vs : List Value) (bs old : List Int) (hs : Blk w sb 70 vs) (hv : n * 130 + 130 ≤ vs.length) (hb : bs.length = 128) (hold : old.length = 128) (hrow : ∀ (j : Nat) (u : Int), old[j]? = some u → vs[n * 130 + j]? = some (.int .u8 u)) (hm0 : 0 < m) (hm : m < 128) :
    Calls Try.prog 52 #[.pointer (some ⟨sb, n * 130, none⟩), .agg (u8s bs).toArray, .int .i64 (m : Int)] w fun e w' => e = .returned (.tuple #[]) ∧ Blk w' sb 70 (keptIn vs n (partOf m bs old)) ∧ Only (fun k => k = sb) w w' := by
  obtain ⟨w1, hw1⟩ : ∃ w1, w1 = w.alloc (.cells (u8s bs).toArray 52) := ⟨_, rfl⟩
  have hbx : Blk w1 w.heap.size 52 (u8s bs) := by rw [hw1]; exact box_new w bs
  have hb1 : Below w.heap.size w w1 := by rw [hw1]; exact below_alloc _ _
  have hs1 := hs.kept (hb1.block _ hs.lt)
  have hne : sb ≠ w.heap.size := by have := hs.lt; omega
  have hpl := partOf_len hb hold (show m ≤ 128 by omega)
  obtain ⟨ns, hns⟩ : ∃ ns, ns = partOf m bs old := ⟨_, rfl⟩
  rw [← hns] at hpl ⊢
  -- what is copied
  have hcl : (u8s (old.drop m)).length = 128 - m := by rw [List.length_map, List.length_drop, hold]
  have hcopy : (Builtin.copy_ #[22, 22] 3 #[.slice (some ⟨w.heap.size, m, none⟩) (128 - m) (128 - m), .slice (some ⟨sb, n * 130 + m, none⟩) (128 - m) (128 - m)]).run Try.prog w1.drew = .ok (goInt (u8s (old.drop m)).length) (w1.drew.setCells w.heap.size m (u8s (old.drop m))) := by
    refine run_copy_cells w1.drew _ _ _ 5 _ _ _ _ _ _ _ _ Try.underlying22 (by kernel_rfl) (by rw [hcl]; simp) ?_ ?_ (fun j _ => hbx.frozen _) (one_u8s _)
    · intro j v hj
      rw [List.getElem?_map, List.getElem?_drop] at hj
      obtain ⟨u, hu, rfl⟩ := Option.map_eq_some_iff.1 hj
      rw [Addr.add_mid, show n * 130 + m + j = n * 130 + (m + j) by omega]
      exact hs1.cell (hrow _ _ hu)
    · intro j hj
      rw [hcl] at hj
      rw [show w1.drew.cell? ⟨w.heap.size, m + j, none⟩ = some _ from hbx.cell (List.getElem?_eq_getElem (show m + j < (u8s bs).length by rw [List.length_map, hb]; omega))]; rfl
  obtain ⟨w2, hw2⟩ : ∃ w2, w2 = w1.drew.setCells w.heap.size m (u8s (old.drop m)) := ⟨_, rfl⟩
  have hbx2 : Blk w2 w.heap.size 52 (u8s ns) := by
    have := setCells_blk (u8s (old.drop m)) m w1.drew (u8s bs) hbx (by rw [hcl, List.length_map, hb]; omega)
    rw [show List.drop (m + (u8s (List.drop m old)).length) (u8s bs) = [] from List.drop_of_length_le (by rw [hcl, List.length_map, hb]; omega), List.append_nil] at this
    rw [hw2, hns]
    unfold partOf
    show Blk _ _ _ ((bs.take m ++ old.drop m).map (Value.int .u8))
    rw [List.map_append, List.map_take]; exact this
  have hs2 : Blk w2 sb 70 vs := by
    rw [hw2]; exact hs1.kept (setCells_other _ _ _ _ _ hne)
  have hO2 : Only (fun k => k = sb) w w2 := by
    have h1 := setCells_only (F := fun k => k = w.heap.size) w1.drew (rb := w.heap.size) rfl (u8s (old.drop m)) m
    rw [← hw2] at h1
    exact (Only.of_below (F := fun k => k = sb) hb1).trans (w' := w1) ⟨h1.os, h1.tape, h1.output, h1.size, h1.block⟩ (fun k hk e => by omega)
  rw [← hw2] at hcopy
  have hsizeL : (Try.prog.info? 52).map (·.size) = some (u8s ns).length := by rw [size_arr, List.length_map, hpl]
  have hsizeA : (Try.prog.info? 52).map (·.size) = some (u8s ns).toArray.size := by rw [size_arr, List.size_toArray, List.length_map, hpl]
  have Hthere := Lib.hid (show w2.there sb (n * 130) (u8s ns).toArray.size from fun j hj => by
    rw [List.size_toArray, List.length_map, hpl] at hj
    exact ⟨by rw [hs2.cell (List.getElem?_eq_getElem (show n * 130 + j < vs.length by omega))]; rfl, hs2.frozen _⟩)
  have Hrange := Lib.hid hbx2.range
  obtain ⟨w3, hw3⟩ : ∃ w3, w3 = w2.setCells sb (n * 130) (u8s ns) := ⟨_, rfl⟩
  have hs3 : Blk w3 sb 70 (vs.take (n * 130) ++ u8s ns ++ vs.drop (n * 130 + (u8s ns).length)) := by
    rw [hw3]; exact setCells_blk (u8s ns) (n * 130) w2 vs hs2 (by rw [List.length_map, hpl]; omega)
  obtain ⟨u, hcu⟩ : ∃ u, w3.cell? ⟨sb, n * 130 + 128, none⟩ = some u := ⟨_, hs3.cell (List.getElem?_eq_getElem (by
    rw [List.length_append, List.length_append, List.length_take, List.length_drop, List.length_map, hpl]; omega))⟩
  have hfu := hs3.frozen (n * 130 + 128)
  have Hfin := Lib.hid (show Blk (w3.setCell ⟨sb, n * 130 + 128, none⟩ (.bool true)) sb 70 (keptIn vs n ns) ∧ Only (fun k => k = sb) w (w3.setCell ⟨sb, n * 130 + 128, none⟩ (.bool true)) by
    rw [hw3]
    exact ⟨keep_end hs2 hv hpl, (hO2.trans (setCells_only (F := fun k => k = sb) w2 (rb := sb) rfl _ _) (fun _ _ h => h)).set (Or.inr rfl) _⟩)
  have Hw1 := Lib.hid hw1
  have Hw2 := Lib.hid hw2
  have Hw3 := Lib.hid hw3
  have Hcopy := Lib.hid hcopy
  have hd : ((m : Int) == 0) = false := by simp; omega
  have hd1 : decide ((m : Int) = 0) = false := decide_eq_false (by omega)
  have hd2 : decide ((m : Int) < 128) = true := decide_eq_true (by omega)
  have hmI0 : (0 : Int) ≤ (m : Int) := by omega
  have hmI1 : (m : Int) ≤ 128 := by omega
  have hmne : ¬ 128 = m := by omega
  clear hw1 hs1 hw2 hs2 hs3 hbx hbx2 hs hw3 hcopy hO2 hcl hns
  go_enter Try.func52, Try.ntmps52
  go_wp2_with fail
  rw [← Hw1.out]
  go_upto_region 3 with fail
  refine wp_region_any (by kernel_rfl) ?_
  try (change wpAny _ _ _ _ _ _ _ (World.drew _))
  refine wpAny_take (i := 0) (oi := ?oiy1) (v := ?vy1) ?hiy1 ?hay1 ?hby1 ?hcy1 ?hqy1 ?hyy1 ?resty1
  case hiy1 => (simp only [List.getElem?_toArray, List.getElem?_cons_zero, List.getElem?_cons_succ]; rfl)
  case hay1 => kernel_rfl
  case hby1 => kernel_rfl
  case hcy1 => kernel_rfl
  case hyy1 => exact Or.inl ⟨by rfl, by (intro w; go_simp; (try with_reducible rfl))⟩
  case hqy1 => exact fun _ _ _ h => h
  try simp only [Act.put, List.setIfInBounds_toArray, List.set_cons_zero, List.set_cons_succ]
  refine wpAny_take (i := 1) (oi := ?oiy2) (v := ?vy2) ?hiy2 ?hay2 ?hby2 ?hcy2 ?hqy2 ?hyy2 ?resty2
  case hiy2 => (simp only [List.getElem?_toArray, List.getElem?_cons_zero, List.getElem?_cons_succ]; rfl)
  case hay2 => kernel_rfl
  case hby2 => kernel_rfl
  case hcy2 => kernel_rfl
  case hyy2 => exact Or.inl ⟨by rfl, by (intro w; go_simp; (try with_reducible rfl))⟩
  case hqy2 => exact fun _ _ _ h => h
  try simp only [Act.put, List.setIfInBounds_toArray, List.set_cons_zero, List.set_cons_succ]
  refine wpAny_take (i := 2) (oi := ?oiy3) (v := ?vy3) ?hiy3 ?hay3 ?hby3 ?hcy3 ?hqy3 ?hyy3 ?resty3
  case hiy3 => (simp only [List.getElem?_toArray, List.getElem?_cons_zero, List.getElem?_cons_succ]; rfl)
  case hay3 => kernel_rfl
  case hby3 => kernel_rfl
  case hcy3 => kernel_rfl
  case hyy3 => exact Or.inl ⟨by rfl, by (intro w; go_simp; (try with_reducible rfl))⟩
  case hqy3 => exact fun _ _ _ h => h
  try simp only [Act.put, List.setIfInBounds_toArray, List.set_cons_zero, List.set_cons_succ]
  refine wpAny_take (i := 3) (oi := ?oiy4) (v := ?vy4) ?hiy4 ?hay4 ?hby4 ?hcy4 ?hqy4 ?hyy4 ?resty4
  case hiy4 => (simp only [List.getElem?_toArray, List.getElem?_cons_zero, List.getElem?_cons_succ]; rfl)
  case hay4 => kernel_rfl
  case hby4 => kernel_rfl
  case hcy4 => kernel_rfl
  case hyy4 => exact Or.inl ⟨by rfl, by (intro w; go_simp; (try with_reducible rfl))⟩
  case hqy4 => exact fun _ _ _ h => h
  try simp only [Act.put, List.setIfInBounds_toArray, List.set_cons_zero, List.set_cons_succ]
  refine wpAny_take (i := 4) (oi := ?oiy5) (v := ?vy5) ?hiy5 ?hay5 ?hby5 ?hcy5 ?hqy5 ?hyy5 ?resty5
  case hiy5 => (simp only [List.getElem?_toArray, List.getElem?_cons_zero, List.getElem?_cons_succ]; rfl)
  case hay5 => kernel_rfl
  case hby5 => kernel_rfl
  case hcy5 => kernel_rfl
  case hyy5 => exact Or.inl ⟨by rfl, by (intro w; go_simp; (try with_reducible rfl))⟩
  case hqy5 => exact fun _ _ _ h => h
  try simp only [Act.put, List.setIfInBounds_toArray, List.set_cons_zero, List.set_cons_succ]
  refine wpAny_take (i := 5) (oi := ?oiy6) (v := ?vy6) ?hiy6 ?hay6 ?hby6 ?hcy6 ?hqy6 ?hyy6 ?resty6
  case hiy6 => (simp only [List.getElem?_toArray, List.getElem?_cons_zero, List.getElem?_cons_succ]; rfl)
  case hay6 => kernel_rfl
  case hby6 => kernel_rfl
  case hcy6 => kernel_rfl
  case hyy6 => exact Or.inl ⟨by rfl, by (intro w; go_simp; (try with_reducible rfl))⟩
  case hqy6 => exact fun _ _ _ h => h
  try simp only [Act.put, List.setIfInBounds_toArray, List.set_cons_zero, List.set_cons_succ]
  refine wpAny_take (i := 6) (oi := ?oiy7) (v := ?vy7) ?hiy7 ?hay7 ?hby7 ?hcy7 ?hqy7 ?hyy7 ?resty7
  case hiy7 => (simp only [List.getElem?_toArray, List.getElem?_cons_zero, List.getElem?_cons_succ]; rfl)
  case hay7 => kernel_rfl
  case hby7 => kernel_rfl
  case hcy7 => kernel_rfl
  case hyy7 => exact Or.inl ⟨by rfl, by (intro w; go_simp; (try with_reducible rfl))⟩
  case hqy7 => exact fun _ _ _ h => h
  try simp only [Act.put, List.setIfInBounds_toArray, List.set_cons_zero, List.set_cons_succ]
  refine wpAny_ready (rs := [7]) (by kernel_rfl) (by simp) ?_
  refine AllReady.cons (o := ?oiy8f0) ?hiy8f0 (fun K hK => ?stepy8f0) ?morey8f0
  case hiy8f0 => (simp only [List.getElem?_toArray, List.getElem?_cons_zero, List.getElem?_cons_succ]; rfl)
  case stepy8f0 =>
    refine step_copy rfl (.tmp 11) (.tmp 16) 22 22 rfl _ _ (by simp [Act.eval]) (by simp [Act.eval]) Hcopy.out ?_
    refine hK _ _ ?_
    clear hK K
    try simp only [Act.put, List.setIfInBounds_toArray, List.set_cons_zero, List.set_cons_succ]
    refine wpAny_done (by kernel_rfl) ?_ _
    go_wp2_with fail
    refine wp_load_mid 52 (.tmp 4) rfl w.heap.size 0 rfl (u8s ns) _ Hrange.out Try.underlying52 rfl hsizeL ?_
    go_wp2_with (refine wpList_store_mid rfl 52 (.tmp 21) (.tmp 19) rfl sb (n * 130) (u8s ns).toArray rfl rfl Hthere.out hsizeA (all_oneCell_toArray (one_u8s _)) ?_; rw [show (u8s ns).toArray.toList = u8s ns from rfl, ← Hw3.out])
    go_end0
    exact ⟨rfl, Hfin.out⟩
  case morey8f0 => exact AllReady.nil
end Go.Proofs.Ythdclncgmhgmfaa
