/- Blocks, whole: what a block holds; which blocks a call may have changed; rows of bytes that lie in blocks of their own. No function of the program is named here. -/
import Derived.Test.YtflaikjciachaaaVals
import Derived.Deep.OwnRows
import Derived.Deep.RegionHeld3
namespace Go.Proofs.Ytflaikjciachaaa
set_option maxRecDepth 100000
open Go.RowKit Go.Deep
set_option linter.unusedSimpArgs false
set_option linter.unusedVariables false

/-- Block b is a row of type t, none of it frozen, that holds vs. -/
def Blk (w : World) (b : Nat) (t : TypeId) (vs : List Value) : Prop := w.heap[b]? = some (.cells vs.toArray t (0, 0))

theorem Blk.lt {w : World} {b : Nat} {t : TypeId} {vs : List Value} (h : Blk w b t vs) : b < w.heap.size := (Array.getElem?_eq_some_iff.1 h).1
theorem Blk.cell {w : World} {b i : Nat} {t : TypeId} {vs : List Value} {v : Value} (h : Blk w b t vs) (hv : vs[i]? = some v) : w.cell? ⟨b, i, none⟩ = some v := by
  rw [cell_of_row w b i vs.toArray t (0, 0) h]; simpa using hv
theorem Blk.frozen {w : World} {b : Nat} {t : TypeId} {vs : List Value} (h : Blk w b t vs) (i : Nat) : w.frozen? ⟨b, i, none⟩ = false := by
  simp [World.frozen?, show w.heap[b]? = _ from h]
theorem Blk.set {w : World} {b : Nat} {t : TypeId} {vs : List Value} (h : Blk w b t vs) (i : Nat) (v : Value) : Blk (w.setCell ⟨b, i, none⟩ v) b t (vs.set i v) := by
  unfold Blk
  simp [World.setCell, Array.getElem?_modify, show w.heap[b]? = _ from h]
theorem Blk.setOther {w : World} {b : Nat} {t : TypeId} {vs : List Value} (h : Blk w b t vs) {a : Addr} (ha : b ≠ a.block) (v : Value) : Blk (w.setCell a v) b t vs :=
  (blk_setCell_other w a v b ha).trans h
theorem Blk.kept {w w' : World} {b : Nat} {t : TypeId} {vs : List Value} (h : Blk w b t vs) (e : w'.heap[b]? = w.heap[b]?) : Blk w' b t vs := e.trans h
theorem Blk.alloc {w : World} {b : Nat} {t : TypeId} {vs : List Value} (h : Blk w b t vs) (o : Obj) : Blk (w.alloc o) b t vs := h.kept (blk_alloc_lt _ _ _ h.lt)
theorem Blk.drew {w : World} {b : Nat} {t : TypeId} {vs : List Value} (h : Blk w b t vs) : Blk w.drew b t vs := h
theorem Blk.drewN {w : World} {b : Nat} {t : TypeId} {vs : List Value} (h : Blk w b t vs) (n : Nat) : Blk (w.drewN n) b t vs := h
theorem Blk.ne {w : World} {b b' : Nat} {t t' : TypeId} {vs vs' : List Value} (h : Blk w b t vs) (h' : Blk w b' t' vs') (ht : t ≠ t') : b ≠ b' := by
  intro e
  subst e
  have := Option.some.inj (h.symm.trans h')
  injection this with _ h2
  exact ht h2
theorem Blk.same {w : World} {b : Nat} {t t' : TypeId} {vs vs' : List Value} (h : Blk w b t vs) (h' : Blk w b t' vs') : vs = vs' := by
  have := Option.some.inj (h.symm.trans h')
  injection this with h1
  simpa using h1
theorem Blk.new (w : World) (t : TypeId) (vs : List Value) : Blk (w.alloc (.cells vs.toArray t)) w.heap.size t vs := blk_alloc_new _ _

/-- Of the blocks that there were, only those of F may have changed. -/
structure Only (F : Nat → Prop) (w w' : World) : Prop where
  os : w'.os = w.os
  tape : w'.tape = w.tape
  output : w'.output = w.output
  size : w.heap.size ≤ w'.heap.size
  block : ∀ k, k < w.heap.size → ¬ F k → w'.heap[k]? = w.heap[k]?

namespace Only
variable {F G : Nat → Prop} {w w' w'' : World}
theorem refl (F : Nat → Prop) (w : World) : Only F w w := ⟨rfl, rfl, rfl, Nat.le_refl _, fun _ _ _ => rfl⟩
theorem trans (h : Only F w w') (k : Only G w' w'') (hs : ∀ b, b < w.heap.size → G b → F b) : Only F w w'' :=
  ⟨k.os.trans h.os, k.tape.trans h.tape, k.output.trans h.output, Nat.le_trans h.size k.size, fun b hb hn =>
    (k.block b (Nat.lt_of_lt_of_le hb h.size) (fun hg => hn (hs b hb hg))).trans (h.block b hb hn)⟩
theorem mono (h : Only F w w') (hs : ∀ b, b < w.heap.size → F b → G b) : Only G w w' := ⟨h.os, h.tape, h.output, h.size, fun b hb hn => h.block b hb (fun hf => hn (hs b hb hf))⟩
theorem of_below (h : Below w.heap.size w w') : Only F w w' := ⟨h.os, h.tape, h.output, h.size, fun b hb _ => h.block b hb⟩
theorem of_grown {r : Nat} (h : w.grownBy w' (some r)) (hr : F r) : Only F w w' := ⟨h.os, h.tape, h.output, h.size, fun b hb hn => h.block b hb (fun e => by cases e; exact hn hr)⟩
theorem drew (h : Only F w w') : Only F w w'.drew := ⟨h.os, h.tape, h.output, h.size, h.block⟩
theorem drewN (h : Only F w w') (n : Nat) : Only F w (w'.drewN n) := ⟨h.os, h.tape, h.output, h.size, h.block⟩
theorem undrew (h : Only F w.drew w') : Only F w w' := ⟨h.os, h.tape, h.output, h.size, h.block⟩
theorem set (h : Only F w w') {a : Addr} (ha : w.heap.size ≤ a.block ∨ F a.block) (v : Value) : Only F w (w'.setCell a v) :=
  ⟨h.os, h.tape, h.output, by rw [nblk_setCell]; exact h.size, fun b hb hn => (blk_setCell_other _ _ _ _ (by rintro rfl; rcases ha with ha | ha; omega; exact hn ha)).trans (h.block b hb hn)⟩
theorem alloc (h : Only F w w') (o : Obj) : Only F w (w'.alloc o) :=
  ⟨h.os, h.tape, h.output, by rw [nblk_alloc]; exact Nat.le_succ_of_le h.size, fun b hb hn => (blk_alloc_lt _ _ _ (Nat.lt_of_lt_of_le hb h.size)).trans (h.block b hb hn)⟩
theorem below (h : Only F w w') {B : Nat} (hB : B ≤ w.heap.size) (hF : ∀ k, F k → B ≤ k) : Below B w w' :=
  ⟨h.os, h.tape, h.output, h.size, fun k hk => h.block k (Nat.lt_of_lt_of_le hk hB) (fun hf => by have := hF k hf; omega)⟩
theorem blk (h : Only F w w') {b : Nat} {t : TypeId} {vs : List Value} (hb : Blk w b t vs) (hn : ¬ F b) : Blk w' b t vs := hb.kept (h.block b hb.lt hn)
end Only

theorem Sl.only {F : Nat → Prop} {w w' : World} {A : Option Addr} {n : Nat} {xs : List Value} (h : Sl w A n xs) (ho : Only F w w') (hd : ∀ ad, A = some ad → 0 < n → ¬ F ad.block) : Sl w' A n xs :=
  ⟨h.1, fun j u hu => by
    have hj : 0 < n := by have := (List.getElem?_eq_some_iff.1 hu).1; have := h.1; omega
    obtain ⟨ad, e, hc⟩ := h.2 j u hu
    refine ⟨ad, e, (World.cell?_of_block (w := w) (ho.block _ (World.block_lt_of_cell? w _ hc) ?_)).trans hc⟩
    rw [addr_block]; exact hd ad e hj⟩
/-- F, and the blocks that were made from one world to another. -/
def More (F : Nat → Prop) (w w' : World) : Nat → Prop := fun k => F k ∨ (w.heap.size ≤ k ∧ k < w'.heap.size)
theorem More.old {F : Nat → Prop} {w w' : World} {k : Nat} (h : F k) : More F w w' k := Or.inl h
theorem More.same {F : Nat → Prop} {w : World} {k : Nat} (h : More F w w k) : F k := by rcases h with h | h; exact h; omega

/-- v is a row of bytes that holds xs, in a block of its own, one of F. -/
def BRow (F : Nat → Prop) (w : World) (v : Value) (xs : List Int) : Prop :=
  ∃ g cap sp, v = .slice (some ⟨g, 0, none⟩) xs.length cap ∧ F g ∧ xs.length ≤ cap ∧ Blk w g 5 (u8s xs ++ sp) ∧ xs.length + sp.length = cap

theorem BRow.kept {F : Nat → Prop} {w w' : World} {v : Value} {xs : List Int} (h : BRow F w v xs) (e : ∀ g, F g → (∃ vs, Blk w g 5 vs) → w'.heap[g]? = w.heap[g]?) : BRow F w' v xs := by
  obtain ⟨g, cap, sp, h1, h2, h3, h4, h5⟩ := h
  exact ⟨g, cap, sp, h1, h2, h3, h4.kept (e g h2 ⟨_, h4⟩), h5⟩
theorem BRow.mono {F G : Nat → Prop} {w : World} {v : Value} {xs : List Int} (h : BRow F w v xs) (hs : ∀ k, k < w.heap.size → F k → G k) : BRow G w v xs := by
  obtain ⟨g, cap, sp, h1, h2, h3, h4, h5⟩ := h
  exact ⟨g, cap, sp, h1, hs g h4.lt h2, h3, h4, h5⟩
theorem BRow.sl {F : Nat → Prop} {w : World} {v : Value} {xs : List Int} (h : BRow F w v xs) : ∃ A c, v = .slice A xs.length c ∧ Sl w A xs.length (u8s xs) ∧ xs.length ≤ c := by
  obtain ⟨g, cap, sp, h1, _, h3, h4, _⟩ := h
  refine ⟨_, _, h1, ⟨by simp, fun j u hu => ⟨_, rfl, ?_⟩⟩, h3⟩
  have hj : j < (u8s xs).length := by
    rcases Nat.lt_or_ge j (u8s xs).length with h | h
    · exact h
    · rw [List.getElem?_eq_none h] at hu; cases hu
  rw [show (⟨g, 0, none⟩ : Addr).add j = ⟨g, j, none⟩ by unfold Addr.add; split <;> simp_all]
  exact h4.cell (by rw [List.getElem?_append_left hj]; exact hu)
theorem BRow.of_own {F : Nat → Prop} {w : World} {base : Nat} {v : Value} {n : Nat} {xs : List Int} (h : w.ownsRow base 5 1 v n (u8s xs)) (hn : 0 < n) (hF : ∀ k, v.ownBlock = some k → F k) : BRow F w v xs := by
  have hl : xs.length = n := by have := h.1; simpa using this
  rcases h.2 with ⟨rfl, rfl⟩ | ⟨g, cap, cur, rfl, _, hg, hc, _, hs, ht⟩
  · omega
  · refine ⟨g, cap, cur.toList.drop n, by rw [hl], hF g rfl, by omega, ?_, ?_⟩
    · unfold Blk
      rw [hg, ← ht, Nat.mul_one, List.take_append_drop]
    · simp; omega

/-- Elements appended to a row of the call's own, at a step of a region that draws its order (for 'go_region_law'); there may be none of them. -/
theorem step_append_own {P : Program} {w : World} {ops : Array Oper} {o : Oper} {a : Act} {K : Act → World → Prop} {Q : Exit → Act → World → Prop} {E : Prop} (hgd : o.guard = none) (s x : Operand) (t : TypeId)
    (ho : o.op = .call { callee := .builtin .append, args := #[s, x], argTypes := #[t, t] })
    (base : Nat) (e : TypeId) (i : TypeInfo) (z : Value) (size bytes : Nat) (ht : P.underlying t = some (.slice e)) (hi : P.info? e = some i) (hz : i.zero = some z)
    (hsize : i.size = size) (hby : i.bytes = bytes) (hzs : z.cells.size = size) (hsz : 0 < size)
    (v : Value) (n : Nat) (xs : List Value) (hs : a.eval s = v) (hown : w.ownsRow base e size v n xs)
    (ad : Addr) (m c : Nat) (news : List Value) (hx : a.eval x = .slice (some ad) m c) (hl : news.length = m * size) (hnews : ∀ j u, news[j]? = some u → w.cell? (ad.add j) = some u) (h1 : ∀ u ∈ news, u.oneCell' = true)
    (h63 : n + m ≤ maxLen) (hbytes : (n + m) * bytes ≤ 140737488355328) (hbase : base ≤ w.heap.size)
    (h : ∀ v' w', w'.ownsRow base e size v' (n + m) (xs ++ news) → w.grownBy w' v.ownBlock → K (a.put o.dst v') w') :
    if Region.wanted o (yielded ops a.tmps) = true then Oper.wp P o a w K Q else E := by
  have hw : Region.wanted o (yielded ops a.tmps) = true := by simp [Region.wanted, hgd]
  rw [if_pos hw]
  exact wp_append_own w s x t ho base e i z size bytes ht hi hz hsize hby hzs hsz v n xs hs hown ad m c news hx hl hnews h1 h63 hbytes hbase (fun v' w' h2 h3 _ => h v' w' h2 h3)
theorem one_u8s (xs : List Int) : ∀ u ∈ u8s xs, u.oneCell' = true := by
  intro u hu
  obtain ⟨x, _, rfl⟩ := List.mem_map.1 hu
  rfl
/-- The cells of a part of a row of bytes. -/
theorem BRow.part {w : World} {g k : Nat} {sp : List Value} {xs : List Int} (h : Blk w g 5 (u8s xs ++ sp)) : ∀ (j : Nat) (u : Value), (u8s (xs.drop k))[j]? = some u → w.cell? ((⟨g, k, none⟩ : Addr).add j) = some u := by
  intro j u hu
  rw [show (⟨g, k, none⟩ : Addr).add j = ⟨g, k + j, none⟩ by unfold Addr.add; split <;> simp_all]
  have hu : ((u8s xs).drop k)[j]? = some u := by simpa [u8s, List.map_drop] using hu
  rw [List.getElem?_drop] at hu
  exact h.cell (by rw [List.getElem?_append_left (List.getElem?_eq_some_iff.1 hu).1]; exact hu)
theorem BRow.first {w : World} {g k : Nat} {sp : List Value} {xs : List Int} (h : Blk w g 5 (u8s xs ++ sp)) : ∀ (j : Nat) (u : Value), (u8s (xs.take k))[j]? = some u → w.cell? ((⟨g, 0, none⟩ : Addr).add j) = some u := by
  intro j u hu
  rw [show (⟨g, 0, none⟩ : Addr).add j = ⟨g, j, none⟩ by unfold Addr.add; split <;> simp_all]
  have hu : ((u8s xs).take k)[j]? = some u := by simpa [u8s, List.map_take] using hu
  rw [List.getElem?_take] at hu
  split at hu
  · exact h.cell (by rw [List.getElem?_append_left (List.getElem?_eq_some_iff.1 hu).1]; exact hu)
  · cases hu
theorem own_ne {w : World} {base : Nat} {e t : TypeId} {size : Nat} {v : Value} {n b : Nat} {xs vs : List Value} (h : w.ownsRow base e size v n xs) (hb : Blk w b t vs) (ht : t ≠ e) : some b ≠ v.ownBlock := by
  rcases h.2 with ⟨rfl, _⟩ | ⟨g, cap, cur, rfl, _, hg, _⟩
  · intro e1; cases e1
  · intro e1
    have e2 : b = g := Option.some.inj e1
    subst e2
    have h2 : Blk w b e cur.toList := by unfold Blk; simpa using hg
    exact hb.ne h2 ht rfl
theorem own_stays {w w' : World} {base : Nat} {e : TypeId} {size : Nat} {v : Value} {n : Nat} {xs : List Value} (h : w.ownsRow base e size v n xs) (hk : ∀ k, v.ownBlock = some k → w'.heap[k]? = w.heap[k]?) : w'.ownsRow base e size v n xs := by
  refine ⟨h.1, ?_⟩
  rcases h.2 with h2 | ⟨g, cap, cur, hv, hg, hh, r⟩
  · exact .inl h2
  · exact .inr ⟨g, cap, cur, hv, hg, (hk g (by rw [hv]; rfl)).trans hh, r⟩
theorem own_typed {w : World} {base : Nat} {e : TypeId} {size : Nat} {v : Value} {n k : Nat} {xs : List Value} (h : w.ownsRow base e size v n xs) (hk : v.ownBlock = some k) : ∃ vs, Blk w k e vs := by
  rcases h.2 with ⟨rfl, _⟩ | ⟨g, cap, cur, rfl, _, hg, _⟩
  · cases hk
  · cases hk
    exact ⟨cur.toList, by unfold Blk; simpa using hg⟩
/-- A stronger condition serves as well: so the condition may be changed on the way through a region. -/
theorem wpAnyH_weaken {P : Program} {ops : Array Oper} {Q : Exit → Act → World → Prop} {md : Region.Mode} {S T : World → Prop} (h : ∀ w, T w → S w) : ∀ (fuel : Nat) (listed : Array Bool) (a : Act) (w : World), wpAnyH P md ops Q T fuel listed a w → wpAnyH P md ops Q S fuel listed a w
  | 0, _, _, _, hh => hh
  | fuel + 1, _, _, _, hh => ⟨hh.1, fun i hi => wpOp_mono (fun a' w' h' => ⟨h w' h'.1, wpAnyH_weaken h fuel _ a' w' h'.2⟩) (hh.2 i hi)⟩
end Go.Proofs.Ytflaikjciachaaa
