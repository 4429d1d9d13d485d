/- Merged texts: Recs Atomic Met RDisk RDisk1 RDisk2 RDisk3 RDisk4 RDisk5 RDisk6 RDisk7 RDisk8 RDisk9. -/
import Derived.Test.YteliebinhdphlaaDoorM1
import Derived.Deep.Slices
import Derived.Laws.LoneSync
import Derived.WalkKit
import Derived.Test.YteliebinhdphlaaDoorM2
/- An argument that is a slice of structs whose fields are ints: its cells, under names. No function of the program is named here. -/
namespace Go.Proofs.YteliebinhdphlaaDoor
set_option maxRecDepth 100000
open Go.RowKit Go.ChangeShapes Go.WideShapes Go.Deep
set_option linter.unusedSimpArgs false
set_option linter.unusedVariables false

/-- The slice at A of n structs of k ints reads as V: field f of element i is V i f. -/
def Recs (w : World) (A : Option Addr) (n k : Nat) (V : Nat → Nat → Int) : Prop :=
  ∀ i f, i < n → f < k → ∃ ad, A = some ad ∧ w.cell? (ad.add (i * k + f)) = some (.int .i64 (V i f))
theorem Recs.below {w w' : World} {A : Option Addr} {n k : Nat} {V : Nat → Nat → Int} (h : Recs w A n k V) (hb : Below w.heap.size w w') : Recs w' A n k V := fun i f hi hf => by
  obtain ⟨ad, e, hc⟩ := h i f hi hf
  exact ⟨ad, e, (hb.cell (World.block_lt_of_cell? w _ hc)).trans hc⟩

theorem Recs.three {w : World} {A : Option Addr} {n : Nat} {V : Nat → Nat → Int} (h : Recs w A n 3 V) {k : Nat} (hk : k < n) :
    ∃ ad, A = some ad ∧ w.cell? (ad.add (k * 3)) = some (.int .i64 (V k 0)) ∧ w.cell? ⟨(ad.add (k * 3)).block, (ad.add (k * 3)).off + 1, none⟩ = some (.int .i64 (V k 1)) ∧ w.cell? ⟨(ad.add (k * 3)).block, (ad.add (k * 3)).off + 2, none⟩ = some (.int .i64 (V k 2)) := by
  obtain ⟨ad, e, h0⟩ := h k 0 hk (by omega)
  obtain ⟨ad1, e1, h1⟩ := h k 1 hk (by omega)
  obtain ⟨ad2, e2, h2⟩ := h k 2 hk (by omega)
  obtain rfl : ad1 = ad := by rw [e] at e1; exact (Option.some.inj e1).symm
  obtain rfl : ad2 = ad1 := by rw [e] at e2; exact (Option.some.inj e2).symm
  rw [← addr_twice] at h1 h2
  exact ⟨_, e, h0, h1, h2⟩

def cellInt (v : Option Value) : Int := match v with | some (.int _ z) => z | _ => 0

/-- Field f lies at offset f and is an int, one cell (for the kernel). -/
def intFields (P : Program) (fs : Array Field) : Bool := (List.range fs.size).all fun i => match fs[i]? with
  | some f => f.offset == i && (match P.underlying f.type with | some (.int .i64) => true | _ => false) && P.cellsOf f.type == 1
  | none => false
theorem intFields_of {P : Program} {fs : Array Field} (h : intFields P fs = true) : ∀ (f : Nat) (F : Field), fs[f]? = some F → F.offset = f ∧ P.underlying F.type = some (.int .i64) ∧ P.cellsOf F.type = 1 := by
  intro i f hi
  have hlt : i < fs.size := (Array.getElem?_eq_some_iff.1 hi).1
  have := List.all_eq_true.1 h i (List.mem_range.2 hlt)
  simp only [hi, Bool.and_eq_true, beq_iff_eq] at this
  refine ⟨this.1.1, ?_, this.2⟩
  have h2 := this.1.2
  split at h2
  · assumption
  · cases h2
theorem open_recs {H : Type} {enc : TypeId × Value → H} {P : Program} {w : World} {spare : Nat → Bool} {held : Bool} {t e : TypeId} {fuel k : Nat} {fs : Array Field} {cs : List Value} {x : DataW H × List MemPlace}
    (ht : P.underlying t = some (.slice e)) (he : P.underlying e = some (.struct fs)) (hk : fs.size = k) (ce : P.cellsOf e = k)
    (hf : ∀ (f : Nat) (F : Field), fs[f]? = some F → F.offset = f ∧ P.underlying F.type = some (.int .i64) ∧ P.cellsOf F.type = 1)
    (h : DataW.trod enc P w 0 spare held fuel t cs = some x) :
    cs = [.slice none 0 0] ∨ ∃ (a : Addr) (len cap : Nat) (V : Nat → Nat → Int), cs = [.slice (some a) len cap] ∧ len ≤ cap ∧ cap ≤ maxLen ∧ Recs w (some a) len k V ∧
      ∀ i f, i < len → f < k → -9223372036854775808 ≤ V i f ∧ V i f ≤ 9223372036854775807 := by
  rcases open_slice ht h with h0 | ⟨a, len, cap, m, n, D, Pl, rfl, hb, hl, hm, hmm, _, hx⟩
  · exact Or.inl h0.1
  right
  have hlm : len ≤ m := by rw [hmm]; split <;> omega
  have each : ∀ i f, i < len → f < k → ∃ z : Int, w.cell? (a.add (i * k + f)) = some (.int .i64 z) ∧ -9223372036854775808 ≤ z ∧ z ≤ 9223372036854775807 := by
    intro i f hi hfk
    obtain ⟨cs', h1, h2⟩ := hx i (by omega)
    rw [ce] at h1
    obtain ⟨_, hlen, hcell⟩ := World.cells?_some h1
    obtain ⟨xs, n', hn', hxy, _, hxl, hfl⟩ := DataW.trod_struct he h2
    obtain ⟨F, hF⟩ : ∃ F, fs[f]? = some F := ⟨_, Array.getElem?_eq_getElem (by omega)⟩
    obtain ⟨o, u, c⟩ := hf f F hF
    have g := hfl f F hF
    rw [o, c] at g
    obtain ⟨y, hy⟩ : ∃ y, xs[f]? = some y := ⟨_, List.getElem?_eq_getElem (by omega)⟩
    rw [hy] at g
    obtain ⟨z, hz, _, hw⟩ := DataW.trod_int u g
    have hc := hcell f (by omega)
    rw [addr_twice] at hc
    have hz2 : cs'[f]? = some (.int .i64 z) := by
      have := congrArg (·[0]?) hz
      simpa [List.getElem?_take, List.getElem?_drop] using this
    exact ⟨z, hc.trans hz2, bounds_i64 hw⟩
  refine ⟨a, len, cap, fun i f => cellInt (w.cell? (a.add (i * k + f))), rfl, hl, hm, ?_, ?_⟩
  · intro i f hi hfk
    obtain ⟨z, hz, _⟩ := each i f hi hfk
    refine ⟨a, rfl, ?_⟩
    show w.cell? (a.add (i * k + f)) = some (.int .i64 (cellInt (w.cell? (a.add (i * k + f)))))
    rw [hz]; rfl
  · intro i f hi hfk
    obtain ⟨z, hz, hr⟩ := each i f hi hfk
    show -9223372036854775808 ≤ cellInt (w.cell? (a.add (i * k + f))) ∧ cellInt (w.cell? (a.add (i * k + f))) ≤ 9223372036854775807
    rw [hz]; exact hr
end Go.Proofs.YteliebinhdphlaaDoor

/- sync/atomic's swap, beside the library's laws on its load, store, sum and compare-and-swap. No function of the program is named here. -/
namespace Go.Proofs.YteliebinhdphlaaDoor
set_option maxRecDepth 100000
open Go

/-- sync/atomic.SwapT: the new number is stored, the old one handed back. -/
theorem run_call_swap {P : Program} {f : FuncId} {fn : Func} (hf : P.funcs[f]? = some fn) (hname : (fn.name == "runtime.NumGoroutine") = false) (hb : fn.body.isNone = true) (hn : Extern.findNext fn = none) (k : IntKind)
    (he : Extern.find fn = some (Extern.Atomic.swapT (.int k))) {a : Addr} {x y : Int} {w : World} (hc : w.cell? a = some (.int k x)) (hz : w.frozen? a = false) :
    (callFunc f #[.pointer (some a), .int k y]).run P w = .ok (.value (.int k x)) (w.setCell a (.int k y)) := by
  rw [run_callFunc_extern hf hname hb hn he]
  change (Sem.run P (do
    let a' ← asAddr (.pointer (some a))
    let old ← Extern.Atomic.read (.int k) a'
    store a' (.int k y) .atomic
    pure old) w).andThen _ = _
  simp [Extern.Atomic.read, asAddr, hc, hz, run_store P w a (.int k y) .atomic rfl, Result.andThen]
end Go.Proofs.YteliebinhdphlaaDoor

/- Six counts, as a plain list. No function of the program is named here. -/
namespace Go.Proofs.YteliebinhdphlaaDoor
set_option maxRecDepth 100000
open Go.RowKit
set_option linter.unusedSimpArgs false
set_option linter.unusedVariables false

theorem w64_range (x : Int) : -9223372036854775808 ≤ wrap64 x ∧ wrap64 x ≤ 9223372036854775807 := by unfold wrap64; omega
def mHas (k : Int) : Bool := decide (1 ≤ k ∧ k ≤ 6)
def mGet (L : List Int) (k : Int) : Int := if mHas k then L.getD (k - 1).toNat 0 else 0
def mAdd (L : List Int) (k n : Int) : List Int := if mHas k then L.set (k - 1).toNat (wrap64 (mGet L k + n)) else L
def mTake (L : List Int) (k : Int) : List Int := if mHas k then L.set (k - 1).toNat 0 else L
def mUp (L : List Int) (k n : Int) : Bool := mHas k && decide (mGet L k < n)
def mRaise (L : List Int) (k n : Int) : List Int := if mUp L k n then L.set (k - 1).toNat n else L
/-- Six counts, each an int. -/
def Met6 (L : List Int) : Prop := L.length = 6 ∧ ∀ x ∈ L, -9223372036854775808 ≤ x ∧ x ≤ 9223372036854775807

theorem mHas_in {k : Int} (h : mHas k = true) : ∃ i : Nat, i < 6 ∧ k = (i : Int) + 1 := by
  have h := of_decide_eq_true h
  exact ⟨(k - 1).toNat, by omega, by omega⟩
theorem mHas_at {i : Nat} (h : i < 6) : mHas ((i : Int) + 1) = true := decide_eq_true (by omega)
theorem mHas_out {k : Int} (h : mHas k = false) : k < 1 ∨ 6 < k := by have := of_decide_eq_false h; omega
theorem mGet_at {L : List Int} {i : Nat} {u : Int} (h : i < 6) (hu : L[i]? = some u) : mGet L ((i : Int) + 1) = u := by
  unfold mGet
  rw [if_pos (mHas_at h), show ((i : Int) + 1 - 1).toNat = i by omega]
  simp [List.getD, hu]
theorem met_at {L : List Int} (h : Met6 L) {i : Nat} (hi : i < 6) : ∃ u, L[i]? = some u ∧ -9223372036854775808 ≤ u ∧ u ≤ 9223372036854775807 := by
  have hl : i < L.length := by rw [h.1]; exact hi
  exact ⟨L[i], List.getElem?_eq_getElem hl, h.2 _ (List.getElem_mem hl)⟩
theorem mAdd_at {L : List Int} {i : Nat} {u : Int} (n : Int) (h : i < 6) (hu : L[i]? = some u) : mAdd L ((i : Int) + 1) n = L.set i (wrap64 (u + n)) := by
  unfold mAdd
  rw [if_pos (mHas_at h), mGet_at h hu, show ((i : Int) + 1 - 1).toNat = i by omega]
theorem mTake_at {L : List Int} {i : Nat} (h : i < 6) : mTake L ((i : Int) + 1) = L.set i 0 := by
  unfold mTake
  rw [if_pos (mHas_at h), show ((i : Int) + 1 - 1).toNat = i by omega]
theorem mUp_at {L : List Int} {i : Nat} {u : Int} (n : Int) (h : i < 6) (hu : L[i]? = some u) : mUp L ((i : Int) + 1) n = decide (u < n) := by
  unfold mUp; rw [mHas_at h, mGet_at h hu]; rfl
theorem mRaise_at {L : List Int} {i : Nat} {u : Int} (n : Int) (h : i < 6) (hu : L[i]? = some u) (hn : u < n) : mRaise L ((i : Int) + 1) n = L.set i n := by
  unfold mRaise
  rw [mUp_at n h hu, if_pos (decide_eq_true hn), show ((i : Int) + 1 - 1).toNat = i by omega]
theorem mRaise_no {L : List Int} {i : Nat} {u : Int} (n : Int) (h : i < 6) (hu : L[i]? = some u) (hn : n ≤ u) : mRaise L ((i : Int) + 1) n = L := by
  unfold mRaise
  rw [mUp_at n h hu, if_neg (by simpa using hn)]
theorem mOut {L : List Int} {k n : Int} (h : mHas k = false) : mGet L k = 0 ∧ mAdd L k n = L ∧ mTake L k = L ∧ mUp L k n = false ∧ mRaise L k n = L := by
  have hu : mUp L k n = false := by unfold mUp; rw [h]; rfl
  refine ⟨?_, ?_, ?_, hu, ?_⟩
  · unfold mGet; rw [h]; rfl
  · unfold mAdd; rw [h]; rfl
  · unfold mTake; rw [h]; rfl
  · unfold mRaise; rw [hu]; rfl
theorem met_set {L : List Int} (h : Met6 L) (i : Nat) {u : Int} (h1 : -9223372036854775808 ≤ u) (h2 : u ≤ 9223372036854775807) : Met6 (L.set i u) :=
  ⟨by rw [List.length_set]; exact h.1, fun x hx => by
    rcases List.mem_or_eq_of_mem_set hx with hx | rfl
    · exact h.2 x hx
    · exact ⟨h1, h2⟩⟩
theorem met_add {L : List Int} (h : Met6 L) (k n : Int) : Met6 (mAdd L k n) := by
  unfold mAdd; split
  · exact met_set h _ (w64_range _).1 (w64_range _).2
  · exact h
theorem met_take {L : List Int} (h : Met6 L) (k : Int) : Met6 (mTake L k) := by
  unfold mTake; split
  · exact met_set h _ (by omega) (by omega)
  · exact h
theorem met_raise {L : List Int} (h : Met6 L) (k : Int) {n : Int} (h1 : -9223372036854775808 ≤ n) (h2 : n ≤ 9223372036854775807) : Met6 (mRaise L k n) := by
  unfold mRaise; split
  · exact met_set h _ h1 h2
  · exact h
theorem met_zero : Met6 [0, 0, 0, 0, 0, 0] := ⟨rfl, fun x hx => by simp at hx; omega⟩
theorem mGet_range {L : List Int} (h : Met6 L) (k : Int) : -9223372036854775808 ≤ mGet L k ∧ mGet L k ≤ 9223372036854775807 := by
  cases hk : mHas k
  · rw [(mOut (n := 0) hk).1]; omega
  · obtain ⟨i, hi, rfl⟩ := mHas_in hk
    obtain ⟨u, hu, h1, h2⟩ := met_at h hi
    rw [mGet_at hi hu]; exact ⟨h1, h2⟩
/-- What is done of one kind changes no other one's count. -/
theorem mGet_other {L : List Int} {k j n : Int} (h : k ≠ j) : mGet (mAdd L k n) j = mGet L j ∧ mGet (mRaise L k n) j = mGet L j ∧ mGet (mTake L k) j = mGet L j := by
  have key : ∀ u : Int, mHas k = true → mGet (L.set (k - 1).toNat u) j = mGet L j := by
    intro u hk
    unfold mGet
    cases hj : mHas j
    · rfl
    · have h1 := of_decide_eq_true hk
      have h2 := of_decide_eq_true hj
      rw [if_pos rfl, if_pos rfl]
      simp only [List.getD]
      rw [List.getElem?_set_ne (by omega)]
  refine ⟨?_, ?_, ?_⟩
  · unfold mAdd; split
    · next hk => exact key _ hk
    · rfl
  · unfold mRaise; split
    · next hk => exact key _ (by unfold mUp at hk; simp at hk; exact hk.1)
    · rfl
  · unfold mTake; split
    · next hk => exact key _ hk
    · rfl
theorem mGet_add {L : List Int} (h : Met6 L) {k : Int} (n : Int) (hk : mHas k = true) : mGet (mAdd L k n) k = wrap64 (mGet L k + n) := by
  obtain ⟨i, hi, rfl⟩ := mHas_in hk
  obtain ⟨u, hu, _⟩ := met_at h hi
  rw [mAdd_at n hi hu, mGet_at hi hu, mGet_at hi (u := wrap64 (u + n))]
  rw [List.getElem?_set_self (by rw [h.1]; exact hi)]
theorem mGet_take {L : List Int} (h : Met6 L) (k : Int) : mGet (mTake L k) k = 0 := by
  cases hk : mHas k
  · exact (mOut (n := 0) hk).1
  · obtain ⟨i, hi, rfl⟩ := mHas_in hk
    rw [mTake_at hi, mGet_at hi (u := 0)]
    rw [List.getElem?_set_self (by rw [h.1]; exact hi)]
end Go.Proofs.YteliebinhdphlaaDoor

/- The document's disk: what it is, and how it lies in memory. -/
namespace Go.Proofs.YteliebinhdphlaaDoor
set_option maxRecDepth 100000
open Go.RowKit Go.Deep
set_option linter.unusedSimpArgs false
set_option linter.unusedVariables false

/-- A disk, plainly. -/
structure DS where
  kept : List (List Int)
  inn : List Bool
  waits : List (Int × List Int)
  room : Int
  cut : Int
  off : Bool
  ops : List Int

def Byte128 (r : List Int) : Prop := r.length = 128 ∧ ∀ x ∈ r, 0 ≤ x ∧ x < 256

structure DWf (S : DS) : Prop where
  n1 : 1 ≤ S.kept.length
  n2 : S.kept.length ≤ 4096
  ninn : S.inn.length = S.kept.length
  rows : ∀ r ∈ S.kept, Byte128 r
  wts : ∀ p ∈ S.waits, 0 ≤ p.1 ∧ p.1 < S.kept.length ∧ Byte128 p.2
  room0 : 0 ≤ S.room
  room1 : S.room ≤ 4096
  cut0 : -1 ≤ S.cut
  cut1 : S.cut ≤ 9223372036854775807
  ops3 : S.ops.length = 3
  opsr : ∀ x ∈ S.ops, -9223372036854775808 ≤ x ∧ x ≤ 9223372036854775807

/-- Pairs, one behind the other. -/
def flat2 (ps : List (Int × Value)) : List Value := ps.flatMap fun p => [Value.int .i64 p.1, p.2]
theorem flat2_len (ps : List (Int × Value)) : (flat2 ps).length = 2 * ps.length := by
  induction ps with
  | nil => rfl
  | cons p ps ih =>
    show (Value.int .i64 p.1 :: p.2 :: flat2 ps).length = _
    simp only [List.length_cons, ih]; omega
theorem flat2_snoc (ps : List (Int × Value)) (a : Int) (v : Value) : flat2 (ps ++ [(a, v)]) = flat2 ps ++ [.int .i64 a, v] := by simp [flat2]
theorem flat2_at {ps : List (Int × Value)} {i : Nat} {p : Int × Value} (h : ps[i]? = some p) : (flat2 ps)[i * 2]? = some (.int .i64 p.1) ∧ (flat2 ps)[i * 2 + 1]? = some p.2 := by
  induction ps generalizing i with
  | nil => simp at h
  | cons q ps ih =>
    have e : flat2 (q :: ps) = Value.int .i64 q.1 :: q.2 :: flat2 ps := rfl
    rw [e]
    match i with
    | 0 => simp at h; subst h; exact ⟨rfl, rfl⟩
    | i + 1 =>
      have := ih (i := i) (by simpa using h)
      have e2 : (i + 1) * 2 = i * 2 + 1 + 1 := by omega
      rw [e2]
      simpa using this

/-- The pieces that wait: a slice of pairs, or none yet. -/
def WRow (F : Nat → Prop) (w : World) (vw : Value) (ps : List (Int × Value)) : Prop :=
  (vw = .slice none 0 0 ∧ ps = []) ∨ ∃ g cap sp, vw = .slice (some ⟨g, 0, none⟩) ps.length cap ∧ F g ∧ ps.length ≤ cap ∧ cap ≤ maxLen ∧ Blk w g 135 (flat2 ps ++ sp) ∧ 2 * ps.length + sp.length = cap * 2

theorem WRow.form {F : Nat → Prop} {w : World} {vw : Value} {ps : List (Int × Value)} (h : WRow F w vw ps) :
    ∃ A c, vw = .slice A ps.length c ∧ ∀ i p, ps[i]? = some p → ∃ g, A = some ⟨g, 0, none⟩ ∧ w.cell? ⟨g, i * 2, none⟩ = some (.int .i64 p.1) ∧ w.cell? ⟨g, i * 2 + 1, none⟩ = some p.2 := by
  rcases h with ⟨rfl, rfl⟩ | ⟨g, cap, sp, rfl, _, _, _, hb, _⟩
  · exact ⟨none, 0, rfl, fun i p h => by simp at h⟩
  · refine ⟨_, _, rfl, fun i p hp => ⟨g, rfl, ?_, ?_⟩⟩
    · have h1 := (flat2_at hp).1
      exact hb.cell (by rw [List.getElem?_append_left]; exact h1; exact (List.getElem?_eq_some_iff.1 h1).1)
    · have h1 := (flat2_at hp).2
      exact hb.cell (by rw [List.getElem?_append_left]; exact h1; exact (List.getElem?_eq_some_iff.1 h1).1)
theorem WRow.kept {F : Nat → Prop} {w w' : World} {v : Value} {ps : List (Int × Value)} (h : WRow F w v ps) (e : ∀ g, F g → (∃ vs, Blk w g 135 vs) → w'.heap[g]? = w.heap[g]?) : WRow F w' v ps := by
  rcases h with h | ⟨g, cap, sp, h1, h2, h3, h4, h5, h6⟩
  · exact Or.inl h
  · exact Or.inr ⟨g, cap, sp, h1, h2, h3, h4, h5.kept (e g h2 ⟨_, h5⟩), h6⟩
theorem WRow.mono {F G : Nat → Prop} {w : World} {v : Value} {ps : List (Int × Value)} (h : WRow F w v ps) (hs : ∀ k, k < w.heap.size → F k → G k) : WRow G w v ps := by
  rcases h with h | ⟨g, cap, sp, h1, h2, h3, h4, h5, h6⟩
  · exact Or.inl h
  · exact Or.inr ⟨g, cap, sp, h1, hs g h5.lt h2, h3, h4, h5, h6⟩
theorem WRow.own {F : Nat → Prop} {w : World} {v : Value} {ps : List (Int × Value)} (h : WRow F w v ps) : w.ownsRow 0 135 2 v ps.length (flat2 ps) := by
  refine ⟨by rw [flat2_len]; omega, ?_⟩
  rcases h with ⟨h1, h2⟩ | ⟨g, cap, sp, h1, h2, h3, h4, h5, h6⟩
  · exact Or.inl ⟨h1, by rw [h2]; rfl⟩
  · refine Or.inr ⟨g, cap, _, h1, Nat.zero_le _, h5, h3, h4, ?_, ?_⟩
    · simp [flat2_len]; omega
    · rw [show (flat2 ps ++ sp).toArray.toList = flat2 ps ++ sp by simp]
      rw [List.take_append_of_le_length (by rw [flat2_len]; omega), List.take_of_length_le (by rw [flat2_len]; omega)]
theorem WRow.of_own {F : Nat → Prop} {w : World} {base : Nat} {v : Value} {ps : List (Int × Value)} {n : Nat} (h : w.ownsRow base 135 2 v n (flat2 ps)) (hF : ∀ k, v.ownBlock = some k → F k) : WRow F w v ps := by
  have hl : n = ps.length := by have := h.1; rw [flat2_len] at this; omega
  subst hl
  rcases h.2 with ⟨h1, h2⟩ | ⟨g, cap, cur, h1, _, hg, h3, h4, h5, h6⟩
  · exact Or.inl ⟨h1, List.eq_nil_of_length_eq_zero h2⟩
  · refine Or.inr ⟨g, cap, cur.toList.drop (ps.length * 2), h1, hF g (by rw [h1]; rfl), h3, h4, ?_, ?_⟩
    · unfold Blk; rw [hg, ← h6, List.take_append_drop]
    · simp; omega

/-- The document's disk at b. -/
structure RDAt (F : Nat → Prop) (w : World) (b : Nat) (S : DS) (kb ib ob ck ci : Nat) (spk spi : List Value) (vw : Value) (kv : List Value) (ps : List (Int × Value)) : Prop where
  fb : F b
  fk : F kb
  fi : F ib
  fo : F ob
  head : Blk w b 85 [.slice (some ⟨kb, 0, none⟩) S.kept.length ck, .slice (some ⟨ib, 0, none⟩) S.kept.length ci, vw, .int .i64 S.room, .int .i64 S.cut, .bool S.off, .slice (some ⟨ob, 0, none⟩) 3 3]
  kept : Blk w kb 22 (kv ++ spk)
  kvn : kv.length = S.kept.length
  krow : ∀ (i : Nat) (xs : List Int), S.kept[i]? = some xs → ∃ v, kv[i]? = some v ∧ BRow F w v xs
  inn : Blk w ib 4 (S.inn.map Value.bool ++ spi)
  wait : WRow F w vw ps
  psn : ps.length = S.waits.length
  wrow : ∀ (i : Nat) (p : Int × List Int), S.waits[i]? = some p → ∃ v, ps[i]? = some (p.1, v) ∧ BRow F w v p.2
  ops : Blk w ob 3 (i64s S.ops)
  fin : ∀ k, F k → k < w.heap.size

def RD (F : Nat → Prop) (w : World) (b : Nat) (S : DS) : Prop := DWf S ∧ ∃ kb ib ob ck ci spk spi vw kv ps, RDAt F w b S kb ib ob ck ci spk spi vw kv ps

theorem RD.of {F : Nat → Prop} {w : World} {b : Nat} {S : DS} {kb ib ob ck ci : Nat} {spk spi : List Value} {vw : Value} {kv : List Value} {ps : List (Int × Value)} (h0 : DWf S) (h : RDAt F w b S kb ib ob ck ci spk spi vw kv ps) : RD F w b S :=
  ⟨h0, kb, ib, ob, ck, ci, spk, spi, vw, kv, ps, h⟩
theorem RDAt.keep {F : Nat → Prop} {w w' : World} {b : Nat} {S : DS} {kb ib ob ck ci : Nat} {spk spi : List Value} {vw : Value} {kv : List Value} {ps : List (Int × Value)} (h : RDAt F w b S kb ib ob ck ci spk spi vw kv ps)
    (hs : w.heap.size ≤ w'.heap.size) (e : ∀ k, F k → w'.heap[k]? = w.heap[k]?) : RDAt F w' b S kb ib ob ck ci spk spi vw kv ps :=
  ⟨h.fb, h.fk, h.fi, h.fo, h.head.kept (e _ h.fb), h.kept.kept (e _ h.fk), h.kvn, fun i xs hi => by obtain ⟨v, h1, h2⟩ := h.krow i xs hi; exact ⟨v, h1, h2.kept (fun g hg _ => e g hg)⟩,
    h.inn.kept (e _ h.fi), h.wait.kept (fun g hg _ => e g hg), h.psn, fun i p hi => by obtain ⟨v, h1, h2⟩ := h.wrow i p hi; exact ⟨v, h1, h2.kept (fun g hg _ => e g hg)⟩,
    h.ops.kept (e _ h.fo), fun k hk => Nat.lt_of_lt_of_le (h.fin k hk) hs⟩
theorem RD.keep {F : Nat → Prop} {w w' : World} {b : Nat} {S : DS} (h : RD F w b S) (hs : w.heap.size ≤ w'.heap.size) (e : ∀ k, F k → w'.heap[k]? = w.heap[k]?) : RD F w' b S := by
  obtain ⟨h0, kb, ib, ob, ck, ci, spk, spi, vw, kv, ps, h⟩ := h
  exact ⟨h0, kb, ib, ob, ck, ci, spk, spi, vw, kv, ps, h.keep hs e⟩
theorem RD.fin {F : Nat → Prop} {w : World} {b : Nat} {S : DS} (h : RD F w b S) {k : Nat} (hk : F k) : k < w.heap.size := by
  obtain ⟨h0, kb, ib, ob, ck, ci, spk, spi, vw, kv, ps, h⟩ := h
  exact h.fin k hk
theorem RDAt.mono {F G : Nat → Prop} {w : World} {b : Nat} {S : DS} {kb ib ob ck ci : Nat} {spk spi : List Value} {vw : Value} {kv : List Value} {ps : List (Int × Value)} (h : RDAt F w b S kb ib ob ck ci spk spi vw kv ps)
    (up : ∀ k, k < w.heap.size → F k → G k) (hG : ∀ k, G k → k < w.heap.size) : RDAt G w b S kb ib ob ck ci spk spi vw kv ps :=
  ⟨up _ h.head.lt h.fb, up _ h.kept.lt h.fk, up _ h.inn.lt h.fi, up _ h.ops.lt h.fo, h.head, h.kept, h.kvn,
    fun i xs hi => by obtain ⟨v, h1, h2⟩ := h.krow i xs hi; exact ⟨v, h1, h2.mono up⟩, h.inn, h.wait.mono up, h.psn,
    fun i p hi => by obtain ⟨v, h1, h2⟩ := h.wrow i p hi; exact ⟨v, h1, h2.mono up⟩, h.ops, hG⟩
theorem RD.mono {F G : Nat → Prop} {w : World} {b : Nat} {S : DS} (h : RD F w b S) (hs : ∀ k, k < w.heap.size → F k → G k) (hG : ∀ k, G k → k < w.heap.size) : RD G w b S := by
  obtain ⟨h0, kb, ib, ob, ck, ci, spk, spi, vw, kv, ps, h⟩ := h
  exact RD.of h0 (h.mono hs hG)
/-- What happens elsewhere leaves a disk as it is. -/
theorem RD.only {F G : Nat → Prop} {w w' : World} {b : Nat} {S : DS} (h : RD F w b S) (ho : Only G w w') (hd : ∀ k, F k → ¬ G k) : RD F w' b S :=
  h.keep ho.size (fun k hk => ho.block k (h.fin hk) (hd k hk))

/-! What is asked of a disk. -/
def DS.waitsFor (S : DS) (n : Int) : Bool := S.waits.any fun p => p.1 == n
def DS.isUse (S : DS) (n : Int) : Bool := S.waitsFor n || S.inn.getD n.toNat false
end Go.Proofs.YteliebinhdphlaaDoor

/- The document's disk: what only asks. -/
namespace Go.Proofs.YteliebinhdphlaaDoor
set_option maxRecDepth 100000
open Go.RowKit Go.Deep
set_option linter.unusedSimpArgs false
set_option linter.unusedVariables false

theorem any_take_succ {l : List (Int × List Int)} {j : Nat} {p : Int × List Int} (n : Int) (h : l[j]? = some p) (h1 : (l.take j).any (fun p => p.1 == n) = false) (h2 : (p.1 == n) = false) : (l.take (j + 1)).any (fun p => p.1 == n) = false := by
  rw [take_snoc _ _ _ h, List.any_append, h1]; simpa using h2

set_option maxHeartbeats 800000 in
theorem ris_is (F : Nat → Prop) (w : World) (b : Nat) (S : DS) (n : Nat) (h : RD F w b S) (hn : n < S.kept.length) :
    Calls Tryd.prog 96 #[.pointer (some ⟨b, 0, none⟩), .int .i64 (n : Int)] w fun e w' => e = .returned (.bool (S.isUse n)) ∧ w' = w := by
  obtain ⟨hwf, kb, ib, ob, ck, ci, spk, spi, vw, kv, ps, h⟩ := h
  obtain ⟨A, c, rfl, hw⟩ := h.wait.form
  have hc1 := h.head.cell (i := 1) rfl
  have hc2 := h.head.cell (i := 2) rfl
  have hin : ∃ u, S.inn[n]? = some u := ⟨_, List.getElem?_eq_getElem (by rw [hwf.ninn]; exact hn)⟩
  obtain ⟨u, hu⟩ := hin
  have hcu : w.cell? ⟨ib, n, none⟩ = some (.bool u) := h.inn.cell (by rw [List.getElem?_append_left (by rw [List.length_map, hwf.ninn]; exact hn), List.getElem?_map, hu]; rfl)
  have hpn : ps.length = S.waits.length := h.psn
  have Hpn := Lib.hid hpn
  have Hu := Lib.hid hu
  have hnI : (n : Int) < (S.kept.length : Int) := by omega
  obtain ⟨K, hK⟩ : ∃ K, K = S.kept.length := ⟨_, rfl⟩
  have hnI : (n : Int) < (K : Int) := by omega
  rw [← hK] at hc1
  obtain ⟨m, hm⟩ : ∃ m, m = ps.length := ⟨_, rfl⟩
  rw [← hm] at hc2
  have hmr : m ≤ 9223372036854775807 := by
    rcases h.wait with ⟨_, e⟩ | ⟨_, _, _, _, _, h3, h4, _⟩
    · rw [hm, e]; simp
    · simp only [maxLen] at h4; omega
  have Hm := Lib.hid hm
  clear hpn hu hm hK
  go_enter Tryd.func96, Tryd.ntmps96
  go_wp2
  go_loop [5] (fun i => ∃ j : Nat, j ≤ m ∧ i = .int .i64 j ∧ Hid ((S.waits.take j).any (fun p => p.1 == (n : Int)) = false)) (fun i => m - (intOf i).toNat)
  case atStart => exact ⟨0, by omega, rfl, Lib.hid rfl⟩
  case round =>
    obtain ⟨j, hj, rfl, Hq⟩ := hrel
    by_cases hlt : j < m
    · obtain ⟨p, hp⟩ : ∃ p, S.waits[j]? = some p := ⟨_, List.getElem?_eq_getElem (by rw [← Hpn.out, ← Hm.out]; exact hlt)⟩
      obtain ⟨v, hv, _⟩ := h.wrow j p hp
      obtain ⟨g, rfl, hcp, _⟩ := hw j _ hv
      have Hp := Lib.hid hp
      have hp1 := (hwf.wts p (List.mem_of_getElem? hp)).1
      obtain ⟨p1, hp1e⟩ : ∃ x, x = p.1 := ⟨_, rfl⟩
      have Hp1e := Lib.hid hp1e
      rw [show (p.1, v).1 = p.1 from rfl, ← hp1e] at hcp
      clear hp hv hp1 hp1e
      by_cases he : p1 = (n : Int)
      · subst he
        have hres := Lib.hid (show S.isUse n = true by
          unfold DS.isUse DS.waitsFor
          rw [show (S.waits.any fun p => p.1 == (n : Int)) = true from List.any_eq_true.2 ⟨p, List.mem_of_getElem? Hp.out, by rw [← Hp1e.out]; simp⟩]
          rfl)
        go_wp2
        go_ret
        exact ⟨ret_bool hres.out.symm, rfl⟩
      · have he' : (p1 == (n : Int)) = false := by simpa using he
        have Hn := Lib.hid (any_take_succ (n : Int) Hp.out Hq.out (by rw [← Hp1e.out]; exact he'))
        clear he
        go_wp2
        go_round
        case rel => exact ⟨j + 1, by omega, by go_num, Hn⟩
        case measure => simp [intOf]; omega
    · obtain rfl : j = m := by omega
      have hres := Lib.hid (show S.isUse n = u by
        unfold DS.isUse DS.waitsFor
        have h1 := Hq.out
        rw [List.take_of_length_le (by rw [Hm.out, Hpn.out]; omega)] at h1
        rw [h1]
        simp [List.getD, Hu.out])
      go_wp2
      go_ret
      exact ⟨ret_bool hres.out.symm, rfl⟩

/-- How many sectors of the first k are in use. -/
def usedTo (S : DS) (k : Nat) : Nat := (List.range k).countP fun (i : Nat) => S.isUse (i : Int)
def DS.used (S : DS) : Nat := usedTo S S.kept.length
theorem usedTo_succ (S : DS) (k : Nat) : usedTo S (k + 1) = usedTo S k + (if S.isUse (k : Int) then 1 else 0) := by
  unfold usedTo; rw [List.range_succ, List.countP_append]; simp [List.countP_cons]
theorem usedTo_le (S : DS) (k : Nat) : usedTo S k ≤ k := by
  unfold usedTo; have := List.countP_le_length (p := fun i => S.isUse ((i : Nat) : Int)) (l := List.range k); simpa using this

set_option maxHeartbeats 800000 in
theorem rused_is (F : Nat → Prop) (w : World) (b : Nat) (S : DS) (h : RD F w b S) :
    Calls Tryd.prog 97 #[.pointer (some ⟨b, 0, none⟩)] w fun e w' => e = .returned (.int .i64 (S.used : Int)) ∧ w' = w := by
  have hrd := h
  obtain ⟨hwf, kb, ib, ob, ck, ci, spk, spi, vw, kv, ps, h⟩ := h
  have hc1 := h.head.cell (i := 1) rfl
  have hn2 := hwf.n2
  obtain ⟨K, hK⟩ : ∃ K, K = S.kept.length := ⟨_, rfl⟩
  rw [← hK] at hc1 hn2
  have HK := Lib.hid hK
  clear hK
  go_enter Tryd.func97, Tryd.ntmps97
  go_wp2
  go_loopw [3, 4] (fun n i wr => ∃ j : Nat, j ≤ K ∧ n = .int .i64 (usedTo S j : Int) ∧ i = .int .i64 j ∧ wr = w) (fun _ i _ => K - (intOf i).toNat)
  case atStart => exact ⟨0, by omega, by simp [usedTo], rfl, rfl⟩
  case round =>
    obtain ⟨j, hj, rfl, rfl, rfl⟩ := hrel
    have hle := usedTo_le S j
    by_cases hlt : j < K
    · have Hs := Lib.hid (usedTo_succ S j)
      go_wp2_with fail
      refine (ris_is F wr b S j hrd (by rw [← HK.out]; exact hlt)).mono ?_
      rintro e w1 ⟨rfl, hw⟩
      obtain rfl := hw.symm
      cases hu : S.isUse (j : Int)
      · have Hs' := Lib.hid (show usedTo S (j + 1) = usedTo S j by rw [Hs.out, hu]; simp)
        clear hu
        go_wp2
        go_roundw
        case rel => exact ⟨j + 1, by omega, by rw [Hs'.out], by go_num, by simp⟩
        case measure => simp [intOf]; omega
      · have Hs' := Lib.hid (show usedTo S (j + 1) = usedTo S j + 1 by rw [Hs.out, hu]; simp)
        clear hu
        go_wp2
        go_roundw
        case rel => exact ⟨j + 1, by omega, by rw [Hs'.out]; go_num, by go_num, by simp⟩
        case measure => simp [intOf]; omega
    · obtain rfl : j = K := by omega
      have hres := Lib.hid (show S.used = usedTo S j by unfold DS.used; rw [← HK.out])
      go_wp2
      go_ret
      exact ⟨ret_int (by rw [hres.out]), rfl⟩

/-- What a sector has: what was written last. -/
def DS.at_ (S : DS) (n : Nat) : List Int := match S.waits.reverse.find? (fun p => p.1 == (n : Int)) with
  | some p => p.2
  | none => S.kept.getD n []
theorem at_byte {S : DS} (h : DWf S) {n : Nat} (hn : n < S.kept.length) : Byte128 (S.at_ n) := by
  unfold DS.at_
  split
  · next p hp =>
    have := List.mem_of_find?_eq_some hp
    exact (h.wts p (by simpa using this)).2.2
  · rw [show S.kept.getD n [] = S.kept[n] by simp [List.getD, hn]]
    exact h.rows _ (List.getElem_mem hn)
theorem find_drop {l : List (Int × List Int)} {j : Nat} {p : Int × List Int} (n : Int) (h : l[j]? = some p) (h1 : (l.drop (j + 1)).any (fun p => p.1 == n) = false) :
    ((p.1 == n) = true → l.reverse.find? (fun p => p.1 == n) = some p) ∧ ((p.1 == n) = false → (l.drop j).any (fun p => p.1 == n) = false) := by
  have hj := (List.getElem?_eq_some_iff.1 h).1
  have hd : l.drop j = p :: l.drop (j + 1) := by
    rw [List.drop_eq_getElem_cons hj]
    congr 1
    exact Option.some.inj ((List.getElem?_eq_getElem hj).symm.trans h)
  constructor
  · intro he
    have e : l = l.take j ++ p :: l.drop (j + 1) := by rw [← hd, List.take_append_drop]
    rw [e, List.reverse_append, List.reverse_cons, List.append_assoc, List.find?_append]
    rw [List.find?_eq_none.2 (by
      intro q hq hq2
      have := List.any_eq_false.1 h1 q (by simpa using hq)
      exact this hq2)]
    simp [he]
  · intro he
    rw [hd, List.any_cons, he, h1]; rfl
theorem find_none_of {l : List (Int × List Int)} (n : Int) (h : l.any (fun p => p.1 == n) = false) : l.reverse.find? (fun p => p.1 == n) = none := by
  rw [List.find?_eq_none]
  intro q hq hq2
  exact (List.any_eq_false.1 h q (by simpa using hq)) hq2

set_option maxHeartbeats 800000 in
theorem rat_is (F : Nat → Prop) (w : World) (b : Nat) (S : DS) (n : Nat) (h : RD F w b S) (hn : n < S.kept.length) :
    Calls Tryd.prog 92 #[.pointer (some ⟨b, 0, none⟩), .int .i64 (n : Int)] w fun e w' => ∃ v, e = .returned v ∧ BRow F w v (S.at_ n) ∧ w' = w := by
  obtain ⟨hwf, kb, ib, ob, ck, ci, spk, spi, vw, kv, ps, h⟩ := h
  obtain ⟨A, c, rfl, hw⟩ := h.wait.form
  have hc0 := h.head.cell (i := 0) rfl
  have hc2 := h.head.cell (i := 2) rfl
  obtain ⟨row, hrow⟩ : ∃ r, S.kept[n]? = some r := ⟨_, List.getElem?_eq_getElem hn⟩
  obtain ⟨vk, hvk, hbk⟩ := h.krow n row hrow
  have hck : w.cell? ⟨kb, n, none⟩ = some vk := h.kept.cell (by rw [List.getElem?_append_left (by rw [h.kvn]; exact hn)]; exact hvk)
  have hpn : ps.length = S.waits.length := h.psn
  have Hpn := Lib.hid hpn
  obtain ⟨K, hK⟩ : ∃ K, K = S.kept.length := ⟨_, rfl⟩
  have hnI : (n : Int) < (K : Int) := by omega
  rw [← hK] at hc0
  obtain ⟨m, hm⟩ : ∃ m, m = ps.length := ⟨_, rfl⟩
  rw [← hm] at hc2
  have hmr : m ≤ 9223372036854775807 := by
    rcases h.wait with ⟨_, e⟩ | ⟨_, _, _, _, _, h3, h4, _⟩
    · rw [hm, e]; simp
    · simp only [maxLen] at h4; omega
  have Hm := Lib.hid hm
  have Hrow := Lib.hid hrow
  clear hpn hm hK hrow
  go_enter Tryd.func92, Tryd.ntmps92
  go_wp2
  go_loop [5] (fun i => ∃ j : Nat, j ≤ m ∧ i = .int .i64 j ∧ Hid ((S.waits.drop j).any (fun p => p.1 == (n : Int)) = false)) (fun i => (intOf i).toNat)
  case atStart => exact ⟨m, by omega, rfl, Lib.hid (by rw [List.drop_of_length_le (by rw [Hm.out, Hpn.out]; omega)]; rfl)⟩
  case round =>
    obtain ⟨j, hj, rfl, Hq⟩ := hrel
    rcases j with _ | j
    · have hres := Lib.hid (show S.at_ n = row by
        unfold DS.at_
        rw [find_none_of (n : Int) (by have := Hq.out; simpa using this)]
        simp [List.getD, Hrow.out])
      go_wp2
      go_ret
      exact ⟨_, rfl, by rw [hres.out]; exact hbk, rfl⟩
    · obtain ⟨p, hp⟩ : ∃ p, S.waits[j]? = some p := ⟨_, List.getElem?_eq_getElem (by rw [← Hpn.out, ← Hm.out]; exact hj)⟩
      obtain ⟨v, hv, hbv⟩ := h.wrow j p hp
      obtain ⟨g, rfl, hcp, hcv⟩ := hw j _ hv
      have Hp := Lib.hid hp
      obtain ⟨p1, hp1e⟩ : ∃ x, x = p.1 := ⟨_, rfl⟩
      have Hp1e := Lib.hid hp1e
      rw [show (p.1, v).1 = p.1 from rfl, ← hp1e] at hcp
      rw [show (p.1, v).2 = v from rfl] at hcv
      have hk1 : ((j + 1 : Nat) : Int) - 1 = (j : Int) := by omega
      have hjI : (j : Int) < (m : Int) := by omega
      clear hp hv hp1e
      by_cases he : p1 = (n : Int)
      · subst he
        have hres := Lib.hid (show S.at_ n = p.2 by
          unfold DS.at_
          rw [(find_drop (n : Int) Hp.out Hq.out).1 (by rw [← Hp1e.out]; simp)])
        go_wp2
        go_ret
        exact ⟨_, rfl, by rw [hres.out]; exact hbv, rfl⟩
      · have he' : (p1 == (n : Int)) = false := by simpa using he
        have Hn := Lib.hid ((find_drop (n : Int) Hp.out Hq.out).2 (by rw [← Hp1e.out]; exact he'))
        clear he
        go_wp2
        go_round
        case rel => exact ⟨j, by omega, by go_num, Hn⟩
        case measure => simp [intOf]
end Go.Proofs.YteliebinhdphlaaDoor

/- The document's disk: stores into it. -/
namespace Go.Proofs.YteliebinhdphlaaDoor
set_option maxRecDepth 100000
open Go.RowKit Go.Deep
set_option linter.unusedSimpArgs false
set_option linter.unusedVariables false

section
variable {F : Nat → Prop} {w : World} {b : Nat} {S : DS} {kb ib ob ck ci : Nat} {spk spi : List Value} {vw : Value} {kv : List Value} {ps : List (Int × Value)}

/-- A store into the head. -/
theorem RDAt.upHead (h : RDAt F w b S kb ib ob ck ci spk spi vw kv ps) (i : Nat) (v : Value) (c : Int) (o : Bool)
    (e : ([.slice (some ⟨kb, 0, none⟩) S.kept.length ck, .slice (some ⟨ib, 0, none⟩) S.kept.length ci, vw, .int .i64 S.room, .int .i64 S.cut, .bool S.off, .slice (some ⟨ob, 0, none⟩) 3 3] : List Value).set i v
      = [.slice (some ⟨kb, 0, none⟩) S.kept.length ck, .slice (some ⟨ib, 0, none⟩) S.kept.length ci, vw, .int .i64 S.room, .int .i64 c, .bool o, .slice (some ⟨ob, 0, none⟩) 3 3]) :
    RDAt F (w.setCell ⟨b, i, none⟩ v) b { S with cut := c, off := o } kb ib ob ck ci spk spi vw kv ps := by
  have far : ∀ {g : Nat} {t : TypeId} {vs : List Value}, Blk w g t vs → t ≠ 85 → (w.setCell ⟨b, i, none⟩ v).heap[g]? = w.heap[g]? :=
    fun hb ht => blk_setCell_other _ _ _ _ (hb.ne h.head ht)
  refine ⟨h.fb, h.fk, h.fi, h.fo, ?_, h.kept.kept (far h.kept (by decide)), h.kvn, ?_, h.inn.kept (far h.inn (by decide)), h.wait.kept (fun g _ ⟨vs, hg⟩ => far hg (by decide)), h.psn, ?_, h.ops.kept (far h.ops (by decide)), ?_⟩
  · have := h.head.set i v
    rw [e] at this; exact this
  · intro i xs hi
    obtain ⟨v, h1, h2⟩ := h.krow i xs hi
    exact ⟨v, h1, h2.kept (fun g _ ⟨vs, hg⟩ => far hg (by decide))⟩
  · intro i p hi
    obtain ⟨v, h1, h2⟩ := h.wrow i p hi
    exact ⟨v, h1, h2.kept (fun g _ ⟨vs, hg⟩ => far hg (by decide))⟩
  · intro k hk; rw [nblk_setCell]; exact h.fin k hk
/-- Nothing waits any more. -/
theorem RDAt.upNone (h : RDAt F w b S kb ib ob ck ci spk spi vw kv ps) :
    RDAt F (w.setCell ⟨b, 2, none⟩ (.slice none 0 0)) b { S with waits := [] } kb ib ob ck ci spk spi (.slice none 0 0) kv [] := by
  have far : ∀ {g : Nat} {t : TypeId} {vs : List Value}, Blk w g t vs → t ≠ 85 → (w.setCell ⟨b, 2, none⟩ (.slice none 0 0)).heap[g]? = w.heap[g]? :=
    fun hb ht => blk_setCell_other _ _ _ _ (hb.ne h.head ht)
  refine ⟨h.fb, h.fk, h.fi, h.fo, h.head.set 2 _, h.kept.kept (far h.kept (by decide)), h.kvn, ?_, h.inn.kept (far h.inn (by decide)), Or.inl ⟨rfl, rfl⟩, rfl, ?_, h.ops.kept (far h.ops (by decide)), ?_⟩
  · intro i xs hi
    obtain ⟨v, h1, h2⟩ := h.krow i xs hi
    exact ⟨v, h1, h2.kept (fun g _ ⟨vs, hg⟩ => far hg (by decide))⟩
  · intro i p hi; simp at hi
  · intro k hk; rw [nblk_setCell]; exact h.fin k hk
/-- A store into the counts. -/
theorem RDAt.upOps (h : RDAt F w b S kb ib ob ck ci spk spi vw kv ps) (i : Nat) (u : Int) :
    RDAt F (w.setCell ⟨ob, i, none⟩ (.int .i64 u)) b { S with ops := S.ops.set i u } kb ib ob ck ci spk spi vw kv ps := by
  have far : ∀ {g : Nat} {t : TypeId} {vs : List Value}, Blk w g t vs → t ≠ 3 → (w.setCell ⟨ob, i, none⟩ (.int .i64 u)).heap[g]? = w.heap[g]? :=
    fun hb ht => blk_setCell_other _ _ _ _ (hb.ne h.ops ht)
  refine ⟨h.fb, h.fk, h.fi, h.fo, h.head.kept (far h.head (by decide)), h.kept.kept (far h.kept (by decide)), h.kvn, ?_, h.inn.kept (far h.inn (by decide)), h.wait.kept (fun g _ ⟨vs, hg⟩ => far hg (by decide)), h.psn, ?_, ?_, ?_⟩
  · intro i xs hi
    obtain ⟨v, h1, h2⟩ := h.krow i xs hi
    exact ⟨v, h1, h2.kept (fun g _ ⟨vs, hg⟩ => far hg (by decide))⟩
  · intro i p hi
    obtain ⟨v, h1, h2⟩ := h.wrow i p hi
    exact ⟨v, h1, h2.kept (fun g _ ⟨vs, hg⟩ => far hg (by decide))⟩
  · have := h.ops.set i (.int .i64 u)
    rw [← List.map_set] at this; exact this
  · intro k hk; rw [nblk_setCell]; exact h.fin k hk
/-- A sector comes in use. -/
theorem RDAt.upInn (h : RDAt F w b S kb ib ob ck ci spk spi vw kv ps) (hn : S.inn.length = S.kept.length) (i : Nat) (hi : i < S.kept.length) (u : Bool) :
    RDAt F (w.setCell ⟨ib, i, none⟩ (.bool u)) b { S with inn := S.inn.set i u } kb ib ob ck ci spk spi vw kv ps := by
  have far : ∀ {g : Nat} {t : TypeId} {vs : List Value}, Blk w g t vs → t ≠ 4 → (w.setCell ⟨ib, i, none⟩ (.bool u)).heap[g]? = w.heap[g]? :=
    fun hb ht => blk_setCell_other _ _ _ _ (hb.ne h.inn ht)
  refine ⟨h.fb, h.fk, h.fi, h.fo, h.head.kept (far h.head (by decide)), h.kept.kept (far h.kept (by decide)), h.kvn, ?_, ?_, h.wait.kept (fun g _ ⟨vs, hg⟩ => far hg (by decide)), h.psn, ?_, h.ops.kept (far h.ops (by decide)), ?_⟩
  · intro i xs hi
    obtain ⟨v, h1, h2⟩ := h.krow i xs hi
    exact ⟨v, h1, h2.kept (fun g _ ⟨vs, hg⟩ => far hg (by decide))⟩
  · have := h.inn.set i (.bool u)
    rw [List.set_append_left _ _ (by rw [List.length_map, hn]; exact hi), ← List.map_set] at this; exact this
  · intro i p hi
    obtain ⟨v, h1, h2⟩ := h.wrow i p hi
    exact ⟨v, h1, h2.kept (fun g _ ⟨vs, hg⟩ => far hg (by decide))⟩
  · intro k hk; rw [nblk_setCell]; exact h.fin k hk
/-- A sector keeps another row. -/
theorem RDAt.upKept (h : RDAt F w b S kb ib ob ck ci spk spi vw kv ps) (i : Nat) (hi : i < S.kept.length) (v : Value) (xs : List Int) (hv : BRow F w v xs) :
    RDAt F (w.setCell ⟨kb, i, none⟩ v) b { S with kept := S.kept.set i xs } kb ib ob ck ci spk spi vw (kv.set i v) ps := by
  have far : ∀ {g : Nat} {t : TypeId} {vs : List Value}, Blk w g t vs → t ≠ 22 → (w.setCell ⟨kb, i, none⟩ v).heap[g]? = w.heap[g]? :=
    fun hb ht => blk_setCell_other _ _ _ _ (hb.ne h.kept ht)
  refine ⟨h.fb, h.fk, h.fi, h.fo, ?_, ?_, by simp [h.kvn], ?_, h.inn.kept (far h.inn (by decide)), h.wait.kept (fun g _ ⟨vs, hg⟩ => far hg (by decide)), h.psn, ?_, h.ops.kept (far h.ops (by decide)), ?_⟩
  · have := h.head.kept (far h.head (by decide))
    simpa using this
  · have := h.kept.set i v
    rw [List.set_append_left _ _ (by rw [h.kvn]; exact hi)] at this; exact this
  · intro j ys hj
    by_cases e : j = i
    · subst e
      rw [List.getElem?_set_self hi] at hj
      cases hj
      exact ⟨v, by rw [List.getElem?_set_self (by rw [h.kvn]; exact hi)], hv.kept (fun g _ ⟨vs, hg⟩ => far hg (by decide))⟩
    · rw [List.getElem?_set_ne (fun e2 => e e2.symm)] at hj
      obtain ⟨u, h1, h2⟩ := h.krow j ys hj
      exact ⟨u, by rw [List.getElem?_set_ne (fun e2 => e e2.symm)]; exact h1, h2.kept (fun g _ ⟨vs, hg⟩ => far hg (by decide))⟩
  · intro i p hi
    obtain ⟨v, h1, h2⟩ := h.wrow i p hi
    exact ⟨v, h1, h2.kept (fun g _ ⟨vs, hg⟩ => far hg (by decide))⟩
  · intro k hk; rw [nblk_setCell]; exact h.fin k hk
end

/-- The power may go with an operation of a kind. -/
def DS.count (S : DS) (kind : Nat) : DS := { S with ops := S.ops.set kind (wrap64 (S.ops.getD kind 0 + 1)) }
def DS.goes (S : DS) (kind : Nat) : DS × Bool := if S.cut < 0 then (S.count kind, false) else ({ S.count kind with cut := S.cut - 1, off := decide (S.cut - 1 < 0) }, decide (S.cut - 1 < 0))

theorem DWf.count {S : DS} (h : DWf S) (k : Nat) : DWf (S.count k) :=
  ⟨h.n1, h.n2, h.ninn, h.rows, h.wts, h.room0, h.room1, h.cut0, h.cut1, by show (S.ops.set k _).length = 3; simp [h.ops3], fun x hx => by
    rcases List.mem_or_eq_of_mem_set (show x ∈ S.ops.set k _ from hx) with hx | rfl
    · exact h.opsr x hx
    · exact w64_range _⟩
theorem DWf.cutOff {S : DS} (h : DWf S) (c : Int) (o : Bool) (h0 : -1 ≤ c) (h1 : c ≤ 9223372036854775807) : DWf { S with cut := c, off := o } :=
  ⟨h.n1, h.n2, h.ninn, h.rows, h.wts, h.room0, h.room1, h0, h1, h.ops3, h.opsr⟩

theorem wrap_i64' (x : Int) : IntKind.i64.wrap x = wrap64 x := by unfold wrap64; exact IntKind.wrap_i64 x

set_option maxHeartbeats 1600000 in
theorem rgoes_is (F : Nat → Prop) (w : World) (b : Nat) (S : DS) (k : Nat) (h : RD F w b S) (hk : k < 3) :
    Calls Tryd.prog 69 #[.pointer (some ⟨b, 0, none⟩), .int .i64 (k : Int)] w fun e w' => e = .returned (.bool (S.goes k).2) ∧ RD F w' b (S.goes k).1 ∧ Only F w w' := by
  obtain ⟨hwf, kb, ib, ob, ck, ci, spk, spi, vw, kv, ps, h⟩ := h
  have hc6 := h.head.cell (i := 6) rfl
  obtain ⟨u, hu⟩ : ∃ u, S.ops[k]? = some u := ⟨_, List.getElem?_eq_getElem (by rw [hwf.ops3]; exact hk)⟩
  have hcu : w.cell? ⟨ob, k, none⟩ = some (.int .i64 u) := h.ops.cell (by rw [List.getElem?_map, hu]; rfl)
  have hfu := h.ops.frozen k
  have hkI : (k : Int) < 3 := by omega
  obtain ⟨z, hz⟩ : ∃ z, z = wrap64 (u + 1) := ⟨_, rfl⟩
  have hzw : IntKind.i64.wrap (u + 1) = z := by rw [hz, wrap_i64']
  have h1 := h.upOps k z
  have hcount : { S with ops := S.ops.set k z } = S.count k := by unfold DS.count; rw [hz]; simp [List.getD, hu]
  rw [hcount] at h1
  have h0 := h1.head.cell (i := 4) rfl
  have hf4 := h1.head.frozen 4
  have hf5 := h1.head.frozen 5
  obtain ⟨w1, hw1⟩ : ∃ w1, w1 = w.setCell ⟨ob, k, none⟩ (.int .i64 z) := ⟨_, rfl⟩
  have hO1 : Only F w w1 := by rw [hw1]; exact (Only.refl F w).set (Or.inr h.fo) _
  rw [← hw1] at h1 h0 hf4 hf5
  have H1 := Lib.hid h1
  have Hw1 := Lib.hid hw1
  obtain ⟨ct, hct⟩ : ∃ c, c = S.cut := ⟨_, rfl⟩
  have hct0 : -1 ≤ ct ∧ ct ≤ 9223372036854775807 := by rw [hct]; exact ⟨hwf.cut0, hwf.cut1⟩
  have h0' : w1.cell? ⟨b, 4, none⟩ = some (.int .i64 ct) := by rw [hct]; exact h0
  have Hct := Lib.hid hct
  have Hwf := Lib.hid hwf
  clear hu hz hcount hw1 h0 hct hwf h1
  go_enter Tryd.func69, Tryd.ntmps69
  go_wp2
  go_region
  all_goals
    rw [← Hw1.out]
    have h1 := H1.out.keep (w' := w1.drew) (Nat.le_refl _) (fun _ _ => rfl)
    have hO := hO1.drew
    have hc : w1.drew.cell? ⟨b, 4, none⟩ = some (.int .i64 ct) := h0'
    have hf4' : w1.drew.frozen? ⟨b, 4, none⟩ = false := hf4
    have hf5' : w1.drew.frozen? ⟨b, 5, none⟩ = false := hf5
    have hc5 : w1.drew.cell? ⟨b, 5, none⟩ = some (.bool S.off) := h1.head.cell (i := 5) rfl
    generalize w1.drew = w2 at *
    by_cases hneg : ct < 0
    · have hres := Lib.hid (show S.goes k = (S.count k, false) by unfold DS.goes; rw [if_pos (by rw [← Hct.out]; exact hneg)])
      go_wp2
      go_ret
      exact ⟨ret_bool (by rw [hres.out]), by rw [hres.out]; exact ⟨Hwf.out.count k, _, _, _, _, _, _, _, _, _, _, h1⟩, hO⟩
    · have h2 := h1.upHead 4 (.int .i64 (ct - 1)) (ct - 1) (S.count k).off rfl
      have hO2 := hO.set (a := ⟨b, 4, none⟩) (Or.inr h.fb) (.int .i64 (ct - 1))
      obtain ⟨d, hd⟩ : ∃ d, d = decide (ct - 1 < 0) := ⟨_, rfl⟩
      have h3 := h2.upHead 5 (.bool d) (ct - 1) d rfl
      have hO3 := hO2.set (a := ⟨b, 5, none⟩) (Or.inr h.fb) (.bool d)
      have hres := Lib.hid (show S.goes k = ({ S.count k with cut := ct - 1, off := d }, d) by unfold DS.goes; rw [if_neg (by rw [← Hct.out]; exact hneg), ← Hct.out, hd])
      have hfin := Lib.hid (show RD F ((w2.setCell ⟨b, 4, none⟩ (.int .i64 (ct - 1))).setCell ⟨b, 5, none⟩ (.bool d)) b (S.goes k).1 by
        rw [hres.out]; exact ⟨(Hwf.out.count k).cutOff _ _ (by omega) (by omega), _, _, _, _, _, _, _, _, _, _, h3⟩)
      have hO3' := Lib.hid hO3
      have hcw : IntKind.i64.wrap (ct - 1) = ct - 1 := by rw [wrap_i64']; unfold wrap64; omega
      have hdd := hd.symm
      clear hd h2 h3 hO2 hO3 h1 hO
      go_wp2
      go_ret
      exact ⟨ret_bool (by rw [hres.out]), hfin.out, hO3'.out⟩

set_option maxHeartbeats 800000 in
theorem rsetCut_is (F : Nat → Prop) (w : World) (b : Nat) (S : DS) (n : Int) (h : RD F w b S) (hn1 : -9223372036854775808 ≤ n) (hn2 : n ≤ 9223372036854775807) :
    Calls Tryd.prog 44 #[.pointer (some ⟨b, 0, none⟩), .int .i64 n] w fun e w' => e = .returned (.tuple #[]) ∧ RD F w' b { S with cut := if n < 0 then -1 else n } ∧ Only F w w' := by
  obtain ⟨hwf, kb, ib, ob, ck, ci, spk, spi, vw, kv, ps, h⟩ := h
  have hf4 := h.head.frozen 4
  have hc4 := h.head.cell (i := 4) rfl
  have h1 := h.upHead 4 (.int .i64 n) n S.off rfl
  have hO := (Only.refl F w).set (a := ⟨b, 4, none⟩) (Or.inr h.fb) (.int .i64 n)
  by_cases hneg : n < 0
  · have h2 := h1.upHead 4 (.int .i64 (-1)) (-1) S.off rfl
    have hO2 := hO.set (a := ⟨b, 4, none⟩) (Or.inr h.fb) (.int .i64 (-1))
    have hfin := Lib.hid (show RD F _ b { S with cut := -1 } from ⟨hwf.cutOff (-1) S.off (by omega) (by omega), _, _, _, _, _, _, _, _, _, _, h2⟩)
    have HO := Lib.hid hO2
    rw [if_pos hneg]
    clear h1 h2 hO hO2
    go_enter Tryd.func44, Tryd.ntmps44
    go_wp2
    go_end0
    exact ⟨rfl, hfin.out, HO.out⟩
  · have hfin := Lib.hid (show RD F _ b { S with cut := n } from ⟨hwf.cutOff n S.off (by omega) hn2, _, _, _, _, _, _, _, _, _, _, h1⟩)
    have HO := Lib.hid hO
    rw [if_neg hneg]
    clear h1 hO
    go_enter Tryd.func44, Tryd.ntmps44
    go_wp2
    go_end0
    exact ⟨rfl, hfin.out, HO.out⟩
end Go.Proofs.YteliebinhdphlaaDoor

/- The document's disk: Read, Flush. -/
namespace Go.Proofs.YteliebinhdphlaaDoor
set_option maxRecDepth 100000
open Go.RowKit Go.Deep
set_option linter.unusedSimpArgs false
set_option linter.unusedVariables false

theorem ret_val_int {v v' : Value} {k : IntKind} {a b : Int} (h : v = v') (h' : a = b) : Ending.returned (.tuple #[v, .int k a]) = .returned (.tuple #[v', .int k b]) := by rw [h, h']

theorem rread_off (F : Nat → Prop) (w : World) (b : Nat) (S : DS) (n : Int) (h : RD F w b S) (ho : S.off = true) :
    Calls Tryd.prog 84 #[.pointer (some ⟨b, 0, none⟩), .int .i64 n] w fun e w' => e = .returned (.tuple #[.slice none 0 0, .int .i64 50]) ∧ w' = w := by
  obtain ⟨hwf, kb, ib, ob, ck, ci, spk, spi, vw, kv, ps, h⟩ := h
  have hc5 := h.head.cell (i := 5) rfl
  rw [ho] at hc5
  go_enter Tryd.func84, Tryd.ntmps84
  go_wp2
  go_ret2
  exact ⟨rfl, rfl⟩
set_option maxHeartbeats 800000 in
theorem rread_out (F : Nat → Prop) (w : World) (b : Nat) (S : DS) (n : Int) (h : RD F w b S) (ho : S.off = false) (hn : n < 0 ∨ (S.kept.length : Int) ≤ n) :
    Calls Tryd.prog 84 #[.pointer (some ⟨b, 0, none⟩), .int .i64 n] w fun e w' => e = .returned (.tuple #[.slice none 0 0, .int .i64 51]) ∧ w' = w := by
  obtain ⟨hwf, kb, ib, ob, ck, ci, spk, spi, vw, kv, ps, h⟩ := h
  have hc5 := h.head.cell (i := 5) rfl
  have hc0 := h.head.cell (i := 0) rfl
  rw [ho] at hc5
  have hn2 := hwf.n2
  obtain ⟨K, hK⟩ : ∃ K, K = S.kept.length := ⟨_, rfl⟩
  rw [← hK] at hc0 hn hn2
  clear hK ho
  by_cases hneg : n < 0
  · go_enter Tryd.func84, Tryd.ntmps84
    go_wp2
    go_ret2
    exact ⟨rfl, rfl⟩
  · have hd : decide (n < 0) = false := decide_eq_false hneg
    have hd2 : decide ((K : Int) ≤ n) = true := decide_eq_true (by omega)
    go_enter Tryd.func84, Tryd.ntmps84
    go_wp2
    go_ret2
    exact ⟨rfl, rfl⟩
set_option maxHeartbeats 1600000 in
theorem rread_in (F : Nat → Prop) (w : World) (b : Nat) (S : DS) (n : Nat) (h : RD F w b S) (ho : S.off = false) (hn : n < S.kept.length) :
    Calls Tryd.prog 84 #[.pointer (some ⟨b, 0, none⟩), .int .i64 (n : Int)] w fun e w' => ∃ v, e = .returned (.tuple #[v, .int .i64 0]) ∧ BRow F w' v (S.at_ n) ∧ RD F w' b (S.count 0) ∧ Only F w w' := by
  obtain ⟨hwf, kb, ib, ob, ck, ci, spk, spi, vw, kv, ps, h⟩ := h
  have hc5 := h.head.cell (i := 5) rfl
  have hc0 := h.head.cell (i := 0) rfl
  have hc6 := h.head.cell (i := 6) rfl
  rw [ho] at hc5
  have hn2 := hwf.n2
  obtain ⟨u, hu⟩ : ∃ u, S.ops[0]? = some u := ⟨_, List.getElem?_eq_getElem (by rw [hwf.ops3]; omega)⟩
  have hcu : w.cell? ⟨ob, 0, none⟩ = some (.int .i64 u) := h.ops.cell (by rw [List.getElem?_map, hu]; rfl)
  have hfu := h.ops.frozen 0
  obtain ⟨z, hz⟩ : ∃ z, z = wrap64 (u + 1) := ⟨_, rfl⟩
  have hzw : IntKind.i64.wrap (u + 1) = z := by rw [hz, wrap_i64']
  have h1 := h.upOps 0 z
  have hcount : { S with ops := S.ops.set 0 z } = S.count 0 := by unfold DS.count; rw [hz]; simp [List.getD, hu]
  rw [hcount] at h1
  have hO1 : Only F w (w.setCell ⟨ob, 0, none⟩ (.int .i64 z)) := (Only.refl F w).set (Or.inr h.fo) _
  have hrd : RD F (w.setCell ⟨ob, 0, none⟩ (.int .i64 z)) b (S.count 0) := ⟨hwf.count 0, _, _, _, _, _, _, _, _, _, _, h1⟩
  obtain ⟨w1, hw1⟩ : ∃ w1, w1 = w.setCell ⟨ob, 0, none⟩ (.int .i64 z) := ⟨_, rfl⟩
  rw [← hw1] at hO1 hrd
  have Hw1 := Lib.hid hw1
  have HO := Lib.hid hO1
  have Hrd := Lib.hid hrd
  have hat : (S.count 0).at_ n = S.at_ n := rfl
  have hnk : n < (S.count 0).kept.length := hn
  obtain ⟨K, hK⟩ : ∃ K, K = S.kept.length := ⟨_, rfl⟩
  have hnI : (n : Int) < (K : Int) := by omega
  have hd : decide ((n : Int) < 0) = false := decide_eq_false (by omega)
  have hd2 : decide ((K : Int) ≤ (n : Int)) = false := decide_eq_false (by omega)
  rw [← hK] at hc0 hn2
  clear hK ho hz hcount h1 hu hw1 hO1 hrd
  go_enter Tryd.func84, Tryd.ntmps84
  go_wp2
  go_region
  all_goals
    rw [← Hw1.out]
    have hrd2 := Hrd.out.keep (w' := w1.drew) (Nat.le_refl _) (fun _ _ => rfl)
    have hO2 := Lib.hid (HO.out.drew)
    clear Hw1 Hrd
    generalize w1.drew = w2 at *
    go_wp2_with fail
    refine (rat_is F w2 b (S.count 0) n hrd2 hnk).mono ?_
    rintro e w3 ⟨v, rfl, hv, hw3⟩
    obtain rfl := hw3.symm
    go_wp2
    go_ret2
    exact ⟨v, rfl, hv, hrd2, hO2.out⟩

/-- The first k pieces that wait are kept. -/
def DS.keepTo (S : DS) (k : Nat) : DS := { S with kept := (S.waits.take k).foldl (fun l p => l.set p.1.toNat p.2) S.kept, inn := (S.waits.take k).foldl (fun l p => l.set p.1.toNat true) S.inn }
def DS.flushed (S : DS) : DS := { S.keepTo S.waits.length with waits := [] }
theorem keepTo_succ (S : DS) {k : Nat} {p : Int × List Int} (h : S.waits[k]? = some p) : S.keepTo (k + 1) = { S.keepTo k with kept := (S.keepTo k).kept.set p.1.toNat p.2, inn := (S.keepTo k).inn.set p.1.toNat true } := by
  unfold DS.keepTo
  rw [take_snoc _ _ _ h, List.foldl_append, List.foldl_append]; rfl
theorem DWf.keep1 {S : DS} (h : DWf S) {p : Int × List Int} (hp : p ∈ S.waits) : DWf { S with kept := S.kept.set p.1.toNat p.2, inn := S.inn.set p.1.toNat true } :=
  ⟨by rw [List.length_set]; exact h.n1, by rw [List.length_set]; exact h.n2, by rw [List.length_set, List.length_set]; exact h.ninn,
   fun r hr => by
    rcases List.mem_or_eq_of_mem_set hr with hr | rfl
    · exact h.rows r hr
    · exact (h.wts p hp).2.2,
   fun q hq => by rw [List.length_set]; exact h.wts q hq, h.room0, h.room1, h.cut0, h.cut1, h.ops3, h.opsr⟩
theorem DWf.keepTo {S : DS} (h : DWf S) (k : Nat) : DWf (S.keepTo k) := by
  induction k with
  | zero => exact h
  | succ k ih =>
    cases hp : S.waits[k]? with
    | none =>
      have : S.keepTo (k + 1) = S.keepTo k := by
        unfold DS.keepTo
        have hl : S.waits.length ≤ k := by
          rcases Nat.lt_or_ge k S.waits.length with hlt | hge
          · rw [List.getElem?_eq_getElem hlt] at hp; cases hp
          · exact hge
        rw [List.take_of_length_le (by omega), List.take_of_length_le (by omega)]
      rw [this]; exact ih
    | some p =>
      rw [keepTo_succ S hp]
      exact ih.keep1 (p := p) (List.mem_of_getElem? hp)
theorem DWf.noWaits {S : DS} (h : DWf S) : DWf { S with waits := [] } :=
  ⟨h.n1, h.n2, h.ninn, h.rows, fun p hp => by simp at hp, h.room0, h.room1, h.cut0, h.cut1, h.ops3, h.opsr⟩

theorem rflush_off (F : Nat → Prop) (w : World) (b : Nat) (S : DS) (h : RD F w b S) (ho : S.off = true) :
    Calls Tryd.prog 42 #[.pointer (some ⟨b, 0, none⟩)] w fun e w' => e = .returned (.int .i64 50) ∧ w' = w := by
  obtain ⟨hwf, kb, ib, ob, ck, ci, spk, spi, vw, kv, ps, h⟩ := h
  have hc5 := h.head.cell (i := 5) rfl
  rw [ho] at hc5
  go_enter Tryd.func42, Tryd.ntmps42
  go_wp2
  go_ret
  exact ⟨rfl, rfl⟩
set_option maxHeartbeats 800000 in
theorem rflush_gone (F : Nat → Prop) (w : World) (b : Nat) (S : DS) (h : RD F w b S) (ho : S.off = false) (hg : (S.goes 2).2 = true) :
    Calls Tryd.prog 42 #[.pointer (some ⟨b, 0, none⟩)] w fun e w' => e = .returned (.int .i64 50) ∧ RD F w' b (S.goes 2).1 ∧ Only F w w' := by
  have hrd := h
  obtain ⟨hwf, kb, ib, ob, ck, ci, spk, spi, vw, kv, ps, h⟩ := h
  have hc5 := h.head.cell (i := 5) rfl
  rw [ho] at hc5
  have Hg := Lib.hid hg
  clear hg ho
  go_enter Tryd.func42, Tryd.ntmps42
  go_wp2_with fail
  refine (rgoes_is F w b S 2 hrd (by omega)).mono ?_
  rintro e w1 ⟨rfl, hr, hO⟩
  rw [Hg.out]
  go_wp2
  go_ret
  exact ⟨rfl, hr, hO⟩
set_option maxRecDepth 100000 in
set_option maxHeartbeats 3200000 in
theorem rflush_in (F : Nat → Prop) (w : World) (b : Nat) (S : DS) (h : RD F w b S) (ho : S.off = false) (hg : (S.goes 2).2 = false) :
    Calls Tryd.prog 42 #[.pointer (some ⟨b, 0, none⟩)] w fun e w' => e = .returned (.int .i64 0) ∧ RD F w' b (S.goes 2).1.flushed ∧ Only F w w' := by
  have hrd := h
  obtain ⟨hwf, kb, ib, ob, ck, ci, spk, spi, vw, kv, ps, h⟩ := h
  have hc5 := h.head.cell (i := 5) rfl
  rw [ho] at hc5
  have Hg := Lib.hid hg
  obtain ⟨S1, hS1⟩ : ∃ S1, S1 = (S.goes 2).1 := ⟨_, rfl⟩
  rw [← hS1]
  have HS1 := Lib.hid hS1
  clear hg ho h hwf hS1
  go_enter Tryd.func42, Tryd.ntmps42
  go_wp2_with fail
  refine (rgoes_is F w b S 2 hrd (by omega)).mono ?_
  rintro e w1 ⟨rfl, hr, hO⟩
  rw [Hg.out]
  rw [← HS1.out] at hr
  clear HS1 Hg
  have hmb : S1.waits.length ≤ 9223372036854775807 := by
    obtain ⟨_, _, _, _, _, _, _, _, _, _, ps1, h1⟩ := hr
    rw [← h1.psn]
    rcases h1.wait with ⟨_, e⟩ | ⟨_, _, _, _, _, h3, h4, _⟩
    · rw [e]; simp
    · simp only [maxLen] at h4; omega
  obtain ⟨m, hm⟩ : ∃ m, m = S1.waits.length := ⟨_, rfl⟩
  have Hm := Lib.hid hm
  rw [← hm] at hmb
  clear hm
  go_wp2_with fail
  go_loopw [3] (fun i wr => ∃ j : Nat, j ≤ m ∧ i = .int .i64 j ∧ RD F wr b (S1.keepTo j) ∧ Only F w wr) (fun i _ => m - (intOf i).toNat)
  case atStart => exact ⟨0, by omega, rfl, hr, hO⟩
  case round =>
    clear hr hO
    obtain ⟨j, hj, rfl, hr, hO⟩ := hrel
    obtain ⟨hwf, kb, ib, ob, ck, ci, spk, spi, vw, kv, ps, h⟩ := hr
    obtain ⟨A, c, rfl, hw⟩ := h.wait.form
    have hc0 := h.head.cell (i := 0) rfl
    have hc1 := h.head.cell (i := 1) rfl
    have hc2 := h.head.cell (i := 2) rfl
    have hpn : ps.length = m := by rw [h.psn, Hm.out]; rfl
    rw [hpn] at hc2
    by_cases hlt : j < m
    · obtain ⟨p, hp⟩ : ∃ p, S1.waits[j]? = some p := ⟨_, List.getElem?_eq_getElem (by rw [← Hm.out]; exact hlt)⟩
      obtain ⟨v, hv, hbv⟩ := h.wrow j p hp
      obtain ⟨g, rfl, hcp, hcv⟩ := hw j _ hv
      obtain ⟨Av, cv, rfl, _, _⟩ := hbv.sl
      obtain ⟨lv, hlv⟩ : ∃ n, n = p.2.length := ⟨_, rfl⟩
      rw [← hlv] at hv hbv hcv
      have hwt := hwf.wts p (List.mem_of_getElem? hp)
      obtain ⟨q, hq⟩ : ∃ q : Nat, (q : Int) = p.1 := ⟨p.1.toNat, by omega⟩
      have hqn : p.1.toNat = q := by omega
      have hql : q < (S1.keepTo j).kept.length := by have := hwt.2.1; omega
      replace hcp : wr.cell? ⟨g, j * 2, none⟩ = some (.int .i64 q) := by rw [hq]; exact hcp
      replace hcv : wr.cell? ⟨g, j * 2 + 1, none⟩ = some (.slice Av lv cv) := hcv
      obtain ⟨vo, hvo⟩ : ∃ vo, kv[q]? = some vo := ⟨_, List.getElem?_eq_getElem (by rw [h.kvn]; exact hql)⟩
      have hco : wr.cell? ⟨kb, q, none⟩ = some vo := h.kept.cell (by rw [List.getElem?_append_left (by rw [h.kvn]; exact hql)]; exact hvo)
      have hfo := h.kept.frozen q
      have h1 := h.upKept q hql (.slice Av lv cv) p.2 hbv
      have hO1 := hO.set (a := ⟨kb, q, none⟩) (Or.inr h.fk) (.slice Av lv cv)
      obtain ⟨w3, hw3⟩ : ∃ w3, w3 = wr.setCell ⟨kb, q, none⟩ (.slice Av lv cv) := ⟨_, rfl⟩
      rw [← hw3] at h1 hO1
      have H1 := Lib.hid h1
      have Hw3 := Lib.hid hw3
      have HO1 := Lib.hid hO1
      have Hnext := Lib.hid (keepTo_succ S1 hp)
      have Hwf := Lib.hid hwf
      have Hq := Lib.hid hq
      obtain ⟨K, hK⟩ : ∃ K, K = (S1.keepTo j).kept.length := ⟨_, rfl⟩
      have hqI : (q : Int) < (K : Int) := by omega
      rw [← hK] at hc0 hc1
      have HK := Lib.hid hK
      have Hqn := Lib.hid hqn
      have Hp := Lib.hid hp
      have Hj := Lib.hid hpn
      clear hp hv hwf hq hK hqn hvo hlv h1 hO1 hw3 hwt hO h hpn hw
      go_wp2
      go_region
      all_goals
        rw [← Hw3.out]
        have h1 := H1.out.keep (w' := w3.drew) (Nat.le_refl _) (fun _ _ => rfl)
        have hO1 := HO1.out.drew
        clear Hw3 hc0 hc1 hc2 hcp hcv hco hfo
        generalize w3.drew = w4 at *
        have hc1' := h1.head.cell (i := 1) rfl
        have hc2' := h1.head.cell (i := 2) rfl
        have hlen : ((S1.keepTo j).kept.set q p.2).length = K := by rw [List.length_set, HK.out]
        have hc1'' : w4.cell? ⟨b, 1, none⟩ = some (.slice (some ⟨ib, 0, none⟩) K ci) := by rw [hc1']; show some (Value.slice _ ((S1.keepTo j).kept.set q p.2).length _) = _; rw [hlen]
        have hc2'' : w4.cell? ⟨b, 2, none⟩ = some (.slice (some ⟨g, 0, none⟩) m c) := by rw [hc2', Hj.out]
        obtain ⟨v3, hv3, _⟩ := h1.wrow j p Hp.out
        obtain ⟨A3, c3, e3, hw3⟩ := h1.wait.form
        obtain ⟨g3, e4, hcp', _⟩ := hw3 j _ hv3
        have e5 : g = g3 := by rw [e4] at e3; injection e3 with e6; injection e6 with e7; injection e7
        subst e5
        replace hcp' : w4.cell? ⟨g, j * 2, none⟩ = some (.int .i64 q) := by rw [Hq.out]; exact hcp'
        obtain ⟨uo, huo⟩ : ∃ u, (S1.keepTo j).inn[q]? = some u := ⟨_, List.getElem?_eq_getElem (by rw [Hwf.out.ninn]; exact hql)⟩
        have hco' : w4.cell? ⟨ib, q, none⟩ = some (.bool uo) := h1.inn.cell (by rw [List.getElem?_append_left (by rw [List.length_map]; show q < (S1.keepTo j).inn.length; rw [Hwf.out.ninn]; exact hql), List.getElem?_map]; show (S1.keepTo j).inn[q]?.map _ = _; rw [huo]; rfl)
        have hfo' := h1.inn.frozen q
        have h2 := h1.upInn (by show (S1.keepTo j).inn.length = ((S1.keepTo j).kept.set q p.2).length; rw [List.length_set, Hwf.out.ninn]) q (by show q < ((S1.keepTo j).kept.set q p.2).length; rw [List.length_set]; exact hql) true
        have hO2 := hO1.set (a := ⟨ib, q, none⟩) (Or.inr h1.fi) (.bool true)
        have hfin := Lib.hid (show RD F (w4.setCell ⟨ib, q, none⟩ (.bool true)) b (S1.keepTo (j + 1)) by
          have h0 := Hwf.out.keep1 (p := p) (List.mem_of_getElem? Hp.out)
          rw [Hqn.out] at h0
          rw [Hnext.out, Hqn.out]
          exact RD.of h0 h2)
        have hO2' := Lib.hid hO2
        obtain ⟨w5, hw5⟩ : ∃ w5, w5 = w4.setCell ⟨ib, q, none⟩ (.bool true) := ⟨_, rfl⟩
        rw [← hw5] at hfin hO2'
        have Hw5 := Lib.hid hw5
        clear hc1' hc2' hlen hv3 e3 hw3 e4 huo h1 hO1 h2 hO2 hw5 H1 HO1
        go_wp2
        go_region
        all_goals
          rw [← Hw5.out]
          have hfin2 := hfin.out.keep (w' := w5.drew) (Nat.le_refl _) (fun _ _ => rfl)
          have hO3 := hO2'.out.drew
          clear Hw5
          generalize w5.drew = w6 at *
          go_wp2
          go_roundw
          case rel => exact ⟨j + 1, by omega, by go_num, hfin2, hO3⟩
          case measure => simp [intOf]; omega
    · obtain rfl : j = m := by omega
      have hf2 := h.head.frozen 2
      have h1 := h.upNone
      have hO1 := Lib.hid (hO.set (a := ⟨b, 2, none⟩) (Or.inr h.fb) (.slice none 0 0))
      have hfin := Lib.hid (show RD F (wr.setCell ⟨b, 2, none⟩ (.slice none 0 0)) b S1.flushed by
        unfold DS.flushed
        rw [← Hm.out]
        exact RD.of hwf.noWaits h1)
      clear h1 hO
      go_wp2
      go_ret
      exact ⟨rfl, hfin.out, hO1.out⟩
end Go.Proofs.YteliebinhdphlaaDoor

/- The document's disk: Write. -/
namespace Go.Proofs.YteliebinhdphlaaDoor
set_option maxRecDepth 100000
open Go.RowKit Go.Deep
set_option linter.unusedSimpArgs false
set_option linter.unusedVariables false

theorem info_piece : (Tryd.prog.info? 135).map (fun i => (i.zero, i.size, i.bytes)) = some (some (.agg #[.int .i64 0, .slice none 0 0]), 2, 32) := by kernel_rfl

theorem rwrite_off (F : Nat → Prop) (w : World) (b : Nat) (S : DS) (n : Int) (A : Option Addr) (m c : Nat) (h : RD F w b S) (ho : S.off = true) :
    Calls Tryd.prog 87 #[.pointer (some ⟨b, 0, none⟩), .int .i64 n, .slice A m c] w fun e w' => e = .returned (.int .i64 50) ∧ w' = w := by
  obtain ⟨hwf, kb, ib, ob, ck, ci, spk, spi, vw, kv, ps, h⟩ := h
  have hc5 := h.head.cell (i := 5) rfl
  rw [ho] at hc5
  go_enter Tryd.func87, Tryd.ntmps87
  go_wp2
  go_ret
  exact ⟨rfl, rfl⟩
set_option maxHeartbeats 800000 in
theorem rwrite_out (F : Nat → Prop) (w : World) (b : Nat) (S : DS) (n : Int) (A : Option Addr) (m c : Nat) (h : RD F w b S) (ho : S.off = false) (hn : n < 0 ∨ (S.kept.length : Int) ≤ n) :
    Calls Tryd.prog 87 #[.pointer (some ⟨b, 0, none⟩), .int .i64 n, .slice A m c] w fun e w' => e = .returned (.int .i64 51) ∧ w' = w := by
  obtain ⟨hwf, kb, ib, ob, ck, ci, spk, spi, vw, kv, ps, h⟩ := h
  have hc5 := h.head.cell (i := 5) rfl
  have hc0 := h.head.cell (i := 0) rfl
  rw [ho] at hc5
  have hn2 := hwf.n2
  obtain ⟨K, hK⟩ : ∃ K, K = S.kept.length := ⟨_, rfl⟩
  rw [← hK] at hc0 hn hn2
  clear hK ho
  by_cases hneg : n < 0
  · go_enter Tryd.func87, Tryd.ntmps87
    go_wp2
    go_ret
    exact ⟨rfl, rfl⟩
  · have hd : decide (n < 0) = false := decide_eq_false hneg
    have hd2 : decide ((K : Int) ≤ n) = true := decide_eq_true (by omega)
    go_enter Tryd.func87, Tryd.ntmps87
    go_wp2
    go_ret
    exact ⟨rfl, rfl⟩
set_option maxHeartbeats 1600000 in
theorem rwrite_full (F : Nat → Prop) (w : World) (b : Nat) (S : DS) (n : Nat) (A : Option Addr) (m c : Nat) (h : RD F w b S) (ho : S.off = false) (hn : n < S.kept.length) (hu : S.isUse n = false) (hf : S.room ≤ (S.used : Int)) :
    Calls Tryd.prog 87 #[.pointer (some ⟨b, 0, none⟩), .int .i64 (n : Int), .slice A m c] w fun e w' => e = .returned (.int .i64 52) ∧ ∃ k, w' = w.drewN k := by
  have hrd := h
  obtain ⟨hwf, kb, ib, ob, ck, ci, spk, spi, vw, kv, ps, h⟩ := h
  have hc5 := h.head.cell (i := 5) rfl
  have hc0 := h.head.cell (i := 0) rfl
  have hc3 := h.head.cell (i := 3) rfl
  rw [ho] at hc5
  have hn2 := hwf.n2
  obtain ⟨K, hK⟩ : ∃ K, K = S.kept.length := ⟨_, rfl⟩
  rw [← hK] at hc0 hn2
  have hnI : (n : Int) < (K : Int) := by omega
  have hd : decide ((n : Int) < 0) = false := decide_eq_false (by omega)
  have hd2 : decide ((K : Int) ≤ (n : Int)) = false := decide_eq_false (by omega)
  obtain ⟨us, hus⟩ : ∃ u : Nat, u = S.used := ⟨_, rfl⟩
  obtain ⟨rm, hrm⟩ : ∃ r, r = S.room := ⟨_, rfl⟩
  rw [← hus, ← hrm] at hf
  rw [← hrm] at hc3
  have hd3 : decide (rm ≤ (us : Int)) = true := decide_eq_true hf
  have His := Lib.hid (fun k => show Calls Tryd.prog 96 #[.pointer (some ⟨b, 0, none⟩), .int .i64 (n : Int)] (w.drewN k) fun e w' => e = .returned (.bool false) ∧ w' = w.drewN k by
    have := ris_is F (w.drewN k) b S n (hrd.keep (Nat.le_refl _) (fun _ _ => rfl)) hn
    rw [hu] at this; exact this)
  have Hus := Lib.hid (fun k => show Calls Tryd.prog 97 #[.pointer (some ⟨b, 0, none⟩)] (w.drewN k) fun e w' => e = .returned (.int .i64 (us : Int)) ∧ w' = w.drewN k by
    have := rused_is F (w.drewN k) b S (hrd.keep (Nat.le_refl _) (fun _ _ => rfl))
    rw [← hus] at this; exact this)
  clear hK ho hu hus hrm hf
  go_enter Tryd.func87, Tryd.ntmps87
  go_wp2
  go_quiet (first | (go_at_call 96; exact Calls.quiet_of_same (His.out _)) | (go_at_call 97; exact Calls.quiet_of_same (Hus.out _)))
  go_wp2
  go_ret
  exact ⟨rfl, _, rfl⟩

/-- A piece is written. -/
def DS.put (S : DS) (n : Nat) (bs : List Int) : DS := { S with waits := S.waits ++ [((n : Int), bs)] }
theorem DWf.put {S : DS} (h : DWf S) {n : Nat} {bs : List Int} (hn : n < S.kept.length) (hb : Byte128 bs) : DWf (S.put n bs) :=
  ⟨h.n1, h.n2, h.ninn, h.rows, fun p hp => by
    rcases List.mem_append.1 hp with hp | hp
    · exact h.wts p hp
    · simp at hp; subst hp
      exact ⟨by show (0 : Int) ≤ (n : Int); omega, by show (n : Int) < (S.kept.length : Int); omega, hb⟩, h.room0, h.room1, h.cut0, h.cut1, h.ops3, h.opsr⟩
theorem info_parts' {P : Program} {t : TypeId} {z : Value} {s n : Nat} (h : (P.info? t).map (fun i => (i.zero, i.size, i.bytes)) = some (some z, s, n)) : ∃ i, P.info? t = some i ∧ i.zero = some z ∧ i.size = s ∧ i.bytes = n := by
  obtain ⟨i, hi, hz⟩ := Option.map_eq_some_iff.1 h
  simp only [Prod.mk.injEq] at hz
  exact ⟨i, hi, hz⟩

/-- Behind the two appends of Write: the disk with the piece that waits. -/
theorem RDAt.upPut {F : Nat → Prop} {w w3 : World} {b : Nat} {S : DS} {kb ib ob ck ci : Nat} {spk spi : List Value} {vw : Value} {kv : List Value} {ps : List (Int × Value)} (h : RDAt F w b S kb ib ob ck ci spk spi vw kv ps)
    {n : Nat} {bs : List Int} {v1 v2 : Value} (hO : Only F w w3) (hsame : ∀ k, F k → vw.ownBlock ≠ some k → w3.heap[k]? = w.heap[k]?)
    (h1 : BRow (More F w w3) w3 v1 bs) (h2 : w3.ownsRow 0 135 2 v2 (ps.length + 1) (flat2 ps ++ [.int .i64 (n : Int), v1])) (h3 : ∀ k, v2.ownBlock = some k → More F w w3 k) :
    RDAt (More F w w3) (w3.setCell ⟨b, 2, none⟩ v2) b (S.put n bs) kb ib ob ck ci spk spi v2 kv (ps ++ [((n : Int), v1)]) := by
  have hvw : ∀ {g : Nat} {t : TypeId} {vs : List Value}, Blk w g t vs → t ≠ 135 → F g → w3.heap[g]? = w.heap[g]? := by
    intro g t vs hb ht hg
    refine hsame g hg ?_
    intro e
    rcases h.wait with ⟨hv, _⟩ | ⟨g2, cap, sp, hv, _, _, _, hb2, _⟩
    · rw [hv] at e; cases e
    · rw [hv] at e
      have e2 : g2 = g := Option.some.inj e
      subst e2
      exact hb.ne hb2 ht rfl
  have hb3 : Blk w3 b 85 _ := h.head.kept (hvw h.head (by decide) h.fb)
  have far : ∀ {g : Nat} {t : TypeId} {vs : List Value}, Blk w3 g t vs → t ≠ 85 → (w3.setCell ⟨b, 2, none⟩ v2).heap[g]? = w3.heap[g]? :=
    fun hb ht => blk_setCell_other _ _ _ _ (hb.ne hb3 ht)
  have old : ∀ {g : Nat} {t : TypeId} {vs : List Value}, Blk w g t vs → t ≠ 135 → t ≠ 85 → F g → Blk (w3.setCell ⟨b, 2, none⟩ v2) g t vs := by
    intro g t vs hb ht ht2 hg
    have hb3 := hb.kept (hvw hb ht hg)
    exact hb3.kept (far hb3 ht2)
  have row : ∀ {v : Value} {xs : List Int}, BRow F w v xs → BRow (More F w w3) (w3.setCell ⟨b, 2, none⟩ v2) v xs := by
    intro v xs ⟨g, cap, sp, e1, e2, e3, e4, e5⟩
    exact ⟨g, cap, sp, e1, Or.inl e2, e3, old e4 (by decide) (by decide) e2, e5⟩
  refine ⟨Or.inl h.fb, Or.inl h.fk, Or.inl h.fi, Or.inl h.fo, hb3.set 2 v2, old h.kept (by decide) (by decide) h.fk, h.kvn, ?_, old h.inn (by decide) (by decide) h.fi, ?_, ?_, ?_, old h.ops (by decide) (by decide) h.fo, ?_⟩
  · intro i xs hi
    obtain ⟨v, e1, e2⟩ := h.krow i xs hi
    exact ⟨v, e1, row e2⟩
  · have e := WRow.of_own (F := More F w w3) (ps := ps ++ [((n : Int), v1)]) (by rw [flat2_snoc]; exact h2) h3
    exact e.kept (fun g _ ⟨vs, hg⟩ => far hg (by decide))
  · show (ps ++ _).length = (S.waits ++ _).length
    simp [h.psn]
  · intro i p hi
    have hi : (S.waits ++ [((n : Int), bs)])[i]? = some p := hi
    by_cases hlt : i < S.waits.length
    · rw [List.getElem?_append_left hlt] at hi
      obtain ⟨v, e1, e2⟩ := h.wrow i p hi
      exact ⟨v, by rw [List.getElem?_append_left (by rw [h.psn]; exact hlt)]; exact e1, row e2⟩
    · rw [List.getElem?_append_right (by omega)] at hi
      have hi0 : i - S.waits.length = 0 := by
        have := (List.getElem?_eq_some_iff.1 hi).1
        simp at this; omega
      rw [hi0] at hi
      simp at hi
      subst hi
      refine ⟨v1, ?_, h1.kept (fun g _ ⟨vs, hg⟩ => far hg (by decide))⟩
      rw [List.getElem?_append_right (by rw [h.psn]; omega), h.psn, hi0]; rfl
  · intro k hk
    rw [nblk_setCell]
    rcases hk with hk | hk
    · exact Nat.lt_of_lt_of_le (h.fin k hk) hO.size
    · exact hk.2
end Go.Proofs.YteliebinhdphlaaDoor

/- The document's disk: Write that writes. -/
namespace Go.Proofs.YteliebinhdphlaaDoor
set_option maxRecDepth 100000
open Go.RowKit Go.Deep
set_option linter.unusedSimpArgs false
set_option linter.unusedVariables false

theorem goes_len (S : DS) (k : Nat) : (S.goes k).1.kept = S.kept ∧ (S.goes k).1.inn = S.inn ∧ (S.goes k).1.waits = S.waits ∧ (S.goes k).1.room = S.room := by
  unfold DS.goes DS.count; split <;> exact ⟨rfl, rfl, rfl, rfl⟩

/-- The error of an operation with which the power goes. -/
def goneErr (p : Bool) : Int := if p then 50 else 0
/-- Write's two appends, step by step: behind the first one (a copy of the bytes), behind the second one (the piece). -/
theorem put_below {w0 w1 : World} {o : Obj} (hg : ((w0.alloc o).drew).grownBy w1 (some w0.heap.size)) : Below w0.heap.size w0 w1 :=
  (((Below.refl w0.heap.size w0).alloc (Nat.le_refl _) o).drew).grown hg (by simp) (fun k hk => by cases hk; exact Nat.le_refl _)
theorem put_only {F : Nat → Prop} {w0 w1 w3 : World} {o : Obj} {r : Option Nat} (hb : Below w0.heap.size w0 w1) (hg : (w1.alloc o).grownBy w3 r) (hr : ∀ k, r = some k → F k) : Only F w0 w3 ∧ ∀ k, k < w0.heap.size → some k ≠ r → w3.heap[k]? = w0.heap[k]? := by
  have key : ∀ k, k < w0.heap.size → some k ≠ r → w3.heap[k]? = w0.heap[k]? := by
    intro k hk hne
    have hk1 : k < w1.heap.size := Nat.lt_of_lt_of_le hk hb.size
    rw [hg.block k (by rw [nblk_alloc]; omega) hne, blk_alloc_lt _ _ _ hk1]
    exact hb.block k hk
  refine ⟨⟨hg.os.trans hb.os, hg.tape.trans hb.tape, hg.output.trans hb.output, ?_, ?_⟩, key⟩
  · have := hg.size; rw [nblk_alloc] at this; have := hb.size; omega
  · intro k hk hn
    exact key k hk (fun e => hn (hr k e.symm))

theorem put_end {F : Nat → Prop} {w0 w1 w3 : World} {b : Nat} {S : DS} {kb ib ob ck ci : Nat} {spk spi : List Value} {vw v2 : Value} {kv : List Value} {ps : List (Int × Value)} (h : RDAt F w0 b S kb ib ob ck ci spk spi vw kv ps)
    {n g1 cap1 : Nat} {bs : List Int} (hlen : bs.length = 128) (hb : Below w0.heap.size w0 w1) (hg1 : w0.heap.size ≤ g1) (hown1 : w1.ownsRow 0 5 1 (.slice (some ⟨g1, 0, none⟩) 128 cap1) 128 (u8s bs))
    (hg2 : (w1.alloc (.cells #[.int .i64 (n : Int), .slice (some ⟨g1, 0, none⟩) 128 cap1] 135)).grownBy w3 vw.ownBlock)
    (hown2 : w3.ownsRow 0 135 2 v2 (ps.length + 1) (flat2 ps ++ [.int .i64 (n : Int), .slice (some ⟨g1, 0, none⟩) 128 cap1]))
    (hat2 : ∀ k, v2.ownBlock = some k → (vw.ownBlock = some k ∨ w0.heap.size ≤ k)) :
    Only F w0 w3 ∧ RDAt (More F w0 w3) (w3.setCell ⟨b, 2, none⟩ v2) b (S.put n bs) kb ib ob ck ci spk spi v2 kv (ps ++ [((n : Int), .slice (some ⟨g1, 0, none⟩) 128 cap1)]) := by
  have hvF : ∀ k, vw.ownBlock = some k → F k := by
    intro k hk
    rcases h.wait with ⟨e, _⟩ | ⟨g, cap, sp, e, hF, _⟩
    · rw [e] at hk; cases hk
    · rw [e] at hk; cases hk; exact hF
  obtain ⟨hO, hsame⟩ := put_only hb hg2 hvF
  refine ⟨hO, h.upPut hO (fun k hk hne => hsame k (h.fin k hk) (fun e => hne e.symm)) ?_ hown2 ?_⟩
  · have hr1 : BRow (fun k => k = g1) w1 (.slice (some ⟨g1, 0, none⟩) 128 cap1) bs := BRow.of_own hown1 (by omega) (fun k hk => by cases hk; rfl)
    obtain ⟨g, cap, sp, e1, e2, e3, e4, e5⟩ := hr1
    subst e2
    have hl1 := e4.lt
    have hne : some g ≠ vw.ownBlock := by
      intro e
      have := h.fin g (hvF g e.symm)
      omega
    refine ⟨g, cap, sp, e1, Or.inr ⟨hg1, ?_⟩, e3, e4.kept ?_, e5⟩
    · have := hg2.size; rw [nblk_alloc] at this; omega
    · rw [hg2.block g (by rw [nblk_alloc]; omega) hne, blk_alloc_lt _ _ _ hl1]
  · intro k hk
    have hlt := (hown2.lt k hk).2
    rcases hat2 k hk with h1 | h1
    · exact Or.inl (hvF k h1)
    · exact Or.inr ⟨h1, hlt⟩

set_option maxRecDepth 100000 in
set_option maxHeartbeats 6400000 in
theorem rwrite_in (F : Nat → Prop) (w : World) (b : Nat) (S : DS) (n : Nat) (A : Option Addr) (c : Nat) (bs : List Int) (h : RD F w b S) (ho : S.off = false) (hn : n < S.kept.length) (hu : S.isUse n = true ∨ (S.used : Int) < S.room)
    (hmany : S.waits.length ≤ 1000000) (hx : Sl w A 128 (u8s bs)) (hbs : Byte128 bs) :
    Calls Tryd.prog 87 #[.pointer (some ⟨b, 0, none⟩), .int .i64 (n : Int), .slice A 128 c] w fun e w' => e = .returned (.int .i64 (goneErr ((S.put n bs).goes 1).2)) ∧ RD (More F w w') w' b ((S.put n bs).goes 1).1 ∧ Only F w w' := by
  have hrd := h
  obtain ⟨hwf, kb, ib, ob, ck, ci, spk, spi, vw, kv, ps, h⟩ := h
  have hc5 := h.head.cell (i := 5) rfl
  have hc0 := h.head.cell (i := 0) rfl
  have hc2 := h.head.cell (i := 2) rfl
  have hc3 := h.head.cell (i := 3) rfl
  have hf2 := h.head.frozen 2
  have hblt := h.head.lt
  rw [ho] at hc5
  have hn2 := hwf.n2
  obtain ⟨K, hK⟩ : ∃ K, K = S.kept.length := ⟨_, rfl⟩
  rw [← hK] at hc0 hn2
  have hnI : (n : Int) < (K : Int) := by omega
  have hd : decide ((n : Int) < 0) = false := decide_eq_false (by omega)
  have hd2 : decide ((K : Int) ≤ (n : Int)) = false := decide_eq_false (by omega)
  obtain ⟨us, hus⟩ : ∃ u : Nat, u = S.used := ⟨_, rfl⟩
  obtain ⟨rm, hrm⟩ : ∃ r, r = S.room := ⟨_, rfl⟩
  rw [← hrm] at hc3
  rw [← hus, ← hrm] at hu
  have Hus := Lib.hid (fun k => show Calls Tryd.prog 97 #[.pointer (some ⟨b, 0, none⟩)] (w.drewN k) fun e w' => e = .returned (.int .i64 (us : Int)) ∧ w' = w.drewN k by
    have := rused_is F (w.drewN k) b S (hrd.keep (Nat.le_refl _) (fun _ _ => rfl))
    rw [← hus] at this; exact this)
  obtain ⟨ad, hA⟩ : ∃ ad, A = some ad := by
    obtain ⟨ad, _, e, _⟩ := hx.num (k := 0) (by omega)
    exact ⟨ad, e⟩
  subst hA
  have Hnews := Lib.hid (fun j u (hj : (u8s bs)[j]? = some u) => show w.cell? (ad.add j) = some u by
    obtain ⟨ad', e, hc⟩ := hx.2 j u hj
    cases e; exact hc)
  have Hone := Lib.hid (show ∀ u ∈ u8s bs, u.oneCell' = true by
    intro u hu
    obtain ⟨x, _, rfl⟩ := List.mem_map.1 hu
    rfl)
  have Hlen := Lib.hid (show (u8s bs).length = 128 * 1 by simp [hbs.1])
  obtain ⟨i8, hi8, hz8, hs8, hb8⟩ := info_parts' info_u8
  obtain ⟨ip, hip, hzp, hsp, hbp⟩ := info_parts' info_piece
  have Hwait := Lib.hid h.wait
  have Hh := Lib.hid h
  have Hps := Lib.hid h.psn
  have hpsl : ps.length ≤ 1000000 := by rw [h.psn]; exact hmany
  have Hwf := Lib.hid hwf
  have Hbs := Lib.hid hbs
  have Hn := Lib.hid (show n < S.kept.length from hn)
  cases hiu : S.isUse (n : Int)
  · have hlt : (us : Int) < rm := by rcases hu with h1 | h1; rw [h1] at hiu; cases hiu; exact h1
    have hd3 : decide (rm ≤ (us : Int)) = false := decide_eq_false (by omega)
    have His := Lib.hid (fun k => show Calls Tryd.prog 96 #[.pointer (some ⟨b, 0, none⟩), .int .i64 (n : Int)] (w.drewN k) fun e w' => e = .returned (.bool false) ∧ w' = w.drewN k by
      have := ris_is F (w.drewN k) b S n (hrd.keep (Nat.le_refl _) (fun _ _ => rfl)) hn
      rw [hiu] at this; exact this)
    clear hK ho hu hus hrm hiu hlt h hwf hbs hx hmany hn
    go_enter Tryd.func87, Tryd.ntmps87
    go_wp2
    go_quiet (first | (go_at_call 96; exact Calls.quiet_of_same (His.out _)) | (go_at_call 97; exact Calls.quiet_of_same (Hus.out _)))
    clear His Hus
    go_wp2
    obtain ⟨w0, hw0⟩ : ∃ w0, w0 = w.drewN nq := ⟨_, rfl⟩
    have h0 := Hh.out.keep (w' := w0) (by rw [hw0]; exact Nat.le_refl _) (fun k _ => by rw [hw0]; rfl)
    have HO0 := Lib.hid (show Only F w w0 by rw [hw0]; exact (Only.refl F w).drewN nq)
    have hsz0 : w0.heap.size = w.heap.size := by rw [hw0]; rfl
    have Hsz0 := Lib.hid hsz0
    have Hheap := Lib.hid (show w0.heap = w.heap by rw [hw0]; rfl)
    have hblt0 : b < w0.heap.size := by rw [hsz0]; exact hblt
    have hcW0 : w0.drew.cell? ⟨b, 2, none⟩ = some vw := h0.head.cell (i := 2) rfl
    have hfW0 : w0.drew.frozen? ⟨b, 2, none⟩ = false := h0.head.frozen 2
    have hW1 := (h0.head.alloc (.cells #[] 5)).drew
    have hcW1 : ((w0.alloc (.cells #[] 5)).drew).cell? ⟨b, 2, none⟩ = some vw := hW1.cell (i := 2) rfl
    have hown0 : ((w0.alloc (.cells #[] 5)).drew).ownsRow 0 5 1 (.slice (some ⟨w0.heap.size, 0, none⟩) 0 0) 0 [] := (World.ownsRow_made (base := 0) (e := 5) (size := 1) w0 #[] 0 (Nat.zero_le _) (by decide) rfl).drew
    have hnews0 : ∀ (j : Nat) (u : Value), (u8s bs)[j]? = some u → ((w0.alloc (.cells #[] 5)).drew).cell? (ad.add j) = some u := by
      intro j u hj
      have hc := Hnews.out j u hj
      show (w0.alloc (.cells #[] 5)).cell? (ad.add j) = some u
      rw [World.cell?_alloc_lt _ _ _ (by rw [hsz0]; exact World.block_lt_of_cell? w _ hc)]
      rw [hw0]; exact hc
    have H0 := Lib.hid h0
    have Hown0 := Lib.hid hown0
    have Hnews0 := Lib.hid hnews0
    rw [← hw0]
    clear hw0 h0 hW1 hown0 hnews0 hsz0 hc0 hc2 hc3 hc5 hf2
    go_region_law (first
      | (refine step_append_lies _ rfl (.tmp 41) (.tmp 42) 22 rfl 0 5 i8 (.int .u8 0) 1 1 Tryd.underlying22 hi8 hz8 hs8 hb8 rfl (by decide) (.slice (some ⟨w0.heap.size, 0, none⟩) 0 0) 0 [] (by simp [Act.eval, Act.put]) Hown0.out ad 128 c (u8s bs) (by simp [Act.eval, Act.put]) Hlen.out Hnews0.out Hone.out (by omega) (by decide) (by omega) (Nat.zero_le _) _ rfl ?_
         intro g1 cap1 w1 hown1 hg1 hat1 hlt1
         have hown1 : w1.ownsRow 0 5 1 (.slice (some ⟨g1, 0, none⟩) 128 cap1) 128 (u8s bs) := hown1
         have hb1 := put_below hg1
         have hg1' : w0.heap.size ≤ g1 := by
           rcases hat1 with e | e
           · exact Nat.le_of_eq (Option.some.inj e)
           · rw [e]; show w0.heap.size ≤ (w0.alloc _).heap.size; rw [nblk_alloc]; exact Nat.le_succ _
         have h01 := H0.out.head.kept (hb1.block b hblt0)
         have hcw1 : w1.cell? ⟨b, 2, none⟩ = some vw := h01.cell (i := 2) rfl
         have hcW2 : (w1.alloc (.cells #[.int .i64 (n : Int), .slice (some ⟨g1, 0, none⟩) 128 cap1] 135)).cell? ⟨b, 2, none⟩ = some vw := (h01.alloc _).cell (i := 2) rfl
         have hwt := (Hwait.out.kept (w' := w1.alloc (.cells #[.int .i64 (n : Int), .slice (some ⟨g1, 0, none⟩) 128 cap1] 135)) (fun g hg _ => by
           have hgl : g < w0.heap.size := H0.out.fin g hg
           rw [blk_alloc_lt _ _ _ (Nat.lt_of_lt_of_le hgl hb1.size), hb1.block g hgl]
           exact (by rw [show w0.heap = w.heap from Hheap.out]))).own
         have Hwt := Lib.hid hwt
         have Hown1 := Lib.hid hown1
         have Hb1 := Lib.hid hb1
         clear hwt hown1 hb1 h01 hat1 hg1)
      | (refine step_append_lies _ rfl (.tmp 39) (.tmp 45) 82 rfl 0 135 ip (.agg #[.int .i64 0, .slice none 0 0]) 2 32 Tryd.underlying82 hip hzp hsp hbp rfl (by decide) vw ps.length (flat2 ps) (by simp [Act.eval, Act.put]) Hwt.out ⟨w1.heap.size, 0, none⟩ 1 1 [.int .i64 (n : Int), .slice (some ⟨g1, 0, none⟩) 128 cap1] (by simp [Act.eval, Act.put]) rfl (World.news_of_block (cs := #[.int .i64 (n : Int), .slice (some ⟨g1, 0, none⟩) 128 cap1]) (heap_alloc_new w1 _)) (by intro u hu; simp at hu; rcases hu with rfl | rfl <;> rfl) (by omega) (by simp only [maxLen]; omega) (by omega) (Nat.zero_le _) _ rfl ?_
         intro g2 cap2 w3 hown2 hg2 hat2 hlt2
         obtain ⟨hO3, hend⟩ := put_end H0.out (n := n) Hbs.out.1 Hb1.out hg1' Hown1.out hg2 hown2 (fun k hk => by
           cases hk
           rcases hat2 with e | e
           · exact Or.inl e
           · right; subst e; show w0.heap.size ≤ (w1.alloc _).heap.size; rw [nblk_alloc]; exact Nat.le_succ_of_le Hb1.out.size)
         have hbne : some b ≠ vw.ownBlock := by
           rcases Hwait.out with ⟨e, _⟩ | ⟨g, _, _, e, _, _, _, hbk, _⟩
           · rw [e]; intro e2; cases e2
           · rw [e]; intro e2
             have e3 : b = g := Option.some.inj e2
             subst e3
             exact (Hh.out.head.ne hbk (by decide)) rfl
         have h03 := H0.out.head.kept ((hg2.block b (by rw [nblk_alloc]; exact Nat.lt_succ_of_lt (Nat.lt_of_lt_of_le hblt0 Hb1.out.size)) hbne).trans ((blk_alloc_lt _ _ _ (Nat.lt_of_lt_of_le hblt0 Hb1.out.size)).trans (Hb1.out.block b hblt0)))
         have hcw3 : w3.cell? ⟨b, 2, none⟩ = some vw := h03.cell (i := 2) rfl
         have hfw3 : w3.frozen? ⟨b, 2, none⟩ = false := h03.frozen 2
         have HO3 := Lib.hid hO3
         have Hend := Lib.hid hend
         clear hO3 hend h03 hg2 hat2 hown2))
    all_goals
      obtain ⟨w4, hw4⟩ : ∃ w4, w4 = w3.setCell ⟨b, 2, none⟩ (.slice (some ⟨g2, 0, none⟩) (ps.length + 1) cap2) := ⟨_, rfl⟩
      have hrd4 : RD (More F w0 w3) w4 b (S.put n bs) := by rw [hw4]; exact RD.of (Hwf.out.put Hn.out Hbs.out) Hend.out
      have hO4 : Only F w0 w4 := by rw [hw4]; exact HO3.out.set (Or.inr H0.out.fb) _
      have hs34 : w4.heap.size = w3.heap.size := by rw [hw4, nblk_setCell]
      rw [← hw4]
      clear hw4 HO3 Hend hcw3 hfw3 hbne hlt2 Hwt hcW2 hcw1
      go_wp2_with fail
      refine (rgoes_is (More F w0 w3) w4 b (S.put n bs) 1 hrd4 (by omega)).mono ?_
      rintro e w5 ⟨rfl, hrd5, hO5⟩
      have hs5 := hO5.size
      have hfin : RD (More F w w5) w5 b ((S.put n bs).goes 1).1 := by
        obtain ⟨h1, h2⟩ := hrd5
        exact RD.mono ⟨h1, h2⟩ (fun k hk hf => by
          rcases hf with hf | hf
          · exact Or.inl hf
          · right; have := Hsz0.out; omega) (fun k hk => by
          rcases hk with hk | hk
          · exact Nat.lt_of_lt_of_le (H0.out.fin k hk) (Nat.le_trans hO4.size hs5)
          · exact hk.2)
      have hOfin : Only F w w5 := (HO0.out.trans hO4 (fun _ _ h => h)).trans hO5 (fun k hk hf => by
        rcases hf with hf | hf
        · exact hf
        · have := Hsz0.out; omega)
      cases hgone : ((S.put n bs).goes 1).2
      · have hr := Lib.hid (show (0 : Int) = goneErr ((S.put n bs).goes 1).2 by rw [hgone]; rfl)
        clear hgone
        go_wp2
        go_ret
        exact ⟨ret_int hr.out, hfin, hOfin⟩
      · have hr := Lib.hid (show (50 : Int) = goneErr ((S.put n bs).goes 1).2 by rw [hgone]; rfl)
        clear hgone
        go_wp2
        go_ret
        exact ⟨ret_int hr.out, hfin, hOfin⟩
  · have His := Lib.hid (fun k => show Calls Tryd.prog 96 #[.pointer (some ⟨b, 0, none⟩), .int .i64 (n : Int)] (w.drewN k) fun e w' => e = .returned (.bool true) ∧ w' = w.drewN k by
      have := ris_is F (w.drewN k) b S n (hrd.keep (Nat.le_refl _) (fun _ _ => rfl)) hn
      rw [hiu] at this; exact this)
    clear hK ho hu hus hrm hiu h hwf hbs hx hmany hn
    go_enter Tryd.func87, Tryd.ntmps87
    go_wp2
    go_quiet (first | (go_at_call 96; exact Calls.quiet_of_same (His.out _)) | (go_at_call 97; exact Calls.quiet_of_same (Hus.out _)))
    clear His Hus
    go_wp2
    obtain ⟨w0, hw0⟩ : ∃ w0, w0 = w.drewN nq := ⟨_, rfl⟩
    have h0 := Hh.out.keep (w' := w0) (by rw [hw0]; exact Nat.le_refl _) (fun k _ => by rw [hw0]; rfl)
    have HO0 := Lib.hid (show Only F w w0 by rw [hw0]; exact (Only.refl F w).drewN nq)
    have hsz0 : w0.heap.size = w.heap.size := by rw [hw0]; rfl
    have Hsz0 := Lib.hid hsz0
    have Hheap := Lib.hid (show w0.heap = w.heap by rw [hw0]; rfl)
    have hblt0 : b < w0.heap.size := by rw [hsz0]; exact hblt
    have hcW0 : w0.drew.cell? ⟨b, 2, none⟩ = some vw := h0.head.cell (i := 2) rfl
    have hfW0 : w0.drew.frozen? ⟨b, 2, none⟩ = false := h0.head.frozen 2
    have hW1 := (h0.head.alloc (.cells #[] 5)).drew
    have hcW1 : ((w0.alloc (.cells #[] 5)).drew).cell? ⟨b, 2, none⟩ = some vw := hW1.cell (i := 2) rfl
    have hown0 : ((w0.alloc (.cells #[] 5)).drew).ownsRow 0 5 1 (.slice (some ⟨w0.heap.size, 0, none⟩) 0 0) 0 [] := (World.ownsRow_made (base := 0) (e := 5) (size := 1) w0 #[] 0 (Nat.zero_le _) (by decide) rfl).drew
    have hnews0 : ∀ (j : Nat) (u : Value), (u8s bs)[j]? = some u → ((w0.alloc (.cells #[] 5)).drew).cell? (ad.add j) = some u := by
      intro j u hj
      have hc := Hnews.out j u hj
      show (w0.alloc (.cells #[] 5)).cell? (ad.add j) = some u
      rw [World.cell?_alloc_lt _ _ _ (by rw [hsz0]; exact World.block_lt_of_cell? w _ hc)]
      rw [hw0]; exact hc
    have H0 := Lib.hid h0
    have Hown0 := Lib.hid hown0
    have Hnews0 := Lib.hid hnews0
    rw [← hw0]
    clear hw0 h0 hW1 hown0 hnews0 hsz0 hc0 hc2 hc3 hc5 hf2
    go_region_law (first
      | (refine step_append_lies _ rfl (.tmp 41) (.tmp 42) 22 rfl 0 5 i8 (.int .u8 0) 1 1 Tryd.underlying22 hi8 hz8 hs8 hb8 rfl (by decide) (.slice (some ⟨w0.heap.size, 0, none⟩) 0 0) 0 [] (by simp [Act.eval, Act.put]) Hown0.out ad 128 c (u8s bs) (by simp [Act.eval, Act.put]) Hlen.out Hnews0.out Hone.out (by omega) (by decide) (by omega) (Nat.zero_le _) _ rfl ?_
         intro g1 cap1 w1 hown1 hg1 hat1 hlt1
         have hown1 : w1.ownsRow 0 5 1 (.slice (some ⟨g1, 0, none⟩) 128 cap1) 128 (u8s bs) := hown1
         have hb1 := put_below hg1
         have hg1' : w0.heap.size ≤ g1 := by
           rcases hat1 with e | e
           · exact Nat.le_of_eq (Option.some.inj e)
           · rw [e]; show w0.heap.size ≤ (w0.alloc _).heap.size; rw [nblk_alloc]; exact Nat.le_succ _
         have h01 := H0.out.head.kept (hb1.block b hblt0)
         have hcw1 : w1.cell? ⟨b, 2, none⟩ = some vw := h01.cell (i := 2) rfl
         have hcW2 : (w1.alloc (.cells #[.int .i64 (n : Int), .slice (some ⟨g1, 0, none⟩) 128 cap1] 135)).cell? ⟨b, 2, none⟩ = some vw := (h01.alloc _).cell (i := 2) rfl
         have hwt := (Hwait.out.kept (w' := w1.alloc (.cells #[.int .i64 (n : Int), .slice (some ⟨g1, 0, none⟩) 128 cap1] 135)) (fun g hg _ => by
           have hgl : g < w0.heap.size := H0.out.fin g hg
           rw [blk_alloc_lt _ _ _ (Nat.lt_of_lt_of_le hgl hb1.size), hb1.block g hgl]
           exact (by rw [show w0.heap = w.heap from Hheap.out]))).own
         have Hwt := Lib.hid hwt
         have Hown1 := Lib.hid hown1
         have Hb1 := Lib.hid hb1
         clear hwt hown1 hb1 h01 hat1 hg1)
      | (refine step_append_lies _ rfl (.tmp 39) (.tmp 45) 82 rfl 0 135 ip (.agg #[.int .i64 0, .slice none 0 0]) 2 32 Tryd.underlying82 hip hzp hsp hbp rfl (by decide) vw ps.length (flat2 ps) (by simp [Act.eval, Act.put]) Hwt.out ⟨w1.heap.size, 0, none⟩ 1 1 [.int .i64 (n : Int), .slice (some ⟨g1, 0, none⟩) 128 cap1] (by simp [Act.eval, Act.put]) rfl (World.news_of_block (cs := #[.int .i64 (n : Int), .slice (some ⟨g1, 0, none⟩) 128 cap1]) (heap_alloc_new w1 _)) (by intro u hu; simp at hu; rcases hu with rfl | rfl <;> rfl) (by omega) (by simp only [maxLen]; omega) (by omega) (Nat.zero_le _) _ rfl ?_
         intro g2 cap2 w3 hown2 hg2 hat2 hlt2
         obtain ⟨hO3, hend⟩ := put_end H0.out (n := n) Hbs.out.1 Hb1.out hg1' Hown1.out hg2 hown2 (fun k hk => by
           cases hk
           rcases hat2 with e | e
           · exact Or.inl e
           · right; subst e; show w0.heap.size ≤ (w1.alloc _).heap.size; rw [nblk_alloc]; exact Nat.le_succ_of_le Hb1.out.size)
         have hbne : some b ≠ vw.ownBlock := by
           rcases Hwait.out with ⟨e, _⟩ | ⟨g, _, _, e, _, _, _, hbk, _⟩
           · rw [e]; intro e2; cases e2
           · rw [e]; intro e2
             have e3 : b = g := Option.some.inj e2
             subst e3
             exact (Hh.out.head.ne hbk (by decide)) rfl
         have h03 := H0.out.head.kept ((hg2.block b (by rw [nblk_alloc]; exact Nat.lt_succ_of_lt (Nat.lt_of_lt_of_le hblt0 Hb1.out.size)) hbne).trans ((blk_alloc_lt _ _ _ (Nat.lt_of_lt_of_le hblt0 Hb1.out.size)).trans (Hb1.out.block b hblt0)))
         have hcw3 : w3.cell? ⟨b, 2, none⟩ = some vw := h03.cell (i := 2) rfl
         have hfw3 : w3.frozen? ⟨b, 2, none⟩ = false := h03.frozen 2
         have HO3 := Lib.hid hO3
         have Hend := Lib.hid hend
         clear hO3 hend h03 hg2 hat2 hown2))
    all_goals
      obtain ⟨w4, hw4⟩ : ∃ w4, w4 = w3.setCell ⟨b, 2, none⟩ (.slice (some ⟨g2, 0, none⟩) (ps.length + 1) cap2) := ⟨_, rfl⟩
      have hrd4 : RD (More F w0 w3) w4 b (S.put n bs) := by rw [hw4]; exact RD.of (Hwf.out.put Hn.out Hbs.out) Hend.out
      have hO4 : Only F w0 w4 := by rw [hw4]; exact HO3.out.set (Or.inr H0.out.fb) _
      have hs34 : w4.heap.size = w3.heap.size := by rw [hw4, nblk_setCell]
      rw [← hw4]
      clear hw4 HO3 Hend hcw3 hfw3 hbne hlt2 Hwt hcW2 hcw1
      go_wp2_with fail
      refine (rgoes_is (More F w0 w3) w4 b (S.put n bs) 1 hrd4 (by omega)).mono ?_
      rintro e w5 ⟨rfl, hrd5, hO5⟩
      have hs5 := hO5.size
      have hfin : RD (More F w w5) w5 b ((S.put n bs).goes 1).1 := by
        obtain ⟨h1, h2⟩ := hrd5
        exact RD.mono ⟨h1, h2⟩ (fun k hk hf => by
          rcases hf with hf | hf
          · exact Or.inl hf
          · right; have := Hsz0.out; omega) (fun k hk => by
          rcases hk with hk | hk
          · exact Nat.lt_of_lt_of_le (H0.out.fin k hk) (Nat.le_trans hO4.size hs5)
          · exact hk.2)
      have hOfin : Only F w w5 := (HO0.out.trans hO4 (fun _ _ h => h)).trans hO5 (fun k hk hf => by
        rcases hf with hf | hf
        · exact hf
        · have := Hsz0.out; omega)
      cases hgone : ((S.put n bs).goes 1).2
      · have hr := Lib.hid (show (0 : Int) = goneErr ((S.put n bs).goes 1).2 by rw [hgone]; rfl)
        clear hgone
        go_wp2
        go_ret
        exact ⟨ret_int hr.out, hfin, hOfin⟩
      · have hr := Lib.hid (show (50 : Int) = goneErr ((S.put n bs).goes 1).2 by rw [hgone]; rfl)
        clear hgone
        go_wp2
        go_ret
        exact ⟨ret_int hr.out, hfin, hOfin⟩
end Go.Proofs.YteliebinhdphlaaDoor

/- The document's disk: Crash. -/
namespace Go.Proofs.YteliebinhdphlaaDoor
set_option maxRecDepth 100000
open Go.RowKit Go.Deep
set_option linter.unusedSimpArgs false
set_option linter.unusedVariables false

/-- How many bytes of piece i are kept. -/
def cutAt (cs : List Int) (i : Nat) : Nat := min (cs.getD i 0).toNat 128
/-- Of a piece the first c bytes are kept. -/
def DS.crash1 (S : DS) (p : Int × List Int) (c : Nat) : DS :=
  if c = 0 then S else { S with kept := S.kept.set p.1.toNat (p.2.take c ++ (S.kept.getD p.1.toNat []).drop c), inn := S.inn.set p.1.toNat true }
def DS.crashTo (S : DS) (cs : List Int) : Nat → DS
  | 0 => S
  | k + 1 => match S.waits[k]? with
    | some p => (S.crashTo cs k).crash1 p (cutAt cs k)
    | none => S.crashTo cs k
def DS.crashed (S : DS) (cs : List Int) : DS := { S.crashTo cs S.waits.length with waits := [], cut := -1, off := false }

theorem crash1_same (S : DS) (p : Int × List Int) (c : Nat) : (S.crash1 p c).waits = S.waits ∧ (S.crash1 p c).kept.length = S.kept.length ∧ (S.crash1 p c).room = S.room ∧ (S.crash1 p c).ops = S.ops := by
  unfold DS.crash1; split <;> simp
theorem crashTo_same (S : DS) (cs : List Int) (k : Nat) : (S.crashTo cs k).waits = S.waits ∧ (S.crashTo cs k).kept.length = S.kept.length := by
  induction k with
  | zero => exact ⟨rfl, rfl⟩
  | succ k ih =>
    unfold DS.crashTo
    split
    · rw [(crash1_same _ _ _).1, (crash1_same _ _ _).2.1]; exact ih
    · exact ih
theorem crashTo_succ {S : DS} {cs : List Int} {k : Nat} {p : Int × List Int} (h : S.waits[k]? = some p) : S.crashTo cs (k + 1) = (S.crashTo cs k).crash1 p (cutAt cs k) := by
  rw [DS.crashTo, h]
theorem byte128_torn {a b : List Int} {c : Nat} (ha : Byte128 a) (hb : Byte128 b) (hc : c ≤ 128) : Byte128 (a.take c ++ b.drop c) :=
  ⟨by rw [List.length_append, List.length_take, List.length_drop, ha.1, hb.1]; omega, fun x hx => by
    rcases List.mem_append.1 hx with hx | hx
    · exact ha.2 x (List.mem_of_mem_take hx)
    · exact hb.2 x (List.mem_of_mem_drop hx)⟩
theorem DWf.crash1 {S : DS} (h : DWf S) {p : Int × List Int} (hp : p ∈ S.waits) {c : Nat} (hc : c ≤ 128) : DWf (S.crash1 p c) := by
  unfold DS.crash1
  split
  · exact h
  · have hpp := h.wts p hp
    have hl : p.1.toNat < S.kept.length := by omega
    refine ⟨by rw [List.length_set]; exact h.n1, by rw [List.length_set]; exact h.n2, by rw [List.length_set, List.length_set]; exact h.ninn, ?_, fun q hq => by rw [List.length_set]; exact h.wts q hq, h.room0, h.room1, h.cut0, h.cut1, h.ops3, h.opsr⟩
    intro r hr
    rcases List.mem_or_eq_of_mem_set hr with hr | rfl
    · exact h.rows r hr
    · refine byte128_torn hpp.2.2 ?_ hc
      rw [show S.kept.getD p.1.toNat [] = S.kept[p.1.toNat] by simp [List.getD, hl]]
      exact h.rows _ (List.getElem_mem hl)
theorem cutAt_le (cs : List Int) (i : Nat) : cutAt cs i ≤ 128 := Nat.min_le_right _ _

/-- Behind Crash's two appends: the row of a torn sector. -/
theorem torn_row {w2 : World} {base n : Nat} {v2 : Value} {row : List Int} (h : w2.ownsRow base 5 1 v2 n (u8s row)) (hn : n = 128) (hl : row.length = 128) : BRow (fun k => base ≤ k ∧ k < w2.heap.size) w2 v2 row := by
  refine BRow.of_own h (by omega) ?_
  intro k hk
  exact h.lt k hk

theorem crash1_pos (S : DS) (p : Int × List Int) {c q : Nat} (hc : c ≠ 0) (hq : p.1.toNat = q) : S.crash1 p c = { S with kept := S.kept.set q (p.2.take c ++ (S.kept.getD q []).drop c), inn := S.inn.set q true } := by
  unfold DS.crash1; rw [if_neg hc, hq]
/-- Behind the two appends of Crash and the stores: the disk of which one more piece is kept, in part. -/
theorem torn_end {F : Nat → Prop} {w wd w2 : World} {b : Nat} {S : DS} {kb ib ob ck ci : Nat} {spk spi : List Value} {vw v2 : Value} {kv : List Value} {ps : List (Int × Value)} (h : RDAt (More F w wd) wd b S kb ib ob ck ci spk spi vw kv ps)
    (hws : w.heap.size ≤ wd.heap.size) (hF : ∀ k, F k → k < w.heap.size) {q n2 : Nat} {row : List Int} (hq : q < S.kept.length) (hb : Below wd.heap.size wd w2) (hown : w2.ownsRow wd.heap.size 5 1 v2 n2 (u8s row)) (hn2 : n2 = 128) (hrow : row.length = 128) :
    RDAt (More F w w2) (w2.setCell ⟨kb, q, none⟩ v2) b { S with kept := S.kept.set q row } kb ib ob ck ci spk spi vw (kv.set q v2) ps := by
  have h1 := (h.keep (w' := w2) hb.size (fun k hk => hb.block k (h.fin k hk))).mono (G := More F w w2) (fun k _ hf => by
    rcases hf with hf | hf
    · exact Or.inl hf
    · exact Or.inr ⟨hf.1, Nat.lt_of_lt_of_le hf.2 hb.size⟩) (fun k hk => by
    rcases hk with hk | hk
    · exact Nat.lt_of_lt_of_le (hF k hk) (Nat.le_trans hws hb.size)
    · exact hk.2)
  exact h1.upKept q hq v2 row ((torn_row hown hn2 hrow).mono (fun k _ hk => Or.inr ⟨Nat.le_trans hws hk.1, hk.2⟩))

set_option maxRecDepth 100000 in
set_option maxHeartbeats 6400000 in
theorem rcrash_is (F : Nat → Prop) (w : World) (b : Nat) (S : DS) (A : Option Addr) (n c : Nat) (cs : List Int) (h : RD F w b S) (hx : Sl w A n (u8s cs)) (hcs : ∀ x ∈ cs, 0 ≤ x ∧ x < 256) (hn : n ≤ 9223372036854775807) (hxF : ∀ ad, A = some ad → 0 < n → ¬ F ad.block) :
    Calls Tryd.prog 45 #[.pointer (some ⟨b, 0, none⟩), .slice A n c] w fun e w' => e = .returned (.tuple #[]) ∧ RD (More F w w') w' b (S.crashed cs) ∧ Only F w w' := by
  have hln : cs.length = n := by simpa using hx.1
  have hrd0 : RD (More F w w) w b S := h.mono (fun k _ hf => Or.inl hf) (fun k hk => h.fin (More.same hk))
  obtain ⟨i8, hi8, hz8, hs8, hb8⟩ := info_parts' info_u8
  have hmb : S.waits.length ≤ 9223372036854775807 := by
    obtain ⟨_, _, _, _, _, _, _, _, _, _, ps1, h1⟩ := h
    rw [← h1.psn]
    rcases h1.wait with ⟨_, e⟩ | ⟨_, _, _, _, _, h3, h4, _⟩
    · rw [e]; simp
    · simp only [maxLen] at h4; omega
  obtain ⟨m, hm⟩ : ∃ m, m = S.waits.length := ⟨_, rfl⟩
  have Hm := Lib.hid hm
  have Hln := Lib.hid hln
  have Hcs := Lib.hid hcs
  rw [← hm] at hmb
  have Hfin := Lib.hid (fun k (hk : F k) => (h.fin hk : k < w.heap.size))
  clear hm hln h hcs
  go_enter Tryd.func45, Tryd.ntmps45
  go_wp2_with fail
  go_loopw [4] (fun i wr => ∃ j : Nat, j ≤ m ∧ i = .int .i64 j ∧ RD (More F w wr) wr b (S.crashTo cs j) ∧ Only F w wr) (fun i _ => m - (intOf i).toNat)
  case atStart => exact ⟨0, by omega, rfl, hrd0, Only.refl F w⟩
  case round =>
    clear hrd0
    obtain ⟨j, hj, rfl, hr, hO⟩ := hrel
    have hxr := hx.only hO hxF
    have hsame := crashTo_same S cs j
    obtain ⟨hwf, kb, ib, ob, ck, ci, spk, spi, vw, kv, ps, h⟩ := hr
    obtain ⟨Aw, cw, rfl, hw⟩ := h.wait.form
    have hc0 := h.head.cell (i := 0) rfl
    have hc1 := h.head.cell (i := 1) rfl
    have hc2 := h.head.cell (i := 2) rfl
    have hpn : ps.length = m := by rw [h.psn, Hm.out, hsame.1]
    rw [hpn] at hc2
    by_cases hlt : j < m
    · obtain ⟨p, hp⟩ : ∃ p, S.waits[j]? = some p := ⟨_, List.getElem?_eq_getElem (by rw [← Hm.out]; exact hlt)⟩
      have hp' : (S.crashTo cs j).waits[j]? = some p := by rw [hsame.1]; exact hp
      obtain ⟨v, hv, hbv⟩ := h.wrow j p hp'
      obtain ⟨g, rfl, hcp, hcv⟩ := hw j _ hv
      have hwt := hwf.wts p (List.mem_of_getElem? hp')
      obtain ⟨gv, cv, spv, rfl, hgF, hlcv, hbk, hspv⟩ := hbv
      rw [hwt.2.2.1] at hcv hlcv
      obtain ⟨q, hq⟩ : ∃ q : Nat, (q : Int) = p.1 := ⟨p.1.toNat, by omega⟩
      have hqn : p.1.toNat = q := by omega
      have hql : q < (S.crashTo cs j).kept.length := by have := hwt.2.1; omega
      replace hcp : wr.cell? ⟨g, j * 2, none⟩ = some (.int .i64 q) := by rw [hq]; exact hcp
      replace hcv : wr.cell? ⟨g, j * 2 + 1, none⟩ = some (.slice (some ⟨gv, 0, none⟩) 128 cv) := hcv
      have hnext := crashTo_succ (cs := cs) hp
      obtain ⟨wd, hwd⟩ : ∃ wd, wd = (wr.alloc (.cells #[.int .i64 (q : Int), .slice (some ⟨gv, 0, none⟩) 128 cv] 135)) := ⟨_, rfl⟩
      have hsd : wd.heap.size = wr.heap.size + 1 := by rw [hwd, nblk_alloc]
      have hbelow : ∀ k, k < wr.heap.size → wd.heap[k]? = wr.heap[k]? := fun k hk => by rw [hwd]; exact blk_alloc_lt _ _ _ hk
      have hd := (h.keep (w' := wd) (by omega) (fun k hk => hbelow k (h.fin k hk))).mono (G := More F w wd) (fun k _ hf => by
        rcases hf with hf | hf
        · exact Or.inl hf
        · right; omega) (fun k hk => by
        rcases hk with hk | hk
        · have := Hfin.out k hk; have := hO.size; omega
        · exact hk.2)
      have hOd : Only F w wd := by rw [hwd]; exact hO.alloc _
      have hPd : Blk wd wr.heap.size 135 [.int .i64 (q : Int), .slice (some ⟨gv, 0, none⟩) 128 cv] := by rw [hwd]; exact Blk.new _ _ _
      have hPn : ¬ F wr.heap.size := fun hf => by have := Hfin.out _ hf; have := hO.size; omega
      have Hd := Lib.hid hd
      have HOd := Lib.hid hOd
      have Hwd := Lib.hid hwd
      have Hwf := Lib.hid hwf
      have Hrd := Lib.hid (show RD (More F w wd) wd b (S.crashTo cs j) from RD.of hwf hd)
      clear hd hOd hwd hwf h
      by_cases hjl : j < n
      · obtain ⟨ad, u, rfl, hcu, hu⟩ := hxr.num hjl
        have hur := Hcs.out u (List.mem_of_getElem? hu)
        obtain ⟨u, rfl⟩ := Int.eq_ofNat_of_zero_le hur.1
        have hcut : cutAt cs j = min u 128 := by unfold cutAt; simp [List.getD, hu]
        have hjI : (j : Int) < (n : Int) := by omega
        have hcud : (wr.alloc (.cells #[.int .i64 (q : Int), .slice (some ⟨gv, 0, none⟩) 128 cv] 135)).cell? (ad.add j) = some (.int .u8 (u : Int)) := by rw [World.cell?_alloc_lt _ _ _ (World.block_lt_of_cell? wr _ hcu)]; exact hcu
        by_cases hu0 : u = 0
        · subst hu0
          have Hnone := Lib.hid (show S.crashTo cs (j + 1) = S.crashTo cs j by rw [hnext, hcut]; rfl)
          clear hnext hcut hu hq hqn hv hwt hp hp' hpn hw
          go_wp2
          rw [← Hwd.out]
          go_roundw
          case rel => exact ⟨j + 1, by omega, by go_num, by rw [Hnone.out]; exact Hrd.out, HOd.out⟩
          case measure => simp [intOf]; omega
        · by_cases hubig : 128 < u
          · have hcut2 : cutAt cs j = 128 := by rw [hcut]; omega
            have Hcut := Lib.hid hcut2
            have Hnext := Lib.hid hnext
            have Hp := Lib.hid hp'
            have Hq := Lib.hid hq
            have Hqn := Lib.hid hqn
            have Hwt := Lib.hid hwt
            clear hnext hq hqn hv hwt hp hp' hpn hw hcut hu hcut2
            go_wp2
            rw [← Hwd.out]
            obtain ⟨vo, hvo, hbo⟩ := Hd.out.krow q ((S.crashTo cs j).kept.getD q []) (by simp [List.getD, hql])
            have hor : Byte128 ((S.crashTo cs j).kept.getD q []) := Hwf.out.rows _ (by simp [List.getD, hql])
            obtain ⟨row, hrow⟩ : ∃ r, r = (S.crashTo cs j).kept.getD q [] := ⟨_, rfl⟩
            rw [← hrow] at hbo hor
            obtain ⟨go, co, spo, rfl, hgo, hco, hbko, hspo⟩ := hbo
            rw [hor.1] at hco hspo
            obtain ⟨K, hK⟩ : ∃ K, K = (S.crashTo cs j).kept.length := ⟨_, rfl⟩
            have hqK : (q : Int) < (K : Int) := by omega
            have hd0 : wd.cell? ⟨b, 0, none⟩ = some (.slice (some ⟨kb, 0, none⟩) K ck) := by rw [hK]; exact Hd.out.head.cell (i := 0) rfl
            have hd1 : wd.cell? ⟨b, 1, none⟩ = some (.slice (some ⟨ib, 0, none⟩) K ci) := by rw [hK]; exact Hd.out.head.cell (i := 1) rfl
            have hP0 : wd.cell? ⟨wr.heap.size, 0, none⟩ = some (.int .i64 (q : Int)) := hPd.cell rfl
            have hP1 : wd.cell? ⟨wr.heap.size, 1, none⟩ = some (.slice (some ⟨gv, 0, none⟩) 128 cv) := hPd.cell rfl
            have hkq : wd.cell? ⟨kb, q, none⟩ = some (.slice (some ⟨go, 0, none⟩) 128 co) := by
              have hko := Hd.out.kept.cell (i := q) (v := .slice (some ⟨go, 0, none⟩) row.length co) (by rw [List.getElem?_append_left (by rw [Hd.out.kvn]; exact hql)]; exact hvo)
              rw [hor.1] at hko; exact hko
            have hfq := Hd.out.kept.frozen q
            have Hrow := Lib.hid hrow
            have HK := Lib.hid hK
            have Hor := Lib.hid hor
            clear hrow hK hor hvo
            obtain ⟨adx, hadx⟩ : ∃ adx : Addr, adx = (if co = 128 then ⟨go, 0, none⟩ else ⟨go, 128, none⟩) := ⟨_, rfl⟩
            have Hadx := Lib.hid hadx
            clear hadx
            have hz0 : (0 : Int) ≤ (128 : Int) := by omega
            have hz1 : (128 : Int) ≤ (cv : Int) := by omega
            have hz2 : (128 : Int) ≤ 128 := by omega
            have hz3 : (128 : Int) ≤ (co : Int) := by omega
            have hbl : b < wd.heap.size := Hd.out.head.lt
            have hkl : kb < wd.heap.size := Hd.out.kept.lt
            have hpl : wr.heap.size < wd.heap.size := hPd.lt
            have hgol : go < wd.heap.size := hbko.lt
            have hgvl : gv < wr.heap.size := hbk.lt
            have HownA := Lib.hid ((World.ownsRow_made (base := wd.heap.size) (e := 5) (size := 1) wd #[] 0 (Nat.le_refl _) (by decide) rfl).drew)
            have hbkA : Blk ((wd.alloc (.cells #[] 5)).drew) gv 5 (u8s p.2 ++ spv) := (((hbk.kept (hbelow gv hgvl)).alloc (.cells #[] 5)).drew)
            have HnewsA := Lib.hid (BRow.first (k := 128) hbkA)
            have HlenA := Lib.hid (show (u8s (p.2.take 128)).length = 128 * 1 by simp [Hwt.out.2.2.1]; try omega)
            have HlenB := Lib.hid (show (u8s (row.drop 128)).length = (128 - 128) * 1 by simp [Hor.out.1])
            have hA0 : ((wd.alloc (.cells #[] 5)).drew).cell? ⟨b, 0, none⟩ = some (.slice (some ⟨kb, 0, none⟩) K ck) := (World.cell?_alloc_lt _ _ _ hbl).trans hd0
            have hAP0 : ((wd.alloc (.cells #[] 5)).drew).cell? ⟨wr.heap.size, 0, none⟩ = some (.int .i64 (q : Int)) := (World.cell?_alloc_lt _ _ _ hpl).trans hP0
            have hAP1 : ((wd.alloc (.cells #[] 5)).drew).cell? ⟨wr.heap.size, 1, none⟩ = some (.slice (some ⟨gv, 0, none⟩) 128 cv) := (World.cell?_alloc_lt _ _ _ hpl).trans hP1
            have hkqA : ((wd.alloc (.cells #[] 5)).drew).cell? ⟨kb, q, none⟩ = some (.slice (some ⟨go, 0, none⟩) 128 co) := (World.cell?_alloc_lt _ _ _ hkl).trans hkq
            refine wp_region_held_drew (S := fun w' => w'.cell? ⟨b, 0, none⟩ = some (.slice (some ⟨kb, 0, none⟩) K ck) ∧ w'.cell? ⟨wr.heap.size, 0, none⟩ = some (.int .i64 (q : Int)) ∧ w'.cell? ⟨wr.heap.size, 1, none⟩ = some (.slice (some ⟨gv, 0, none⟩) 128 cv)) (by kernel_rfl) (by first | exact ⟨hd0, hP0, hP1⟩ | exact ⟨hA0, hAP0, hAP1⟩ | exact ⟨hB0, hBP0, hBP1⟩ | exact ⟨hC0, hCP0, hCP1⟩ | exact ⟨hD0, hDP0, hDP1⟩) (fun hHeld => ?_)
            refine wpAnyH_take (i := 0) (oi := ?oiz1) (v := ?vz1) ?hiz1 ?haz1 ?hbz1 ?hcz1 ?hqz1 ?hyz1 (by assumption) ?restz1
            case hiz1 => (simp only [List.getElem?_toArray, List.getElem?_cons_zero, List.getElem?_cons_succ]; rfl)
            case haz1 => kernel_rfl
            case hbz1 => kernel_rfl
            case hcz1 => kernel_rfl
            case hyz1 => exact Or.inl ⟨by rfl, by (intro w hSw; (try dsimp only at hSw); go_split_ands; go_simp; (try with_reducible rfl))⟩
            case hqz1 => exact fun _ _ _ h => h
            try simp only [Act.put, List.setIfInBounds_toArray, List.set_cons_zero, List.set_cons_succ]
            refine wpAnyH_take (i := 1) (oi := ?oiz2) (v := ?vz2) ?hiz2 ?haz2 ?hbz2 ?hcz2 ?hqz2 ?hyz2 (by assumption) ?restz2
            case hiz2 => (simp only [List.getElem?_toArray, List.getElem?_cons_zero, List.getElem?_cons_succ]; rfl)
            case haz2 => kernel_rfl
            case hbz2 => kernel_rfl
            case hcz2 => kernel_rfl
            case hyz2 => exact Or.inl ⟨by rfl, by (intro w hSw; (try dsimp only at hSw); go_split_ands; go_simp; (try with_reducible rfl))⟩
            case hqz2 => exact fun _ _ _ h => h
            try simp only [Act.put, List.setIfInBounds_toArray, List.set_cons_zero, List.set_cons_succ]
            refine wpAnyH_take (i := 2) (oi := ?oiz3) (v := ?vz3) ?hiz3 ?haz3 ?hbz3 ?hcz3 ?hqz3 ?hyz3 (by assumption) ?restz3
            case hiz3 => (simp only [List.getElem?_toArray, List.getElem?_cons_zero, List.getElem?_cons_succ]; rfl)
            case haz3 => kernel_rfl
            case hbz3 => kernel_rfl
            case hcz3 => kernel_rfl
            case hyz3 => exact Or.inl ⟨by rfl, by (intro w hSw; (try dsimp only at hSw); go_split_ands; go_simp; (try with_reducible rfl))⟩
            case hqz3 => exact fun _ _ _ h => h
            try simp only [Act.put, List.setIfInBounds_toArray, List.set_cons_zero, List.set_cons_succ]
            refine wpAnyH_take (i := 3) (oi := ?oiz4) (v := ?vz4) ?hiz4 ?haz4 ?hbz4 ?hcz4 ?hqz4 ?hyz4 (by assumption) ?restz4
            case hiz4 => (simp only [List.getElem?_toArray, List.getElem?_cons_zero, List.getElem?_cons_succ]; rfl)
            case haz4 => kernel_rfl
            case hbz4 => kernel_rfl
            case hcz4 => kernel_rfl
            case hyz4 => exact Or.inl ⟨by rfl, by (intro w hSw; (try dsimp only at hSw); go_split_ands; go_simp; (try with_reducible rfl))⟩
            case hqz4 => exact fun _ _ _ h => h
            try simp only [Act.put, List.setIfInBounds_toArray, List.set_cons_zero, List.set_cons_succ]
            refine wpAnyH_take (i := 4) (oi := ?oiz5) (v := ?vz5) ?hiz5 ?haz5 ?hbz5 ?hcz5 ?hqz5 ?hyz5 (by assumption) ?restz5
            case hiz5 => (simp only [List.getElem?_toArray, List.getElem?_cons_zero, List.getElem?_cons_succ]; rfl)
            case haz5 => kernel_rfl
            case hbz5 => kernel_rfl
            case hcz5 => kernel_rfl
            case hyz5 => exact Or.inl ⟨by rfl, by (intro w hSw; (try dsimp only at hSw); go_split_ands; go_simp; (try with_reducible rfl))⟩
            case hqz5 => exact fun _ _ _ h => h
            try simp only [Act.put, List.setIfInBounds_toArray, List.set_cons_zero, List.set_cons_succ]
            refine wpAnyH_take (i := 5) (oi := ?oiz6) (v := ?vz6) ?hiz6 ?haz6 ?hbz6 ?hcz6 ?hqz6 ?hyz6 (by assumption) ?restz6
            case hiz6 => (simp only [List.getElem?_toArray, List.getElem?_cons_zero, List.getElem?_cons_succ]; rfl)
            case haz6 => kernel_rfl
            case hbz6 => kernel_rfl
            case hcz6 => kernel_rfl
            case hyz6 => exact Or.inl ⟨by rfl, by (intro w hSw; (try dsimp only at hSw); go_split_ands; go_simp; (try with_reducible rfl))⟩
            case hqz6 => exact fun _ _ _ h => h
            try simp only [Act.put, List.setIfInBounds_toArray, List.set_cons_zero, List.set_cons_succ]
            refine wpAnyH_take (i := 7) (oi := ?oiz7) (v := ?vz7) ?hiz7 ?haz7 ?hbz7 ?hcz7 ?hqz7 ?hyz7 (by assumption) ?restz7
            case hiz7 => (simp only [List.getElem?_toArray, List.getElem?_cons_zero, List.getElem?_cons_succ]; rfl)
            case haz7 => kernel_rfl
            case hbz7 => kernel_rfl
            case hcz7 => kernel_rfl
            case hyz7 => exact Or.inl ⟨by rfl, by (intro w hSw; (try dsimp only at hSw); go_split_ands; go_simp; (try with_reducible rfl))⟩
            case hqz7 => exact fun _ _ _ h => h
            try simp only [Act.put, List.setIfInBounds_toArray, List.set_cons_zero, List.set_cons_succ]
            refine wpAnyH_take (i := 8) (oi := ?oiz8) (v := ?vz8) ?hiz8 ?haz8 ?hbz8 ?hcz8 ?hqz8 ?hyz8 (by assumption) ?restz8
            case hiz8 => (simp only [List.getElem?_toArray, List.getElem?_cons_zero, List.getElem?_cons_succ]; rfl)
            case haz8 => kernel_rfl
            case hbz8 => kernel_rfl
            case hcz8 => kernel_rfl
            case hyz8 => exact Or.inl ⟨by rfl, by (intro w hSw; (try dsimp only at hSw); go_split_ands; go_simp; (try with_reducible rfl))⟩
            case hqz8 => exact fun _ _ _ h => h
            try simp only [Act.put, List.setIfInBounds_toArray, List.set_cons_zero, List.set_cons_succ]
            refine wpAnyH_take (i := 9) (oi := ?oiz9) (v := ?vz9) ?hiz9 ?haz9 ?hbz9 ?hcz9 ?hqz9 ?hyz9 (by assumption) ?restz9
            case hiz9 => (simp only [List.getElem?_toArray, List.getElem?_cons_zero, List.getElem?_cons_succ]; rfl)
            case haz9 => kernel_rfl
            case hbz9 => kernel_rfl
            case hcz9 => kernel_rfl
            case hyz9 => exact Or.inl ⟨by rfl, by (intro w hSw; (try dsimp only at hSw); go_split_ands; go_simp; (try with_reducible rfl))⟩
            case hqz9 => exact fun _ _ _ h => h
            try simp only [Act.put, List.setIfInBounds_toArray, List.set_cons_zero, List.set_cons_succ]
            refine wpAnyH_take (i := 10) (oi := ?oiz10) (v := ?vz10) ?hiz10 ?haz10 ?hbz10 ?hcz10 ?hqz10 ?hyz10 (by assumption) ?restz10
            case hiz10 => (simp only [List.getElem?_toArray, List.getElem?_cons_zero, List.getElem?_cons_succ]; rfl)
            case haz10 => kernel_rfl
            case hbz10 => kernel_rfl
            case hcz10 => kernel_rfl
            case hyz10 => exact Or.inl ⟨by rfl, by (intro w hSw; (try dsimp only at hSw); go_split_ands; go_simp; (try with_reducible rfl))⟩
            case hqz10 => exact fun _ _ _ h => h
            try simp only [Act.put, List.setIfInBounds_toArray, List.set_cons_zero, List.set_cons_succ]
            refine wpAnyH_take (i := 12) (oi := ?oiz11) (v := ?vz11) ?hiz11 ?haz11 ?hbz11 ?hcz11 ?hqz11 ?hyz11 (by assumption) ?restz11
            case hiz11 => (simp only [List.getElem?_toArray, List.getElem?_cons_zero, List.getElem?_cons_succ]; rfl)
            case haz11 => kernel_rfl
            case hbz11 => kernel_rfl
            case hcz11 => kernel_rfl
            case hyz11 => exact Or.inl ⟨by rfl, by (intro w hSw; (try dsimp only at hSw); go_split_ands; go_simp; (try with_reducible rfl))⟩
            case hqz11 => exact fun _ _ _ h => h
            try simp only [Act.put, List.setIfInBounds_toArray, List.set_cons_zero, List.set_cons_succ]
            refine wpAnyH_take (i := 13) (oi := ?oiz12) (v := ?vz12) ?hiz12 ?haz12 ?hbz12 ?hcz12 ?hqz12 ?hyz12 (by assumption) ?restz12
            case hiz12 => (simp only [List.getElem?_toArray, List.getElem?_cons_zero, List.getElem?_cons_succ]; rfl)
            case haz12 => kernel_rfl
            case hbz12 => kernel_rfl
            case hcz12 => kernel_rfl
            case hyz12 => exact Or.inl ⟨by rfl, by (intro w hSw; (try dsimp only at hSw); go_split_ands; go_simp; (try with_reducible rfl))⟩
            case hqz12 => exact fun _ _ _ h => h
            try simp only [Act.put, List.setIfInBounds_toArray, List.set_cons_zero, List.set_cons_succ]
            refine wpAnyH_take (i := 14) (oi := ?oiz13) (v := ?vz13) ?hiz13 ?haz13 ?hbz13 ?hcz13 ?hqz13 ?hyz13 (by assumption) ?restz13
            case hiz13 => (simp only [List.getElem?_toArray, List.getElem?_cons_zero, List.getElem?_cons_succ]; rfl)
            case haz13 => kernel_rfl
            case hbz13 => kernel_rfl
            case hcz13 => kernel_rfl
            case hyz13 => exact Or.inl ⟨by rfl, by (intro w hSw; (try dsimp only at hSw); go_split_ands; go_simp; (try with_reducible rfl))⟩
            case hqz13 => exact fun _ _ _ h => h
            try simp only [Act.put, List.setIfInBounds_toArray, List.set_cons_zero, List.set_cons_succ]
            refine wpAnyH_take (i := 15) (oi := ?oiz14) (v := ?vz14) ?hiz14 ?haz14 ?hbz14 ?hcz14 ?hqz14 ?hyz14 (by assumption) ?restz14
            case hiz14 => (simp only [List.getElem?_toArray, List.getElem?_cons_zero, List.getElem?_cons_succ]; rfl)
            case haz14 => kernel_rfl
            case hbz14 => kernel_rfl
            case hcz14 => kernel_rfl
            case hyz14 => exact Or.inl ⟨by rfl, by (intro w hSw; (try dsimp only at hSw); go_split_ands; go_simp; (try with_reducible rfl))⟩
            case hqz14 => exact fun _ _ _ h => h
            try simp only [Act.put, List.setIfInBounds_toArray, List.set_cons_zero, List.set_cons_succ]
            refine wpAnyH_take (i := 16) (oi := ?oiz15) (v := ?vz15) ?hiz15 ?haz15 ?hbz15 ?hcz15 ?hqz15 ?hyz15 (by assumption) ?restz15
            case hiz15 => (simp only [List.getElem?_toArray, List.getElem?_cons_zero, List.getElem?_cons_succ]; rfl)
            case haz15 => kernel_rfl
            case hbz15 => kernel_rfl
            case hcz15 => kernel_rfl
            case hyz15 => exact Or.inl ⟨by rfl, by (intro w hSw; (try dsimp only at hSw); go_split_ands; go_simp; (try with_reducible rfl))⟩
            case hqz15 => exact fun _ _ _ h => h
            try simp only [Act.put, List.setIfInBounds_toArray, List.set_cons_zero, List.set_cons_succ]
            refine wpAnyH_take (i := 17) (oi := ?oiz16) (v := ?vz16) ?hiz16 ?haz16 ?hbz16 ?hcz16 ?hqz16 ?hyz16 (by assumption) ?restz16
            case hiz16 => (simp only [List.getElem?_toArray, List.getElem?_cons_zero, List.getElem?_cons_succ]; rfl)
            case haz16 => kernel_rfl
            case hbz16 => kernel_rfl
            case hcz16 => kernel_rfl
            case hyz16 => exact Or.inl ⟨by rfl, by (intro w hSw; (try dsimp only at hSw); go_split_ands; go_simp; (try with_reducible rfl))⟩
            case hqz16 => exact fun _ _ _ h => h
            try simp only [Act.put, List.setIfInBounds_toArray, List.set_cons_zero, List.set_cons_succ]
            refine wpAnyH_take (i := 18) (oi := ?oiz17) (v := ?vz17) ?hiz17 ?haz17 ?hbz17 ?hcz17 ?hqz17 ?hyz17 (by assumption) ?restz17
            case hiz17 => (simp only [List.getElem?_toArray, List.getElem?_cons_zero, List.getElem?_cons_succ]; rfl)
            case haz17 => kernel_rfl
            case hbz17 => kernel_rfl
            case hcz17 => kernel_rfl
            case hyz17 => exact Or.inl ⟨by rfl, by (intro w hSw; (try dsimp only at hSw); go_split_ands; go_simp; (try with_reducible rfl))⟩
            case hqz17 => exact fun _ _ _ h => h
            try simp only [Act.put, List.setIfInBounds_toArray, List.set_cons_zero, List.set_cons_succ]
            refine wpAnyH_take (i := 20) (oi := ?oiz18) (v := ?vz18) ?hiz18 ?haz18 ?hbz18 ?hcz18 ?hqz18 ?hyz18 (by assumption) ?restz18
            case hiz18 => (simp only [List.getElem?_toArray, List.getElem?_cons_zero, List.getElem?_cons_succ]; rfl)
            case haz18 => kernel_rfl
            case hbz18 => kernel_rfl
            case hcz18 => kernel_rfl
            case hyz18 => exact Or.inl ⟨by rfl, by (intro w hSw; (try dsimp only at hSw); go_split_ands; go_simp; (try with_reducible rfl))⟩
            case hqz18 => exact fun _ _ _ h => h
            try simp only [Act.put, List.setIfInBounds_toArray, List.set_cons_zero, List.set_cons_succ]
            refine wpAnyH_ready (rs := [6, 19]) (by kernel_rfl) (by simp) ?_
            refine AllReadyH.cons (o := ?oiz19w0) ?hiz19w0 (fun K hK => ?stepz19w0) ?morez19w0
            case hiz19w0 => (simp only [List.getElem?_toArray, List.getElem?_cons_zero, List.getElem?_cons_succ]; rfl)
            go_simp
            refine hK.out _ _ (by first | exact ⟨hd0, hP0, hP1⟩ | exact ⟨hA0, hAP0, hAP1⟩ | exact ⟨hB0, hBP0, hBP1⟩ | exact ⟨hC0, hCP0, hCP1⟩ | exact ⟨hD0, hDP0, hDP1⟩) (fun hHeld => ?_)
            clear hK K
            try simp only [Act.put, List.setIfInBounds_toArray, List.set_cons_zero, List.set_cons_succ]
            refine wpAnyH_ready (rs := [11, 19]) (by kernel_rfl) (by simp) ?_
            refine AllReadyH.cons (o := ?oiz20w0) ?hiz20w0 (fun K hK => ?stepz20w0) ?morez20w0
            case hiz20w0 => (simp only [List.getElem?_toArray, List.getElem?_cons_zero, List.getElem?_cons_succ]; rfl)
            refine step_append_own rfl (.tmp 42) (.tmp 46) 22 rfl wd.heap.size 5 i8 (.int .u8 0) 1 1 Tryd.underlying22 hi8 hz8 hs8 hb8 rfl (by decide) (.slice (some ⟨wd.heap.size, 0, none⟩) 0 0) 0 [] (by simp [Act.eval, Act.put]) HownA.out ⟨gv, 0, none⟩ 128 cv (u8s (p.2.take 128)) (by simp [Act.eval, Act.put]) HlenA.out HnewsA.out (one_u8s _) (by simp only [maxLen]; omega) (by omega) (by show wd.heap.size ≤ (wd.alloc _).heap.size; rw [nblk_alloc]; exact Nat.le_succ _) ?_
            intro v1 w1 hown1 hg1
            have hB := put_below hg1
            have hB0 := (hB.cell (p := ⟨b, 0, none⟩) hbl).trans hd0
            have hBP0 := (hB.cell (p := ⟨wr.heap.size, 0, none⟩) hpl).trans hP0
            have hBP1 := (hB.cell (p := ⟨wr.heap.size, 1, none⟩) hpl).trans hP1
            have hkqB := (hB.cell (p := ⟨kb, q, none⟩) hkl).trans hkq
            have HB := Lib.hid hB
            have HnewsB := Lib.hid (show ∀ (j : Nat) (x : Value), (u8s (row.drop 128))[j]? = some x → w1.cell? (adx.add j) = some x by
              intro j x hj
              have hjl := (List.getElem?_eq_some_iff.1 hj).1
              rw [HlenB.out] at hjl
              rw [Hadx.out, if_neg (by omega)]
              exact BRow.part (k := 128) (hbko.kept (hB.block go hgol)) j x hj)
            have Hown1 := Lib.hid (show w1.ownsRow wd.heap.size 5 1 v1 128 (u8s (p.2.take 128)) by simpa using hown1)
            clear hown1 hg1 hB
            refine hK.out _ _ (by first | exact ⟨hd0, hP0, hP1⟩ | exact ⟨hA0, hAP0, hAP1⟩ | exact ⟨hB0, hBP0, hBP1⟩ | exact ⟨hC0, hCP0, hCP1⟩ | exact ⟨hD0, hDP0, hDP1⟩) (fun hHeld => ?_)
            clear hK K
            try simp only [Act.put, List.setIfInBounds_toArray, List.set_cons_zero, List.set_cons_succ]
            refine wpAnyH_ready (rs := [19]) (by kernel_rfl) (by simp) ?_
            refine AllReadyH.cons (o := ?oiz21w0) ?hiz21w0 (fun K hK => ?stepz21w0) ?morez21w0
            case hiz21w0 => (simp only [List.getElem?_toArray, List.getElem?_cons_zero, List.getElem?_cons_succ]; rfl)
            go_simp
            refine hK.out _ _ (by first | exact ⟨hd0, hP0, hP1⟩ | exact ⟨hA0, hAP0, hAP1⟩ | exact ⟨hB0, hBP0, hBP1⟩ | exact ⟨hC0, hCP0, hCP1⟩ | exact ⟨hD0, hDP0, hDP1⟩) (fun hHeld => ?_)
            clear hK K
            try simp only [Act.put, List.setIfInBounds_toArray, List.set_cons_zero, List.set_cons_succ]
            refine wpAnyH_take (i := 21) (oi := ?oiz22) (v := ?vz22) ?hiz22 ?haz22 ?hbz22 ?hcz22 ?hqz22 ?hyz22 (by assumption) ?restz22
            case hiz22 => (simp only [List.getElem?_toArray, List.getElem?_cons_zero, List.getElem?_cons_succ]; rfl)
            case haz22 => kernel_rfl
            case hbz22 => kernel_rfl
            case hcz22 => kernel_rfl
            case hyz22 => exact Or.inl ⟨by rfl, by (intro w hSw; (try dsimp only at hSw); go_split_ands; go_simp; (try with_reducible rfl))⟩
            case hqz22 => exact fun _ _ _ h => h
            try simp only [Act.put, List.setIfInBounds_toArray, List.set_cons_zero, List.set_cons_succ]
            refine wpAnyH_ready (rs := [22]) (by kernel_rfl) (by simp) ?_
            refine AllReadyH.cons (o := ?oiz23w0) ?hiz23w0 (fun K hK => ?stepz23w0) ?morez23w0
            case hiz23w0 => (simp only [List.getElem?_toArray, List.getElem?_cons_zero, List.getElem?_cons_succ]; rfl)
            refine step_append_own rfl (.tmp 47) (.tmp 57) 22 rfl wd.heap.size 5 i8 (.int .u8 0) 1 1 Tryd.underlying22 hi8 hz8 hs8 hb8 rfl (by decide) v1 128 (u8s (p.2.take 128)) (by simp [Act.eval, Act.put]) Hown1.out adx (128 - 128) (co - 128) (u8s (row.drop 128)) (by simp [Act.eval, Act.put]; rw [Hadx.out]; split <;> (first | rfl | (split <;> (first | rfl | (exfalso; omega))))) HlenB.out HnewsB.out (one_u8s _) (by simp only [maxLen]; omega) (by omega) HB.out.size ?_
            intro v2 w2 hown2 hg2
            have hB2 := HB.out.grown hg2 HB.out.size (fun k hk => (Hown1.out.lt k hk).1)
            obtain ⟨A2, c2, rfl, _⟩ := own_form hown2
            have hC0 := (hB2.cell (p := ⟨b, 0, none⟩) hbl).trans hd0
            have hCP0 := (hB2.cell (p := ⟨wr.heap.size, 0, none⟩) hpl).trans hP0
            have hCP1 := (hB2.cell (p := ⟨wr.heap.size, 1, none⟩) hpl).trans hP1
            have hkqC := (hB2.cell (p := ⟨kb, q, none⟩) hkl).trans hkq
            have hkfC : w2.frozen? ⟨kb, q, none⟩ = false := (hB2.frozen (p := ⟨kb, q, none⟩) hkl).trans hfq
            have hnbk : b ≠ kb := Hd.out.head.ne Hd.out.kept (by decide)
            have hnpk : wr.heap.size ≠ kb := hPd.ne Hd.out.kept (by decide)
            have hD0 := (World.cell?_setCell_other w2 ⟨kb, q, none⟩ ⟨b, 0, none⟩ (.slice A2 (128 + (128 - 128)) c2) (fun e => by cases e; exact hnbk rfl)).trans hC0
            have hDP0 := (World.cell?_setCell_other w2 ⟨kb, q, none⟩ ⟨wr.heap.size, 0, none⟩ (.slice A2 (128 + (128 - 128)) c2) (fun e => hnpk (congrArg Addr.block e).symm)).trans hCP0
            have hDP1 := (World.cell?_setCell_other w2 ⟨kb, q, none⟩ ⟨wr.heap.size, 1, none⟩ (.slice A2 (128 + (128 - 128)) c2) (fun e => hnpk (congrArg Addr.block e).symm)).trans hCP1
            have Hend := Lib.hid (torn_end Hd.out HOd.out.size Hfin.out hql hB2 (row := p.2.take 128 ++ row.drop 128) (by simpa [u8s] using hown2) (by omega) (byte128_torn Hwt.out.2.2 Hor.out (by omega)).1)
            have HB2 := Lib.hid hB2
            clear hown2 hg2 hB2
            refine hK.out _ _ (by first | exact ⟨hd0, hP0, hP1⟩ | exact ⟨hA0, hAP0, hAP1⟩ | exact ⟨hB0, hBP0, hBP1⟩ | exact ⟨hC0, hCP0, hCP1⟩ | exact ⟨hD0, hDP0, hDP1⟩) (fun hHeld => ?_)
            clear hK K
            try simp only [Act.put, List.setIfInBounds_toArray, List.set_cons_zero, List.set_cons_succ]
            refine wpAnyH_take (i := 23) (oi := ?oiz24) (v := ?vz24) ?hiz24 ?haz24 ?hbz24 ?hcz24 ?hqz24 ?hyz24 (by assumption) ?restz24
            case hiz24 => (simp only [List.getElem?_toArray, List.getElem?_cons_zero, List.getElem?_cons_succ]; rfl)
            case haz24 => kernel_rfl
            case hbz24 => kernel_rfl
            case hcz24 => kernel_rfl
            case hyz24 => exact Or.inl ⟨by rfl, by (intro w hSw; (try dsimp only at hSw); go_split_ands; go_simp; (try with_reducible rfl))⟩
            case hqz24 => exact fun _ _ _ h => h
            try simp only [Act.put, List.setIfInBounds_toArray, List.set_cons_zero, List.set_cons_succ]
            refine wpAnyH_ready (rs := [24]) (by kernel_rfl) (by simp) ?_
            refine AllReadyH.cons (o := ?oiz25w0) ?hiz25w0 (fun K hK => ?stepz25w0) ?morez25w0
            case hiz25w0 => (simp only [List.getElem?_toArray, List.getElem?_cons_zero, List.getElem?_cons_succ]; rfl)
            go_simp
            refine hK.out _ _ (by first | exact ⟨hd0, hP0, hP1⟩ | exact ⟨hA0, hAP0, hAP1⟩ | exact ⟨hB0, hBP0, hBP1⟩ | exact ⟨hC0, hCP0, hCP1⟩ | exact ⟨hD0, hDP0, hDP1⟩) (fun hHeld => ?_)
            clear hK K
            try simp only [Act.put, List.setIfInBounds_toArray, List.set_cons_zero, List.set_cons_succ]
            refine wpAnyH_done (by kernel_rfl) ?_ _
            rotate_left
            exact AllReadyH.nil
            exact AllReadyH.nil
            exact AllReadyH.nil
            refine AllReadyH.cons (o := ?oiz20w1) ?hiz20w1 (fun K hK => ?stepz20w1) ?morez20w1
            case hiz20w1 => (simp only [List.getElem?_toArray, List.getElem?_cons_zero, List.getElem?_cons_succ]; rfl)
            go_simp
            refine hK.out _ _ (by first | exact ⟨hd0, hP0, hP1⟩ | exact ⟨hA0, hAP0, hAP1⟩ | exact ⟨hB0, hBP0, hBP1⟩ | exact ⟨hC0, hCP0, hCP1⟩ | exact ⟨hD0, hDP0, hDP1⟩) (fun hHeld => ?_)
            clear hK K
            try simp only [Act.put, List.setIfInBounds_toArray, List.set_cons_zero, List.set_cons_succ]
            refine wpAnyH_take (i := 21) (oi := ?oiz27) (v := ?vz27) ?hiz27 ?haz27 ?hbz27 ?hcz27 ?hqz27 ?hyz27 (by assumption) ?restz27
            case hiz27 => (simp only [List.getElem?_toArray, List.getElem?_cons_zero, List.getElem?_cons_succ]; rfl)
            case haz27 => kernel_rfl
            case hbz27 => kernel_rfl
            case hcz27 => kernel_rfl
            case hyz27 => exact Or.inl ⟨by rfl, by (intro w hSw; (try dsimp only at hSw); go_split_ands; go_simp; (try with_reducible rfl))⟩
            case hqz27 => exact fun _ _ _ h => h
            try simp only [Act.put, List.setIfInBounds_toArray, List.set_cons_zero, List.set_cons_succ]
            refine wpAnyH_ready (rs := [11]) (by kernel_rfl) (by simp) ?_
            refine AllReadyH.cons (o := ?oiz28w0) ?hiz28w0 (fun K hK => ?stepz28w0) ?morez28w0
            case hiz28w0 => (simp only [List.getElem?_toArray, List.getElem?_cons_zero, List.getElem?_cons_succ]; rfl)
            refine step_append_own rfl (.tmp 42) (.tmp 46) 22 rfl wd.heap.size 5 i8 (.int .u8 0) 1 1 Tryd.underlying22 hi8 hz8 hs8 hb8 rfl (by decide) (.slice (some ⟨wd.heap.size, 0, none⟩) 0 0) 0 [] (by simp [Act.eval, Act.put]) HownA.out ⟨gv, 0, none⟩ 128 cv (u8s (p.2.take 128)) (by simp [Act.eval, Act.put]) HlenA.out HnewsA.out (one_u8s _) (by simp only [maxLen]; omega) (by omega) (by show wd.heap.size ≤ (wd.alloc _).heap.size; rw [nblk_alloc]; exact Nat.le_succ _) ?_
            intro v1 w1 hown1 hg1
            have hB := put_below hg1
            have hB0 := (hB.cell (p := ⟨b, 0, none⟩) hbl).trans hd0
            have hBP0 := (hB.cell (p := ⟨wr.heap.size, 0, none⟩) hpl).trans hP0
            have hBP1 := (hB.cell (p := ⟨wr.heap.size, 1, none⟩) hpl).trans hP1
            have hkqB := (hB.cell (p := ⟨kb, q, none⟩) hkl).trans hkq
            have HB := Lib.hid hB
            have HnewsB := Lib.hid (show ∀ (j : Nat) (x : Value), (u8s (row.drop 128))[j]? = some x → w1.cell? (adx.add j) = some x by
              intro j x hj
              have hjl := (List.getElem?_eq_some_iff.1 hj).1
              rw [HlenB.out] at hjl
              rw [Hadx.out, if_neg (by omega)]
              exact BRow.part (k := 128) (hbko.kept (hB.block go hgol)) j x hj)
            have Hown1 := Lib.hid (show w1.ownsRow wd.heap.size 5 1 v1 128 (u8s (p.2.take 128)) by simpa using hown1)
            clear hown1 hg1 hB
            refine hK.out _ _ (by first | exact ⟨hd0, hP0, hP1⟩ | exact ⟨hA0, hAP0, hAP1⟩ | exact ⟨hB0, hBP0, hBP1⟩ | exact ⟨hC0, hCP0, hCP1⟩ | exact ⟨hD0, hDP0, hDP1⟩) (fun hHeld => ?_)
            clear hK K
            try simp only [Act.put, List.setIfInBounds_toArray, List.set_cons_zero, List.set_cons_succ]
            refine wpAnyH_ready (rs := [22]) (by kernel_rfl) (by simp) ?_
            refine AllReadyH.cons (o := ?oiz29w0) ?hiz29w0 (fun K hK => ?stepz29w0) ?morez29w0
            case hiz29w0 => (simp only [List.getElem?_toArray, List.getElem?_cons_zero, List.getElem?_cons_succ]; rfl)
            refine step_append_own rfl (.tmp 47) (.tmp 57) 22 rfl wd.heap.size 5 i8 (.int .u8 0) 1 1 Tryd.underlying22 hi8 hz8 hs8 hb8 rfl (by decide) v1 128 (u8s (p.2.take 128)) (by simp [Act.eval, Act.put]) Hown1.out adx (128 - 128) (co - 128) (u8s (row.drop 128)) (by simp [Act.eval, Act.put]; rw [Hadx.out]; split <;> (first | rfl | (split <;> (first | rfl | (exfalso; omega))))) HlenB.out HnewsB.out (one_u8s _) (by simp only [maxLen]; omega) (by omega) HB.out.size ?_
            intro v2 w2 hown2 hg2
            have hB2 := HB.out.grown hg2 HB.out.size (fun k hk => (Hown1.out.lt k hk).1)
            obtain ⟨A2, c2, rfl, _⟩ := own_form hown2
            have hC0 := (hB2.cell (p := ⟨b, 0, none⟩) hbl).trans hd0
            have hCP0 := (hB2.cell (p := ⟨wr.heap.size, 0, none⟩) hpl).trans hP0
            have hCP1 := (hB2.cell (p := ⟨wr.heap.size, 1, none⟩) hpl).trans hP1
            have hkqC := (hB2.cell (p := ⟨kb, q, none⟩) hkl).trans hkq
            have hkfC : w2.frozen? ⟨kb, q, none⟩ = false := (hB2.frozen (p := ⟨kb, q, none⟩) hkl).trans hfq
            have hnbk : b ≠ kb := Hd.out.head.ne Hd.out.kept (by decide)
            have hnpk : wr.heap.size ≠ kb := hPd.ne Hd.out.kept (by decide)
            have hD0 := (World.cell?_setCell_other w2 ⟨kb, q, none⟩ ⟨b, 0, none⟩ (.slice A2 (128 + (128 - 128)) c2) (fun e => by cases e; exact hnbk rfl)).trans hC0
            have hDP0 := (World.cell?_setCell_other w2 ⟨kb, q, none⟩ ⟨wr.heap.size, 0, none⟩ (.slice A2 (128 + (128 - 128)) c2) (fun e => hnpk (congrArg Addr.block e).symm)).trans hCP0
            have hDP1 := (World.cell?_setCell_other w2 ⟨kb, q, none⟩ ⟨wr.heap.size, 1, none⟩ (.slice A2 (128 + (128 - 128)) c2) (fun e => hnpk (congrArg Addr.block e).symm)).trans hCP1
            have Hend := Lib.hid (torn_end Hd.out HOd.out.size Hfin.out hql hB2 (row := p.2.take 128 ++ row.drop 128) (by simpa [u8s] using hown2) (by omega) (byte128_torn Hwt.out.2.2 Hor.out (by omega)).1)
            have HB2 := Lib.hid hB2
            clear hown2 hg2 hB2
            refine hK.out _ _ (by first | exact ⟨hd0, hP0, hP1⟩ | exact ⟨hA0, hAP0, hAP1⟩ | exact ⟨hB0, hBP0, hBP1⟩ | exact ⟨hC0, hCP0, hCP1⟩ | exact ⟨hD0, hDP0, hDP1⟩) (fun hHeld => ?_)
            clear hK K
            try simp only [Act.put, List.setIfInBounds_toArray, List.set_cons_zero, List.set_cons_succ]
            refine wpAnyH_take (i := 23) (oi := ?oiz30) (v := ?vz30) ?hiz30 ?haz30 ?hbz30 ?hcz30 ?hqz30 ?hyz30 (by assumption) ?restz30
            case hiz30 => (simp only [List.getElem?_toArray, List.getElem?_cons_zero, List.getElem?_cons_succ]; rfl)
            case haz30 => kernel_rfl
            case hbz30 => kernel_rfl
            case hcz30 => kernel_rfl
            case hyz30 => exact Or.inl ⟨by rfl, by (intro w hSw; (try dsimp only at hSw); go_split_ands; go_simp; (try with_reducible rfl))⟩
            case hqz30 => exact fun _ _ _ h => h
            try simp only [Act.put, List.setIfInBounds_toArray, List.set_cons_zero, List.set_cons_succ]
            refine wpAnyH_ready (rs := [24]) (by kernel_rfl) (by simp) ?_
            refine AllReadyH.cons (o := ?oiz31w0) ?hiz31w0 (fun K hK => ?stepz31w0) ?morez31w0
            case hiz31w0 => (simp only [List.getElem?_toArray, List.getElem?_cons_zero, List.getElem?_cons_succ]; rfl)
            go_simp
            refine hK.out _ _ (by first | exact ⟨hd0, hP0, hP1⟩ | exact ⟨hA0, hAP0, hAP1⟩ | exact ⟨hB0, hBP0, hBP1⟩ | exact ⟨hC0, hCP0, hCP1⟩ | exact ⟨hD0, hDP0, hDP1⟩) (fun hHeld => ?_)
            clear hK K
            try simp only [Act.put, List.setIfInBounds_toArray, List.set_cons_zero, List.set_cons_succ]
            refine wpAnyH_done (by kernel_rfl) ?_ _
            rotate_left
            exact AllReadyH.nil
            exact AllReadyH.nil
            exact AllReadyH.nil
            exact AllReadyH.nil
            refine AllReadyH.cons (o := ?oiz19w1) ?hiz19w1 (fun K hK => ?stepz19w1) ?morez19w1
            case hiz19w1 => (simp only [List.getElem?_toArray, List.getElem?_cons_zero, List.getElem?_cons_succ]; rfl)
            go_simp
            refine hK.out _ _ (by first | exact ⟨hd0, hP0, hP1⟩ | exact ⟨hA0, hAP0, hAP1⟩ | exact ⟨hB0, hBP0, hBP1⟩ | exact ⟨hC0, hCP0, hCP1⟩ | exact ⟨hD0, hDP0, hDP1⟩) (fun hHeld => ?_)
            clear hK K
            try simp only [Act.put, List.setIfInBounds_toArray, List.set_cons_zero, List.set_cons_succ]
            refine wpAnyH_take (i := 21) (oi := ?oiz33) (v := ?vz33) ?hiz33 ?haz33 ?hbz33 ?hcz33 ?hqz33 ?hyz33 (by assumption) ?restz33
            case hiz33 => (simp only [List.getElem?_toArray, List.getElem?_cons_zero, List.getElem?_cons_succ]; rfl)
            case haz33 => kernel_rfl
            case hbz33 => kernel_rfl
            case hcz33 => kernel_rfl
            case hyz33 => exact Or.inl ⟨by rfl, by (intro w hSw; (try dsimp only at hSw); go_split_ands; go_simp; (try with_reducible rfl))⟩
            case hqz33 => exact fun _ _ _ h => h
            try simp only [Act.put, List.setIfInBounds_toArray, List.set_cons_zero, List.set_cons_succ]
            refine wpAnyH_ready (rs := [6]) (by kernel_rfl) (by simp) ?_
            refine AllReadyH.cons (o := ?oiz34w0) ?hiz34w0 (fun K hK => ?stepz34w0) ?morez34w0
            case hiz34w0 => (simp only [List.getElem?_toArray, List.getElem?_cons_zero, List.getElem?_cons_succ]; rfl)
            go_simp
            refine hK.out _ _ (by first | exact ⟨hd0, hP0, hP1⟩ | exact ⟨hA0, hAP0, hAP1⟩ | exact ⟨hB0, hBP0, hBP1⟩ | exact ⟨hC0, hCP0, hCP1⟩ | exact ⟨hD0, hDP0, hDP1⟩) (fun hHeld => ?_)
            clear hK K
            try simp only [Act.put, List.setIfInBounds_toArray, List.set_cons_zero, List.set_cons_succ]
            refine wpAnyH_ready (rs := [11]) (by kernel_rfl) (by simp) ?_
            refine AllReadyH.cons (o := ?oiz35w0) ?hiz35w0 (fun K hK => ?stepz35w0) ?morez35w0
            case hiz35w0 => (simp only [List.getElem?_toArray, List.getElem?_cons_zero, List.getElem?_cons_succ]; rfl)
            refine step_append_own rfl (.tmp 42) (.tmp 46) 22 rfl wd.heap.size 5 i8 (.int .u8 0) 1 1 Tryd.underlying22 hi8 hz8 hs8 hb8 rfl (by decide) (.slice (some ⟨wd.heap.size, 0, none⟩) 0 0) 0 [] (by simp [Act.eval, Act.put]) HownA.out ⟨gv, 0, none⟩ 128 cv (u8s (p.2.take 128)) (by simp [Act.eval, Act.put]) HlenA.out HnewsA.out (one_u8s _) (by simp only [maxLen]; omega) (by omega) (by show wd.heap.size ≤ (wd.alloc _).heap.size; rw [nblk_alloc]; exact Nat.le_succ _) ?_
            intro v1 w1 hown1 hg1
            have hB := put_below hg1
            have hB0 := (hB.cell (p := ⟨b, 0, none⟩) hbl).trans hd0
            have hBP0 := (hB.cell (p := ⟨wr.heap.size, 0, none⟩) hpl).trans hP0
            have hBP1 := (hB.cell (p := ⟨wr.heap.size, 1, none⟩) hpl).trans hP1
            have hkqB := (hB.cell (p := ⟨kb, q, none⟩) hkl).trans hkq
            have HB := Lib.hid hB
            have HnewsB := Lib.hid (show ∀ (j : Nat) (x : Value), (u8s (row.drop 128))[j]? = some x → w1.cell? (adx.add j) = some x by
              intro j x hj
              have hjl := (List.getElem?_eq_some_iff.1 hj).1
              rw [HlenB.out] at hjl
              rw [Hadx.out, if_neg (by omega)]
              exact BRow.part (k := 128) (hbko.kept (hB.block go hgol)) j x hj)
            have Hown1 := Lib.hid (show w1.ownsRow wd.heap.size 5 1 v1 128 (u8s (p.2.take 128)) by simpa using hown1)
            clear hown1 hg1 hB
            refine hK.out _ _ (by first | exact ⟨hd0, hP0, hP1⟩ | exact ⟨hA0, hAP0, hAP1⟩ | exact ⟨hB0, hBP0, hBP1⟩ | exact ⟨hC0, hCP0, hCP1⟩ | exact ⟨hD0, hDP0, hDP1⟩) (fun hHeld => ?_)
            clear hK K
            try simp only [Act.put, List.setIfInBounds_toArray, List.set_cons_zero, List.set_cons_succ]
            refine wpAnyH_ready (rs := [22]) (by kernel_rfl) (by simp) ?_
            refine AllReadyH.cons (o := ?oiz36w0) ?hiz36w0 (fun K hK => ?stepz36w0) ?morez36w0
            case hiz36w0 => (simp only [List.getElem?_toArray, List.getElem?_cons_zero, List.getElem?_cons_succ]; rfl)
            refine step_append_own rfl (.tmp 47) (.tmp 57) 22 rfl wd.heap.size 5 i8 (.int .u8 0) 1 1 Tryd.underlying22 hi8 hz8 hs8 hb8 rfl (by decide) v1 128 (u8s (p.2.take 128)) (by simp [Act.eval, Act.put]) Hown1.out adx (128 - 128) (co - 128) (u8s (row.drop 128)) (by simp [Act.eval, Act.put]; rw [Hadx.out]; split <;> (first | rfl | (split <;> (first | rfl | (exfalso; omega))))) HlenB.out HnewsB.out (one_u8s _) (by simp only [maxLen]; omega) (by omega) HB.out.size ?_
            intro v2 w2 hown2 hg2
            have hB2 := HB.out.grown hg2 HB.out.size (fun k hk => (Hown1.out.lt k hk).1)
            obtain ⟨A2, c2, rfl, _⟩ := own_form hown2
            have hC0 := (hB2.cell (p := ⟨b, 0, none⟩) hbl).trans hd0
            have hCP0 := (hB2.cell (p := ⟨wr.heap.size, 0, none⟩) hpl).trans hP0
            have hCP1 := (hB2.cell (p := ⟨wr.heap.size, 1, none⟩) hpl).trans hP1
            have hkqC := (hB2.cell (p := ⟨kb, q, none⟩) hkl).trans hkq
            have hkfC : w2.frozen? ⟨kb, q, none⟩ = false := (hB2.frozen (p := ⟨kb, q, none⟩) hkl).trans hfq
            have hnbk : b ≠ kb := Hd.out.head.ne Hd.out.kept (by decide)
            have hnpk : wr.heap.size ≠ kb := hPd.ne Hd.out.kept (by decide)
            have hD0 := (World.cell?_setCell_other w2 ⟨kb, q, none⟩ ⟨b, 0, none⟩ (.slice A2 (128 + (128 - 128)) c2) (fun e => by cases e; exact hnbk rfl)).trans hC0
            have hDP0 := (World.cell?_setCell_other w2 ⟨kb, q, none⟩ ⟨wr.heap.size, 0, none⟩ (.slice A2 (128 + (128 - 128)) c2) (fun e => hnpk (congrArg Addr.block e).symm)).trans hCP0
            have hDP1 := (World.cell?_setCell_other w2 ⟨kb, q, none⟩ ⟨wr.heap.size, 1, none⟩ (.slice A2 (128 + (128 - 128)) c2) (fun e => hnpk (congrArg Addr.block e).symm)).trans hCP1
            have Hend := Lib.hid (torn_end Hd.out HOd.out.size Hfin.out hql hB2 (row := p.2.take 128 ++ row.drop 128) (by simpa [u8s] using hown2) (by omega) (byte128_torn Hwt.out.2.2 Hor.out (by omega)).1)
            have HB2 := Lib.hid hB2
            clear hown2 hg2 hB2
            refine hK.out _ _ (by first | exact ⟨hd0, hP0, hP1⟩ | exact ⟨hA0, hAP0, hAP1⟩ | exact ⟨hB0, hBP0, hBP1⟩ | exact ⟨hC0, hCP0, hCP1⟩ | exact ⟨hD0, hDP0, hDP1⟩) (fun hHeld => ?_)
            clear hK K
            try simp only [Act.put, List.setIfInBounds_toArray, List.set_cons_zero, List.set_cons_succ]
            refine wpAnyH_take (i := 23) (oi := ?oiz37) (v := ?vz37) ?hiz37 ?haz37 ?hbz37 ?hcz37 ?hqz37 ?hyz37 (by assumption) ?restz37
            case hiz37 => (simp only [List.getElem?_toArray, List.getElem?_cons_zero, List.getElem?_cons_succ]; rfl)
            case haz37 => kernel_rfl
            case hbz37 => kernel_rfl
            case hcz37 => kernel_rfl
            case hyz37 => exact Or.inl ⟨by rfl, by (intro w hSw; (try dsimp only at hSw); go_split_ands; go_simp; (try with_reducible rfl))⟩
            case hqz37 => exact fun _ _ _ h => h
            try simp only [Act.put, List.setIfInBounds_toArray, List.set_cons_zero, List.set_cons_succ]
            refine wpAnyH_ready (rs := [24]) (by kernel_rfl) (by simp) ?_
            refine AllReadyH.cons (o := ?oiz38w0) ?hiz38w0 (fun K hK => ?stepz38w0) ?morez38w0
            case hiz38w0 => (simp only [List.getElem?_toArray, List.getElem?_cons_zero, List.getElem?_cons_succ]; rfl)
            go_simp
            refine hK.out _ _ (by first | exact ⟨hd0, hP0, hP1⟩ | exact ⟨hA0, hAP0, hAP1⟩ | exact ⟨hB0, hBP0, hBP1⟩ | exact ⟨hC0, hCP0, hCP1⟩ | exact ⟨hD0, hDP0, hDP1⟩) (fun hHeld => ?_)
            clear hK K
            try simp only [Act.put, List.setIfInBounds_toArray, List.set_cons_zero, List.set_cons_succ]
            refine wpAnyH_done (by kernel_rfl) ?_ _
            rotate_left
            exact AllReadyH.nil
            exact AllReadyH.nil
            exact AllReadyH.nil
            exact AllReadyH.nil
            exact AllReadyH.nil
            all_goals
              generalize (if co = 128 then some (⟨go, 0, none⟩ : Addr) else some ⟨go, 128, none⟩) = az
              obtain ⟨w3, hw3⟩ : ∃ w3, w3 = w2.setCell ⟨kb, q, none⟩ (.slice A2 (128 + (128 - 128)) c2) := ⟨_, rfl⟩
              have HE := Hend.out
              rw [← hw3] at HE ⊢
              have hO3 : Only F w w3 := by
                rw [hw3]
                refine (HOd.out.trans (Only.of_below (F := F) HB2.out) (fun _ _ h => h)).set ?_ _
                rcases Hd.out.fk with hk | hk
                · exact Or.inr hk
                · exact Or.inl hk.1
              have hib : w3.cell? ⟨b, 1, none⟩ = some (.slice (some ⟨ib, 0, none⟩) K ci) := by
                have h5 := HE.head.cell (i := 1) rfl
                rw [h5]
                show some (Value.slice _ ((S.crashTo cs j).kept.set q _).length _) = _
                rw [List.length_set, HK.out]
              have hN3 : w3.cell? ⟨wr.heap.size, 0, none⟩ = some (.int .i64 (q : Int)) := by rw [hw3]; exact hDP0
              obtain ⟨uo, huo⟩ : ∃ u, (S.crashTo cs j).inn[q]? = some u := ⟨_, List.getElem?_eq_getElem (by rw [Hwf.out.ninn]; exact hql)⟩
              have hco' : w3.cell? ⟨ib, q, none⟩ = some (.bool uo) := HE.inn.cell (by rw [List.getElem?_append_left (by rw [List.length_map]; show q < (S.crashTo cs j).inn.length; rw [Hwf.out.ninn]; exact hql), List.getElem?_map]; show (S.crashTo cs j).inn[q]?.map _ = _; rw [huo]; rfl)
              have hfo' := HE.inn.frozen q
              have h2 := HE.upInn (by show (S.crashTo cs j).inn.length = ((S.crashTo cs j).kept.set q _).length; rw [List.length_set, Hwf.out.ninn]) q (by show q < ((S.crashTo cs j).kept.set q _).length; rw [List.length_set]; exact hql) true
              have hO4 : Only F w (w3.setCell ⟨ib, q, none⟩ (.bool true)) := by
                refine hO3.set ?_ _
                rcases Hd.out.fi with hk | hk
                · exact Or.inr hk
                · exact Or.inl hk.1
              have hfin : RD (More F w (w3.setCell ⟨ib, q, none⟩ (.bool true))) (w3.setCell ⟨ib, q, none⟩ (.bool true)) b (S.crashTo cs (j + 1)) := by
                have h0 := Hwf.out.crash1 (p := p) (c := 128) (List.mem_of_getElem? Hp.out) (by omega)
                have e := crash1_pos (S.crashTo cs j) p (c := 128) (by omega) Hqn.out
                rw [e] at h0
                rw [Hnext.out, Hcut.out, e]
                rw [← Hrow.out] at h0 ⊢
                exact (RD.of h0 h2).mono (fun k _ hf => by
                  rcases hf with hf | hf
                  · exact Or.inl hf
                  · exact Or.inr ⟨hf.1, by rw [nblk_setCell, hw3, nblk_setCell]; exact hf.2⟩) (fun k hk => by
                  rcases hk with hk | hk
                  · have := Hfin.out k hk; have := hO4.size; omega
                  · exact hk.2)
              have Hfin2 := Lib.hid hfin
              have HO4 := Lib.hid hO4
              obtain ⟨w5, hw5⟩ : ∃ w5, w5 = w3.setCell ⟨ib, q, none⟩ (.bool true) := ⟨_, rfl⟩
              rw [← hw5] at Hfin2 HO4
              have Hw5 := Lib.hid hw5
              clear hfin hO4 hO3 h2 hw5 hw3 huo HE hd0 hd1 hP0 hP1 hkq hfq hA0 hAP0 hAP1 hkqA hB0 hBP0 hBP1 hkqB hC0 hCP0 hCP1 hkqC hkfC hD0 hDP0 hDP1
              go_wp2
              go_region
              all_goals
                rw [← Hw5.out]
                have hfin2 := Hfin2.out.keep (w' := w5.drew) (Nat.le_refl _) (fun _ _ => rfl)
                have hO5 := HO4.out.drew
                have hfin3 : RD (More F w w5.drew) w5.drew b (S.crashTo cs (j + 1)) := hfin2
                clear Hw5 hfin2
                generalize w5.drew = w6 at *
                go_wp2
                go_roundw
                case rel => exact ⟨j + 1, by omega, by go_num, hfin3, hO5⟩
                case measure => simp [intOf]; omega
          · have hcut2 : cutAt cs j = u := by rw [hcut]; omega
            have Hcut := Lib.hid hcut2
            have Hnext := Lib.hid hnext
            have Hp := Lib.hid hp'
            have Hq := Lib.hid hq
            have Hqn := Lib.hid hqn
            have Hwt := Lib.hid hwt
            clear hnext hq hqn hv hwt hp hp' hpn hw hcut hu hcut2
            go_wp2
            rw [← Hwd.out]
            obtain ⟨vo, hvo, hbo⟩ := Hd.out.krow q ((S.crashTo cs j).kept.getD q []) (by simp [List.getD, hql])
            have hor : Byte128 ((S.crashTo cs j).kept.getD q []) := Hwf.out.rows _ (by simp [List.getD, hql])
            obtain ⟨row, hrow⟩ : ∃ r, r = (S.crashTo cs j).kept.getD q [] := ⟨_, rfl⟩
            rw [← hrow] at hbo hor
            obtain ⟨go, co, spo, rfl, hgo, hco, hbko, hspo⟩ := hbo
            rw [hor.1] at hco hspo
            obtain ⟨K, hK⟩ : ∃ K, K = (S.crashTo cs j).kept.length := ⟨_, rfl⟩
            have hqK : (q : Int) < (K : Int) := by omega
            have hd0 : wd.cell? ⟨b, 0, none⟩ = some (.slice (some ⟨kb, 0, none⟩) K ck) := by rw [hK]; exact Hd.out.head.cell (i := 0) rfl
            have hd1 : wd.cell? ⟨b, 1, none⟩ = some (.slice (some ⟨ib, 0, none⟩) K ci) := by rw [hK]; exact Hd.out.head.cell (i := 1) rfl
            have hP0 : wd.cell? ⟨wr.heap.size, 0, none⟩ = some (.int .i64 (q : Int)) := hPd.cell rfl
            have hP1 : wd.cell? ⟨wr.heap.size, 1, none⟩ = some (.slice (some ⟨gv, 0, none⟩) 128 cv) := hPd.cell rfl
            have hkq : wd.cell? ⟨kb, q, none⟩ = some (.slice (some ⟨go, 0, none⟩) 128 co) := by
              have hko := Hd.out.kept.cell (i := q) (v := .slice (some ⟨go, 0, none⟩) row.length co) (by rw [List.getElem?_append_left (by rw [Hd.out.kvn]; exact hql)]; exact hvo)
              rw [hor.1] at hko; exact hko
            have hfq := Hd.out.kept.frozen q
            have Hrow := Lib.hid hrow
            have HK := Lib.hid hK
            have Hor := Lib.hid hor
            clear hrow hK hor hvo
            obtain ⟨adx, hadx⟩ : ∃ adx : Addr, adx = (if co = u then ⟨go, 0, none⟩ else ⟨go, u, none⟩) := ⟨_, rfl⟩
            have Hadx := Lib.hid hadx
            clear hadx
            have hz0 : (0 : Int) ≤ (u : Int) := by omega
            have hz1 : (u : Int) ≤ (cv : Int) := by omega
            have hz2 : (u : Int) ≤ 128 := by omega
            have hz3 : (u : Int) ≤ (co : Int) := by omega
            have hbl : b < wd.heap.size := Hd.out.head.lt
            have hkl : kb < wd.heap.size := Hd.out.kept.lt
            have hpl : wr.heap.size < wd.heap.size := hPd.lt
            have hgol : go < wd.heap.size := hbko.lt
            have hgvl : gv < wr.heap.size := hbk.lt
            have HownA := Lib.hid ((World.ownsRow_made (base := wd.heap.size) (e := 5) (size := 1) wd #[] 0 (Nat.le_refl _) (by decide) rfl).drew)
            have hbkA : Blk ((wd.alloc (.cells #[] 5)).drew) gv 5 (u8s p.2 ++ spv) := (((hbk.kept (hbelow gv hgvl)).alloc (.cells #[] 5)).drew)
            have HnewsA := Lib.hid (BRow.first (k := u) hbkA)
            have HlenA := Lib.hid (show (u8s (p.2.take u)).length = u * 1 by simp [Hwt.out.2.2.1]; try omega)
            have HlenB := Lib.hid (show (u8s (row.drop u)).length = (128 - u) * 1 by simp [Hor.out.1])
            have hA0 : ((wd.alloc (.cells #[] 5)).drew).cell? ⟨b, 0, none⟩ = some (.slice (some ⟨kb, 0, none⟩) K ck) := (World.cell?_alloc_lt _ _ _ hbl).trans hd0
            have hAP0 : ((wd.alloc (.cells #[] 5)).drew).cell? ⟨wr.heap.size, 0, none⟩ = some (.int .i64 (q : Int)) := (World.cell?_alloc_lt _ _ _ hpl).trans hP0
            have hAP1 : ((wd.alloc (.cells #[] 5)).drew).cell? ⟨wr.heap.size, 1, none⟩ = some (.slice (some ⟨gv, 0, none⟩) 128 cv) := (World.cell?_alloc_lt _ _ _ hpl).trans hP1
            have hkqA : ((wd.alloc (.cells #[] 5)).drew).cell? ⟨kb, q, none⟩ = some (.slice (some ⟨go, 0, none⟩) 128 co) := (World.cell?_alloc_lt _ _ _ hkl).trans hkq
            refine wp_region_held_drew (S := fun w' => w'.cell? ⟨b, 0, none⟩ = some (.slice (some ⟨kb, 0, none⟩) K ck) ∧ w'.cell? ⟨wr.heap.size, 0, none⟩ = some (.int .i64 (q : Int)) ∧ w'.cell? ⟨wr.heap.size, 1, none⟩ = some (.slice (some ⟨gv, 0, none⟩) 128 cv)) (by kernel_rfl) (by first | exact ⟨hd0, hP0, hP1⟩ | exact ⟨hA0, hAP0, hAP1⟩ | exact ⟨hB0, hBP0, hBP1⟩ | exact ⟨hC0, hCP0, hCP1⟩ | exact ⟨hD0, hDP0, hDP1⟩) (fun hHeld => ?_)
            refine wpAnyH_take (i := 0) (oi := ?oiz40) (v := ?vz40) ?hiz40 ?haz40 ?hbz40 ?hcz40 ?hqz40 ?hyz40 (by assumption) ?restz40
            case hiz40 => (simp only [List.getElem?_toArray, List.getElem?_cons_zero, List.getElem?_cons_succ]; rfl)
            case haz40 => kernel_rfl
            case hbz40 => kernel_rfl
            case hcz40 => kernel_rfl
            case hyz40 => exact Or.inl ⟨by rfl, by (intro w hSw; (try dsimp only at hSw); go_split_ands; go_simp; (try with_reducible rfl))⟩
            case hqz40 => exact fun _ _ _ h => h
            try simp only [Act.put, List.setIfInBounds_toArray, List.set_cons_zero, List.set_cons_succ]
            refine wpAnyH_take (i := 1) (oi := ?oiz41) (v := ?vz41) ?hiz41 ?haz41 ?hbz41 ?hcz41 ?hqz41 ?hyz41 (by assumption) ?restz41
            case hiz41 => (simp only [List.getElem?_toArray, List.getElem?_cons_zero, List.getElem?_cons_succ]; rfl)
            case haz41 => kernel_rfl
            case hbz41 => kernel_rfl
            case hcz41 => kernel_rfl
            case hyz41 => exact Or.inl ⟨by rfl, by (intro w hSw; (try dsimp only at hSw); go_split_ands; go_simp; (try with_reducible rfl))⟩
            case hqz41 => exact fun _ _ _ h => h
            try simp only [Act.put, List.setIfInBounds_toArray, List.set_cons_zero, List.set_cons_succ]
            refine wpAnyH_take (i := 2) (oi := ?oiz42) (v := ?vz42) ?hiz42 ?haz42 ?hbz42 ?hcz42 ?hqz42 ?hyz42 (by assumption) ?restz42
            case hiz42 => (simp only [List.getElem?_toArray, List.getElem?_cons_zero, List.getElem?_cons_succ]; rfl)
            case haz42 => kernel_rfl
            case hbz42 => kernel_rfl
            case hcz42 => kernel_rfl
            case hyz42 => exact Or.inl ⟨by rfl, by (intro w hSw; (try dsimp only at hSw); go_split_ands; go_simp; (try with_reducible rfl))⟩
            case hqz42 => exact fun _ _ _ h => h
            try simp only [Act.put, List.setIfInBounds_toArray, List.set_cons_zero, List.set_cons_succ]
            refine wpAnyH_take (i := 3) (oi := ?oiz43) (v := ?vz43) ?hiz43 ?haz43 ?hbz43 ?hcz43 ?hqz43 ?hyz43 (by assumption) ?restz43
            case hiz43 => (simp only [List.getElem?_toArray, List.getElem?_cons_zero, List.getElem?_cons_succ]; rfl)
            case haz43 => kernel_rfl
            case hbz43 => kernel_rfl
            case hcz43 => kernel_rfl
            case hyz43 => exact Or.inl ⟨by rfl, by (intro w hSw; (try dsimp only at hSw); go_split_ands; go_simp; (try with_reducible rfl))⟩
            case hqz43 => exact fun _ _ _ h => h
            try simp only [Act.put, List.setIfInBounds_toArray, List.set_cons_zero, List.set_cons_succ]
            refine wpAnyH_take (i := 4) (oi := ?oiz44) (v := ?vz44) ?hiz44 ?haz44 ?hbz44 ?hcz44 ?hqz44 ?hyz44 (by assumption) ?restz44
            case hiz44 => (simp only [List.getElem?_toArray, List.getElem?_cons_zero, List.getElem?_cons_succ]; rfl)
            case haz44 => kernel_rfl
            case hbz44 => kernel_rfl
            case hcz44 => kernel_rfl
            case hyz44 => exact Or.inl ⟨by rfl, by (intro w hSw; (try dsimp only at hSw); go_split_ands; go_simp; (try with_reducible rfl))⟩
            case hqz44 => exact fun _ _ _ h => h
            try simp only [Act.put, List.setIfInBounds_toArray, List.set_cons_zero, List.set_cons_succ]
            refine wpAnyH_take (i := 5) (oi := ?oiz45) (v := ?vz45) ?hiz45 ?haz45 ?hbz45 ?hcz45 ?hqz45 ?hyz45 (by assumption) ?restz45
            case hiz45 => (simp only [List.getElem?_toArray, List.getElem?_cons_zero, List.getElem?_cons_succ]; rfl)
            case haz45 => kernel_rfl
            case hbz45 => kernel_rfl
            case hcz45 => kernel_rfl
            case hyz45 => exact Or.inl ⟨by rfl, by (intro w hSw; (try dsimp only at hSw); go_split_ands; go_simp; (try with_reducible rfl))⟩
            case hqz45 => exact fun _ _ _ h => h
            try simp only [Act.put, List.setIfInBounds_toArray, List.set_cons_zero, List.set_cons_succ]
            refine wpAnyH_take (i := 7) (oi := ?oiz46) (v := ?vz46) ?hiz46 ?haz46 ?hbz46 ?hcz46 ?hqz46 ?hyz46 (by assumption) ?restz46
            case hiz46 => (simp only [List.getElem?_toArray, List.getElem?_cons_zero, List.getElem?_cons_succ]; rfl)
            case haz46 => kernel_rfl
            case hbz46 => kernel_rfl
            case hcz46 => kernel_rfl
            case hyz46 => exact Or.inl ⟨by rfl, by (intro w hSw; (try dsimp only at hSw); go_split_ands; go_simp; (try with_reducible rfl))⟩
            case hqz46 => exact fun _ _ _ h => h
            try simp only [Act.put, List.setIfInBounds_toArray, List.set_cons_zero, List.set_cons_succ]
            refine wpAnyH_take (i := 8) (oi := ?oiz47) (v := ?vz47) ?hiz47 ?haz47 ?hbz47 ?hcz47 ?hqz47 ?hyz47 (by assumption) ?restz47
            case hiz47 => (simp only [List.getElem?_toArray, List.getElem?_cons_zero, List.getElem?_cons_succ]; rfl)
            case haz47 => kernel_rfl
            case hbz47 => kernel_rfl
            case hcz47 => kernel_rfl
            case hyz47 => exact Or.inl ⟨by rfl, by (intro w hSw; (try dsimp only at hSw); go_split_ands; go_simp; (try with_reducible rfl))⟩
            case hqz47 => exact fun _ _ _ h => h
            try simp only [Act.put, List.setIfInBounds_toArray, List.set_cons_zero, List.set_cons_succ]
            refine wpAnyH_take (i := 9) (oi := ?oiz48) (v := ?vz48) ?hiz48 ?haz48 ?hbz48 ?hcz48 ?hqz48 ?hyz48 (by assumption) ?restz48
            case hiz48 => (simp only [List.getElem?_toArray, List.getElem?_cons_zero, List.getElem?_cons_succ]; rfl)
            case haz48 => kernel_rfl
            case hbz48 => kernel_rfl
            case hcz48 => kernel_rfl
            case hyz48 => exact Or.inl ⟨by rfl, by (intro w hSw; (try dsimp only at hSw); go_split_ands; go_simp; (try with_reducible rfl))⟩
            case hqz48 => exact fun _ _ _ h => h
            try simp only [Act.put, List.setIfInBounds_toArray, List.set_cons_zero, List.set_cons_succ]
            refine wpAnyH_take (i := 10) (oi := ?oiz49) (v := ?vz49) ?hiz49 ?haz49 ?hbz49 ?hcz49 ?hqz49 ?hyz49 (by assumption) ?restz49
            case hiz49 => (simp only [List.getElem?_toArray, List.getElem?_cons_zero, List.getElem?_cons_succ]; rfl)
            case haz49 => kernel_rfl
            case hbz49 => kernel_rfl
            case hcz49 => kernel_rfl
            case hyz49 => exact Or.inl ⟨by rfl, by (intro w hSw; (try dsimp only at hSw); go_split_ands; go_simp; (try with_reducible rfl))⟩
            case hqz49 => exact fun _ _ _ h => h
            try simp only [Act.put, List.setIfInBounds_toArray, List.set_cons_zero, List.set_cons_succ]
            refine wpAnyH_take (i := 12) (oi := ?oiz50) (v := ?vz50) ?hiz50 ?haz50 ?hbz50 ?hcz50 ?hqz50 ?hyz50 (by assumption) ?restz50
            case hiz50 => (simp only [List.getElem?_toArray, List.getElem?_cons_zero, List.getElem?_cons_succ]; rfl)
            case haz50 => kernel_rfl
            case hbz50 => kernel_rfl
            case hcz50 => kernel_rfl
            case hyz50 => exact Or.inl ⟨by rfl, by (intro w hSw; (try dsimp only at hSw); go_split_ands; go_simp; (try with_reducible rfl))⟩
            case hqz50 => exact fun _ _ _ h => h
            try simp only [Act.put, List.setIfInBounds_toArray, List.set_cons_zero, List.set_cons_succ]
            refine wpAnyH_take (i := 13) (oi := ?oiz51) (v := ?vz51) ?hiz51 ?haz51 ?hbz51 ?hcz51 ?hqz51 ?hyz51 (by assumption) ?restz51
            case hiz51 => (simp only [List.getElem?_toArray, List.getElem?_cons_zero, List.getElem?_cons_succ]; rfl)
            case haz51 => kernel_rfl
            case hbz51 => kernel_rfl
            case hcz51 => kernel_rfl
            case hyz51 => exact Or.inl ⟨by rfl, by (intro w hSw; (try dsimp only at hSw); go_split_ands; go_simp; (try with_reducible rfl))⟩
            case hqz51 => exact fun _ _ _ h => h
            try simp only [Act.put, List.setIfInBounds_toArray, List.set_cons_zero, List.set_cons_succ]
            refine wpAnyH_take (i := 14) (oi := ?oiz52) (v := ?vz52) ?hiz52 ?haz52 ?hbz52 ?hcz52 ?hqz52 ?hyz52 (by assumption) ?restz52
            case hiz52 => (simp only [List.getElem?_toArray, List.getElem?_cons_zero, List.getElem?_cons_succ]; rfl)
            case haz52 => kernel_rfl
            case hbz52 => kernel_rfl
            case hcz52 => kernel_rfl
            case hyz52 => exact Or.inl ⟨by rfl, by (intro w hSw; (try dsimp only at hSw); go_split_ands; go_simp; (try with_reducible rfl))⟩
            case hqz52 => exact fun _ _ _ h => h
            try simp only [Act.put, List.setIfInBounds_toArray, List.set_cons_zero, List.set_cons_succ]
            refine wpAnyH_take (i := 15) (oi := ?oiz53) (v := ?vz53) ?hiz53 ?haz53 ?hbz53 ?hcz53 ?hqz53 ?hyz53 (by assumption) ?restz53
            case hiz53 => (simp only [List.getElem?_toArray, List.getElem?_cons_zero, List.getElem?_cons_succ]; rfl)
            case haz53 => kernel_rfl
            case hbz53 => kernel_rfl
            case hcz53 => kernel_rfl
            case hyz53 => exact Or.inl ⟨by rfl, by (intro w hSw; (try dsimp only at hSw); go_split_ands; go_simp; (try with_reducible rfl))⟩
            case hqz53 => exact fun _ _ _ h => h
            try simp only [Act.put, List.setIfInBounds_toArray, List.set_cons_zero, List.set_cons_succ]
            refine wpAnyH_take (i := 16) (oi := ?oiz54) (v := ?vz54) ?hiz54 ?haz54 ?hbz54 ?hcz54 ?hqz54 ?hyz54 (by assumption) ?restz54
            case hiz54 => (simp only [List.getElem?_toArray, List.getElem?_cons_zero, List.getElem?_cons_succ]; rfl)
            case haz54 => kernel_rfl
            case hbz54 => kernel_rfl
            case hcz54 => kernel_rfl
            case hyz54 => exact Or.inl ⟨by rfl, by (intro w hSw; (try dsimp only at hSw); go_split_ands; go_simp; (try with_reducible rfl))⟩
            case hqz54 => exact fun _ _ _ h => h
            try simp only [Act.put, List.setIfInBounds_toArray, List.set_cons_zero, List.set_cons_succ]
            refine wpAnyH_take (i := 17) (oi := ?oiz55) (v := ?vz55) ?hiz55 ?haz55 ?hbz55 ?hcz55 ?hqz55 ?hyz55 (by assumption) ?restz55
            case hiz55 => (simp only [List.getElem?_toArray, List.getElem?_cons_zero, List.getElem?_cons_succ]; rfl)
            case haz55 => kernel_rfl
            case hbz55 => kernel_rfl
            case hcz55 => kernel_rfl
            case hyz55 => exact Or.inl ⟨by rfl, by (intro w hSw; (try dsimp only at hSw); go_split_ands; go_simp; (try with_reducible rfl))⟩
            case hqz55 => exact fun _ _ _ h => h
            try simp only [Act.put, List.setIfInBounds_toArray, List.set_cons_zero, List.set_cons_succ]
            refine wpAnyH_take (i := 18) (oi := ?oiz56) (v := ?vz56) ?hiz56 ?haz56 ?hbz56 ?hcz56 ?hqz56 ?hyz56 (by assumption) ?restz56
            case hiz56 => (simp only [List.getElem?_toArray, List.getElem?_cons_zero, List.getElem?_cons_succ]; rfl)
            case haz56 => kernel_rfl
            case hbz56 => kernel_rfl
            case hcz56 => kernel_rfl
            case hyz56 => exact Or.inl ⟨by rfl, by (intro w hSw; (try dsimp only at hSw); go_split_ands; go_simp; (try with_reducible rfl))⟩
            case hqz56 => exact fun _ _ _ h => h
            try simp only [Act.put, List.setIfInBounds_toArray, List.set_cons_zero, List.set_cons_succ]
            refine wpAnyH_take (i := 20) (oi := ?oiz57) (v := ?vz57) ?hiz57 ?haz57 ?hbz57 ?hcz57 ?hqz57 ?hyz57 (by assumption) ?restz57
            case hiz57 => (simp only [List.getElem?_toArray, List.getElem?_cons_zero, List.getElem?_cons_succ]; rfl)
            case haz57 => kernel_rfl
            case hbz57 => kernel_rfl
            case hcz57 => kernel_rfl
            case hyz57 => exact Or.inl ⟨by rfl, by (intro w hSw; (try dsimp only at hSw); go_split_ands; go_simp; (try with_reducible rfl))⟩
            case hqz57 => exact fun _ _ _ h => h
            try simp only [Act.put, List.setIfInBounds_toArray, List.set_cons_zero, List.set_cons_succ]
            refine wpAnyH_ready (rs := [6, 19]) (by kernel_rfl) (by simp) ?_
            refine AllReadyH.cons (o := ?oiz58w0) ?hiz58w0 (fun K hK => ?stepz58w0) ?morez58w0
            case hiz58w0 => (simp only [List.getElem?_toArray, List.getElem?_cons_zero, List.getElem?_cons_succ]; rfl)
            go_simp
            refine hK.out _ _ (by first | exact ⟨hd0, hP0, hP1⟩ | exact ⟨hA0, hAP0, hAP1⟩ | exact ⟨hB0, hBP0, hBP1⟩ | exact ⟨hC0, hCP0, hCP1⟩ | exact ⟨hD0, hDP0, hDP1⟩) (fun hHeld => ?_)
            clear hK K
            try simp only [Act.put, List.setIfInBounds_toArray, List.set_cons_zero, List.set_cons_succ]
            refine wpAnyH_ready (rs := [11, 19]) (by kernel_rfl) (by simp) ?_
            refine AllReadyH.cons (o := ?oiz59w0) ?hiz59w0 (fun K hK => ?stepz59w0) ?morez59w0
            case hiz59w0 => (simp only [List.getElem?_toArray, List.getElem?_cons_zero, List.getElem?_cons_succ]; rfl)
            refine step_append_own rfl (.tmp 42) (.tmp 46) 22 rfl wd.heap.size 5 i8 (.int .u8 0) 1 1 Tryd.underlying22 hi8 hz8 hs8 hb8 rfl (by decide) (.slice (some ⟨wd.heap.size, 0, none⟩) 0 0) 0 [] (by simp [Act.eval, Act.put]) HownA.out ⟨gv, 0, none⟩ u cv (u8s (p.2.take u)) (by simp [Act.eval, Act.put]) HlenA.out HnewsA.out (one_u8s _) (by simp only [maxLen]; omega) (by omega) (by show wd.heap.size ≤ (wd.alloc _).heap.size; rw [nblk_alloc]; exact Nat.le_succ _) ?_
            intro v1 w1 hown1 hg1
            have hB := put_below hg1
            have hB0 := (hB.cell (p := ⟨b, 0, none⟩) hbl).trans hd0
            have hBP0 := (hB.cell (p := ⟨wr.heap.size, 0, none⟩) hpl).trans hP0
            have hBP1 := (hB.cell (p := ⟨wr.heap.size, 1, none⟩) hpl).trans hP1
            have hkqB := (hB.cell (p := ⟨kb, q, none⟩) hkl).trans hkq
            have HB := Lib.hid hB
            have HnewsB := Lib.hid (show ∀ (j : Nat) (x : Value), (u8s (row.drop u))[j]? = some x → w1.cell? (adx.add j) = some x by
              intro j x hj
              have hjl := (List.getElem?_eq_some_iff.1 hj).1
              rw [HlenB.out] at hjl
              rw [Hadx.out, if_neg (by omega)]
              exact BRow.part (k := u) (hbko.kept (hB.block go hgol)) j x hj)
            have Hown1 := Lib.hid (show w1.ownsRow wd.heap.size 5 1 v1 u (u8s (p.2.take u)) by simpa using hown1)
            clear hown1 hg1 hB
            refine hK.out _ _ (by first | exact ⟨hd0, hP0, hP1⟩ | exact ⟨hA0, hAP0, hAP1⟩ | exact ⟨hB0, hBP0, hBP1⟩ | exact ⟨hC0, hCP0, hCP1⟩ | exact ⟨hD0, hDP0, hDP1⟩) (fun hHeld => ?_)
            clear hK K
            try simp only [Act.put, List.setIfInBounds_toArray, List.set_cons_zero, List.set_cons_succ]
            refine wpAnyH_ready (rs := [19]) (by kernel_rfl) (by simp) ?_
            refine AllReadyH.cons (o := ?oiz60w0) ?hiz60w0 (fun K hK => ?stepz60w0) ?morez60w0
            case hiz60w0 => (simp only [List.getElem?_toArray, List.getElem?_cons_zero, List.getElem?_cons_succ]; rfl)
            go_simp
            refine hK.out _ _ (by first | exact ⟨hd0, hP0, hP1⟩ | exact ⟨hA0, hAP0, hAP1⟩ | exact ⟨hB0, hBP0, hBP1⟩ | exact ⟨hC0, hCP0, hCP1⟩ | exact ⟨hD0, hDP0, hDP1⟩) (fun hHeld => ?_)
            clear hK K
            try simp only [Act.put, List.setIfInBounds_toArray, List.set_cons_zero, List.set_cons_succ]
            refine wpAnyH_take (i := 21) (oi := ?oiz61) (v := ?vz61) ?hiz61 ?haz61 ?hbz61 ?hcz61 ?hqz61 ?hyz61 (by assumption) ?restz61
            case hiz61 => (simp only [List.getElem?_toArray, List.getElem?_cons_zero, List.getElem?_cons_succ]; rfl)
            case haz61 => kernel_rfl
            case hbz61 => kernel_rfl
            case hcz61 => kernel_rfl
            case hyz61 => exact Or.inl ⟨by rfl, by (intro w hSw; (try dsimp only at hSw); go_split_ands; go_simp; (try with_reducible rfl))⟩
            case hqz61 => exact fun _ _ _ h => h
            try simp only [Act.put, List.setIfInBounds_toArray, List.set_cons_zero, List.set_cons_succ]
            refine wpAnyH_ready (rs := [22]) (by kernel_rfl) (by simp) ?_
            refine AllReadyH.cons (o := ?oiz62w0) ?hiz62w0 (fun K hK => ?stepz62w0) ?morez62w0
            case hiz62w0 => (simp only [List.getElem?_toArray, List.getElem?_cons_zero, List.getElem?_cons_succ]; rfl)
            refine step_append_own rfl (.tmp 47) (.tmp 57) 22 rfl wd.heap.size 5 i8 (.int .u8 0) 1 1 Tryd.underlying22 hi8 hz8 hs8 hb8 rfl (by decide) v1 u (u8s (p.2.take u)) (by simp [Act.eval, Act.put]) Hown1.out adx (128 - u) (co - u) (u8s (row.drop u)) (by simp [Act.eval, Act.put]; rw [Hadx.out]; split <;> (first | rfl | (split <;> (first | rfl | (exfalso; omega))))) HlenB.out HnewsB.out (one_u8s _) (by simp only [maxLen]; omega) (by omega) HB.out.size ?_
            intro v2 w2 hown2 hg2
            have hB2 := HB.out.grown hg2 HB.out.size (fun k hk => (Hown1.out.lt k hk).1)
            obtain ⟨A2, c2, rfl, _⟩ := own_form hown2
            have hC0 := (hB2.cell (p := ⟨b, 0, none⟩) hbl).trans hd0
            have hCP0 := (hB2.cell (p := ⟨wr.heap.size, 0, none⟩) hpl).trans hP0
            have hCP1 := (hB2.cell (p := ⟨wr.heap.size, 1, none⟩) hpl).trans hP1
            have hkqC := (hB2.cell (p := ⟨kb, q, none⟩) hkl).trans hkq
            have hkfC : w2.frozen? ⟨kb, q, none⟩ = false := (hB2.frozen (p := ⟨kb, q, none⟩) hkl).trans hfq
            have hnbk : b ≠ kb := Hd.out.head.ne Hd.out.kept (by decide)
            have hnpk : wr.heap.size ≠ kb := hPd.ne Hd.out.kept (by decide)
            have hD0 := (World.cell?_setCell_other w2 ⟨kb, q, none⟩ ⟨b, 0, none⟩ (.slice A2 (u + (128 - u)) c2) (fun e => by cases e; exact hnbk rfl)).trans hC0
            have hDP0 := (World.cell?_setCell_other w2 ⟨kb, q, none⟩ ⟨wr.heap.size, 0, none⟩ (.slice A2 (u + (128 - u)) c2) (fun e => hnpk (congrArg Addr.block e).symm)).trans hCP0
            have hDP1 := (World.cell?_setCell_other w2 ⟨kb, q, none⟩ ⟨wr.heap.size, 1, none⟩ (.slice A2 (u + (128 - u)) c2) (fun e => hnpk (congrArg Addr.block e).symm)).trans hCP1
            have Hend := Lib.hid (torn_end Hd.out HOd.out.size Hfin.out hql hB2 (row := p.2.take u ++ row.drop u) (by simpa [u8s] using hown2) (by omega) (byte128_torn Hwt.out.2.2 Hor.out (by omega)).1)
            have HB2 := Lib.hid hB2
            clear hown2 hg2 hB2
            refine hK.out _ _ (by first | exact ⟨hd0, hP0, hP1⟩ | exact ⟨hA0, hAP0, hAP1⟩ | exact ⟨hB0, hBP0, hBP1⟩ | exact ⟨hC0, hCP0, hCP1⟩ | exact ⟨hD0, hDP0, hDP1⟩) (fun hHeld => ?_)
            clear hK K
            try simp only [Act.put, List.setIfInBounds_toArray, List.set_cons_zero, List.set_cons_succ]
            refine wpAnyH_take (i := 23) (oi := ?oiz63) (v := ?vz63) ?hiz63 ?haz63 ?hbz63 ?hcz63 ?hqz63 ?hyz63 (by assumption) ?restz63
            case hiz63 => (simp only [List.getElem?_toArray, List.getElem?_cons_zero, List.getElem?_cons_succ]; rfl)
            case haz63 => kernel_rfl
            case hbz63 => kernel_rfl
            case hcz63 => kernel_rfl
            case hyz63 => exact Or.inl ⟨by rfl, by (intro w hSw; (try dsimp only at hSw); go_split_ands; go_simp; (try with_reducible rfl))⟩
            case hqz63 => exact fun _ _ _ h => h
            try simp only [Act.put, List.setIfInBounds_toArray, List.set_cons_zero, List.set_cons_succ]
            refine wpAnyH_ready (rs := [24]) (by kernel_rfl) (by simp) ?_
            refine AllReadyH.cons (o := ?oiz64w0) ?hiz64w0 (fun K hK => ?stepz64w0) ?morez64w0
            case hiz64w0 => (simp only [List.getElem?_toArray, List.getElem?_cons_zero, List.getElem?_cons_succ]; rfl)
            go_simp
            refine hK.out _ _ (by first | exact ⟨hd0, hP0, hP1⟩ | exact ⟨hA0, hAP0, hAP1⟩ | exact ⟨hB0, hBP0, hBP1⟩ | exact ⟨hC0, hCP0, hCP1⟩ | exact ⟨hD0, hDP0, hDP1⟩) (fun hHeld => ?_)
            clear hK K
            try simp only [Act.put, List.setIfInBounds_toArray, List.set_cons_zero, List.set_cons_succ]
            refine wpAnyH_done (by kernel_rfl) ?_ _
            rotate_left
            exact AllReadyH.nil
            exact AllReadyH.nil
            exact AllReadyH.nil
            refine AllReadyH.cons (o := ?oiz59w1) ?hiz59w1 (fun K hK => ?stepz59w1) ?morez59w1
            case hiz59w1 => (simp only [List.getElem?_toArray, List.getElem?_cons_zero, List.getElem?_cons_succ]; rfl)
            go_simp
            refine hK.out _ _ (by first | exact ⟨hd0, hP0, hP1⟩ | exact ⟨hA0, hAP0, hAP1⟩ | exact ⟨hB0, hBP0, hBP1⟩ | exact ⟨hC0, hCP0, hCP1⟩ | exact ⟨hD0, hDP0, hDP1⟩) (fun hHeld => ?_)
            clear hK K
            try simp only [Act.put, List.setIfInBounds_toArray, List.set_cons_zero, List.set_cons_succ]
            refine wpAnyH_take (i := 21) (oi := ?oiz66) (v := ?vz66) ?hiz66 ?haz66 ?hbz66 ?hcz66 ?hqz66 ?hyz66 (by assumption) ?restz66
            case hiz66 => (simp only [List.getElem?_toArray, List.getElem?_cons_zero, List.getElem?_cons_succ]; rfl)
            case haz66 => kernel_rfl
            case hbz66 => kernel_rfl
            case hcz66 => kernel_rfl
            case hyz66 => exact Or.inl ⟨by rfl, by (intro w hSw; (try dsimp only at hSw); go_split_ands; go_simp; (try with_reducible rfl))⟩
            case hqz66 => exact fun _ _ _ h => h
            try simp only [Act.put, List.setIfInBounds_toArray, List.set_cons_zero, List.set_cons_succ]
            refine wpAnyH_ready (rs := [11]) (by kernel_rfl) (by simp) ?_
            refine AllReadyH.cons (o := ?oiz67w0) ?hiz67w0 (fun K hK => ?stepz67w0) ?morez67w0
            case hiz67w0 => (simp only [List.getElem?_toArray, List.getElem?_cons_zero, List.getElem?_cons_succ]; rfl)
            refine step_append_own rfl (.tmp 42) (.tmp 46) 22 rfl wd.heap.size 5 i8 (.int .u8 0) 1 1 Tryd.underlying22 hi8 hz8 hs8 hb8 rfl (by decide) (.slice (some ⟨wd.heap.size, 0, none⟩) 0 0) 0 [] (by simp [Act.eval, Act.put]) HownA.out ⟨gv, 0, none⟩ u cv (u8s (p.2.take u)) (by simp [Act.eval, Act.put]) HlenA.out HnewsA.out (one_u8s _) (by simp only [maxLen]; omega) (by omega) (by show wd.heap.size ≤ (wd.alloc _).heap.size; rw [nblk_alloc]; exact Nat.le_succ _) ?_
            intro v1 w1 hown1 hg1
            have hB := put_below hg1
            have hB0 := (hB.cell (p := ⟨b, 0, none⟩) hbl).trans hd0
            have hBP0 := (hB.cell (p := ⟨wr.heap.size, 0, none⟩) hpl).trans hP0
            have hBP1 := (hB.cell (p := ⟨wr.heap.size, 1, none⟩) hpl).trans hP1
            have hkqB := (hB.cell (p := ⟨kb, q, none⟩) hkl).trans hkq
            have HB := Lib.hid hB
            have HnewsB := Lib.hid (show ∀ (j : Nat) (x : Value), (u8s (row.drop u))[j]? = some x → w1.cell? (adx.add j) = some x by
              intro j x hj
              have hjl := (List.getElem?_eq_some_iff.1 hj).1
              rw [HlenB.out] at hjl
              rw [Hadx.out, if_neg (by omega)]
              exact BRow.part (k := u) (hbko.kept (hB.block go hgol)) j x hj)
            have Hown1 := Lib.hid (show w1.ownsRow wd.heap.size 5 1 v1 u (u8s (p.2.take u)) by simpa using hown1)
            clear hown1 hg1 hB
            refine hK.out _ _ (by first | exact ⟨hd0, hP0, hP1⟩ | exact ⟨hA0, hAP0, hAP1⟩ | exact ⟨hB0, hBP0, hBP1⟩ | exact ⟨hC0, hCP0, hCP1⟩ | exact ⟨hD0, hDP0, hDP1⟩) (fun hHeld => ?_)
            clear hK K
            try simp only [Act.put, List.setIfInBounds_toArray, List.set_cons_zero, List.set_cons_succ]
            refine wpAnyH_ready (rs := [22]) (by kernel_rfl) (by simp) ?_
            refine AllReadyH.cons (o := ?oiz68w0) ?hiz68w0 (fun K hK => ?stepz68w0) ?morez68w0
            case hiz68w0 => (simp only [List.getElem?_toArray, List.getElem?_cons_zero, List.getElem?_cons_succ]; rfl)
            refine step_append_own rfl (.tmp 47) (.tmp 57) 22 rfl wd.heap.size 5 i8 (.int .u8 0) 1 1 Tryd.underlying22 hi8 hz8 hs8 hb8 rfl (by decide) v1 u (u8s (p.2.take u)) (by simp [Act.eval, Act.put]) Hown1.out adx (128 - u) (co - u) (u8s (row.drop u)) (by simp [Act.eval, Act.put]; rw [Hadx.out]; split <;> (first | rfl | (split <;> (first | rfl | (exfalso; omega))))) HlenB.out HnewsB.out (one_u8s _) (by simp only [maxLen]; omega) (by omega) HB.out.size ?_
            intro v2 w2 hown2 hg2
            have hB2 := HB.out.grown hg2 HB.out.size (fun k hk => (Hown1.out.lt k hk).1)
            obtain ⟨A2, c2, rfl, _⟩ := own_form hown2
            have hC0 := (hB2.cell (p := ⟨b, 0, none⟩) hbl).trans hd0
            have hCP0 := (hB2.cell (p := ⟨wr.heap.size, 0, none⟩) hpl).trans hP0
            have hCP1 := (hB2.cell (p := ⟨wr.heap.size, 1, none⟩) hpl).trans hP1
            have hkqC := (hB2.cell (p := ⟨kb, q, none⟩) hkl).trans hkq
            have hkfC : w2.frozen? ⟨kb, q, none⟩ = false := (hB2.frozen (p := ⟨kb, q, none⟩) hkl).trans hfq
            have hnbk : b ≠ kb := Hd.out.head.ne Hd.out.kept (by decide)
            have hnpk : wr.heap.size ≠ kb := hPd.ne Hd.out.kept (by decide)
            have hD0 := (World.cell?_setCell_other w2 ⟨kb, q, none⟩ ⟨b, 0, none⟩ (.slice A2 (u + (128 - u)) c2) (fun e => by cases e; exact hnbk rfl)).trans hC0
            have hDP0 := (World.cell?_setCell_other w2 ⟨kb, q, none⟩ ⟨wr.heap.size, 0, none⟩ (.slice A2 (u + (128 - u)) c2) (fun e => hnpk (congrArg Addr.block e).symm)).trans hCP0
            have hDP1 := (World.cell?_setCell_other w2 ⟨kb, q, none⟩ ⟨wr.heap.size, 1, none⟩ (.slice A2 (u + (128 - u)) c2) (fun e => hnpk (congrArg Addr.block e).symm)).trans hCP1
            have Hend := Lib.hid (torn_end Hd.out HOd.out.size Hfin.out hql hB2 (row := p.2.take u ++ row.drop u) (by simpa [u8s] using hown2) (by omega) (byte128_torn Hwt.out.2.2 Hor.out (by omega)).1)
            have HB2 := Lib.hid hB2
            clear hown2 hg2 hB2
            refine hK.out _ _ (by first | exact ⟨hd0, hP0, hP1⟩ | exact ⟨hA0, hAP0, hAP1⟩ | exact ⟨hB0, hBP0, hBP1⟩ | exact ⟨hC0, hCP0, hCP1⟩ | exact ⟨hD0, hDP0, hDP1⟩) (fun hHeld => ?_)
            clear hK K
            try simp only [Act.put, List.setIfInBounds_toArray, List.set_cons_zero, List.set_cons_succ]
            refine wpAnyH_take (i := 23) (oi := ?oiz69) (v := ?vz69) ?hiz69 ?haz69 ?hbz69 ?hcz69 ?hqz69 ?hyz69 (by assumption) ?restz69
            case hiz69 => (simp only [List.getElem?_toArray, List.getElem?_cons_zero, List.getElem?_cons_succ]; rfl)
            case haz69 => kernel_rfl
            case hbz69 => kernel_rfl
            case hcz69 => kernel_rfl
            case hyz69 => exact Or.inl ⟨by rfl, by (intro w hSw; (try dsimp only at hSw); go_split_ands; go_simp; (try with_reducible rfl))⟩
            case hqz69 => exact fun _ _ _ h => h
            try simp only [Act.put, List.setIfInBounds_toArray, List.set_cons_zero, List.set_cons_succ]
            refine wpAnyH_ready (rs := [24]) (by kernel_rfl) (by simp) ?_
            refine AllReadyH.cons (o := ?oiz70w0) ?hiz70w0 (fun K hK => ?stepz70w0) ?morez70w0
            case hiz70w0 => (simp only [List.getElem?_toArray, List.getElem?_cons_zero, List.getElem?_cons_succ]; rfl)
            go_simp
            refine hK.out _ _ (by first | exact ⟨hd0, hP0, hP1⟩ | exact ⟨hA0, hAP0, hAP1⟩ | exact ⟨hB0, hBP0, hBP1⟩ | exact ⟨hC0, hCP0, hCP1⟩ | exact ⟨hD0, hDP0, hDP1⟩) (fun hHeld => ?_)
            clear hK K
            try simp only [Act.put, List.setIfInBounds_toArray, List.set_cons_zero, List.set_cons_succ]
            refine wpAnyH_done (by kernel_rfl) ?_ _
            rotate_left
            exact AllReadyH.nil
            exact AllReadyH.nil
            exact AllReadyH.nil
            exact AllReadyH.nil
            refine AllReadyH.cons (o := ?oiz58w1) ?hiz58w1 (fun K hK => ?stepz58w1) ?morez58w1
            case hiz58w1 => (simp only [List.getElem?_toArray, List.getElem?_cons_zero, List.getElem?_cons_succ]; rfl)
            go_simp
            refine hK.out _ _ (by first | exact ⟨hd0, hP0, hP1⟩ | exact ⟨hA0, hAP0, hAP1⟩ | exact ⟨hB0, hBP0, hBP1⟩ | exact ⟨hC0, hCP0, hCP1⟩ | exact ⟨hD0, hDP0, hDP1⟩) (fun hHeld => ?_)
            clear hK K
            try simp only [Act.put, List.setIfInBounds_toArray, List.set_cons_zero, List.set_cons_succ]
            refine wpAnyH_take (i := 21) (oi := ?oiz72) (v := ?vz72) ?hiz72 ?haz72 ?hbz72 ?hcz72 ?hqz72 ?hyz72 (by assumption) ?restz72
            case hiz72 => (simp only [List.getElem?_toArray, List.getElem?_cons_zero, List.getElem?_cons_succ]; rfl)
            case haz72 => kernel_rfl
            case hbz72 => kernel_rfl
            case hcz72 => kernel_rfl
            case hyz72 => exact Or.inl ⟨by rfl, by (intro w hSw; (try dsimp only at hSw); go_split_ands; go_simp; (try with_reducible rfl))⟩
            case hqz72 => exact fun _ _ _ h => h
            try simp only [Act.put, List.setIfInBounds_toArray, List.set_cons_zero, List.set_cons_succ]
            refine wpAnyH_ready (rs := [6]) (by kernel_rfl) (by simp) ?_
            refine AllReadyH.cons (o := ?oiz73w0) ?hiz73w0 (fun K hK => ?stepz73w0) ?morez73w0
            case hiz73w0 => (simp only [List.getElem?_toArray, List.getElem?_cons_zero, List.getElem?_cons_succ]; rfl)
            go_simp
            refine hK.out _ _ (by first | exact ⟨hd0, hP0, hP1⟩ | exact ⟨hA0, hAP0, hAP1⟩ | exact ⟨hB0, hBP0, hBP1⟩ | exact ⟨hC0, hCP0, hCP1⟩ | exact ⟨hD0, hDP0, hDP1⟩) (fun hHeld => ?_)
            clear hK K
            try simp only [Act.put, List.setIfInBounds_toArray, List.set_cons_zero, List.set_cons_succ]
            refine wpAnyH_ready (rs := [11]) (by kernel_rfl) (by simp) ?_
            refine AllReadyH.cons (o := ?oiz74w0) ?hiz74w0 (fun K hK => ?stepz74w0) ?morez74w0
            case hiz74w0 => (simp only [List.getElem?_toArray, List.getElem?_cons_zero, List.getElem?_cons_succ]; rfl)
            refine step_append_own rfl (.tmp 42) (.tmp 46) 22 rfl wd.heap.size 5 i8 (.int .u8 0) 1 1 Tryd.underlying22 hi8 hz8 hs8 hb8 rfl (by decide) (.slice (some ⟨wd.heap.size, 0, none⟩) 0 0) 0 [] (by simp [Act.eval, Act.put]) HownA.out ⟨gv, 0, none⟩ u cv (u8s (p.2.take u)) (by simp [Act.eval, Act.put]) HlenA.out HnewsA.out (one_u8s _) (by simp only [maxLen]; omega) (by omega) (by show wd.heap.size ≤ (wd.alloc _).heap.size; rw [nblk_alloc]; exact Nat.le_succ _) ?_
            intro v1 w1 hown1 hg1
            have hB := put_below hg1
            have hB0 := (hB.cell (p := ⟨b, 0, none⟩) hbl).trans hd0
            have hBP0 := (hB.cell (p := ⟨wr.heap.size, 0, none⟩) hpl).trans hP0
            have hBP1 := (hB.cell (p := ⟨wr.heap.size, 1, none⟩) hpl).trans hP1
            have hkqB := (hB.cell (p := ⟨kb, q, none⟩) hkl).trans hkq
            have HB := Lib.hid hB
            have HnewsB := Lib.hid (show ∀ (j : Nat) (x : Value), (u8s (row.drop u))[j]? = some x → w1.cell? (adx.add j) = some x by
              intro j x hj
              have hjl := (List.getElem?_eq_some_iff.1 hj).1
              rw [HlenB.out] at hjl
              rw [Hadx.out, if_neg (by omega)]
              exact BRow.part (k := u) (hbko.kept (hB.block go hgol)) j x hj)
            have Hown1 := Lib.hid (show w1.ownsRow wd.heap.size 5 1 v1 u (u8s (p.2.take u)) by simpa using hown1)
            clear hown1 hg1 hB
            refine hK.out _ _ (by first | exact ⟨hd0, hP0, hP1⟩ | exact ⟨hA0, hAP0, hAP1⟩ | exact ⟨hB0, hBP0, hBP1⟩ | exact ⟨hC0, hCP0, hCP1⟩ | exact ⟨hD0, hDP0, hDP1⟩) (fun hHeld => ?_)
            clear hK K
            try simp only [Act.put, List.setIfInBounds_toArray, List.set_cons_zero, List.set_cons_succ]
            refine wpAnyH_ready (rs := [22]) (by kernel_rfl) (by simp) ?_
            refine AllReadyH.cons (o := ?oiz75w0) ?hiz75w0 (fun K hK => ?stepz75w0) ?morez75w0
            case hiz75w0 => (simp only [List.getElem?_toArray, List.getElem?_cons_zero, List.getElem?_cons_succ]; rfl)
            refine step_append_own rfl (.tmp 47) (.tmp 57) 22 rfl wd.heap.size 5 i8 (.int .u8 0) 1 1 Tryd.underlying22 hi8 hz8 hs8 hb8 rfl (by decide) v1 u (u8s (p.2.take u)) (by simp [Act.eval, Act.put]) Hown1.out adx (128 - u) (co - u) (u8s (row.drop u)) (by simp [Act.eval, Act.put]; rw [Hadx.out]; split <;> (first | rfl | (split <;> (first | rfl | (exfalso; omega))))) HlenB.out HnewsB.out (one_u8s _) (by simp only [maxLen]; omega) (by omega) HB.out.size ?_
            intro v2 w2 hown2 hg2
            have hB2 := HB.out.grown hg2 HB.out.size (fun k hk => (Hown1.out.lt k hk).1)
            obtain ⟨A2, c2, rfl, _⟩ := own_form hown2
            have hC0 := (hB2.cell (p := ⟨b, 0, none⟩) hbl).trans hd0
            have hCP0 := (hB2.cell (p := ⟨wr.heap.size, 0, none⟩) hpl).trans hP0
            have hCP1 := (hB2.cell (p := ⟨wr.heap.size, 1, none⟩) hpl).trans hP1
            have hkqC := (hB2.cell (p := ⟨kb, q, none⟩) hkl).trans hkq
            have hkfC : w2.frozen? ⟨kb, q, none⟩ = false := (hB2.frozen (p := ⟨kb, q, none⟩) hkl).trans hfq
            have hnbk : b ≠ kb := Hd.out.head.ne Hd.out.kept (by decide)
            have hnpk : wr.heap.size ≠ kb := hPd.ne Hd.out.kept (by decide)
            have hD0 := (World.cell?_setCell_other w2 ⟨kb, q, none⟩ ⟨b, 0, none⟩ (.slice A2 (u + (128 - u)) c2) (fun e => by cases e; exact hnbk rfl)).trans hC0
            have hDP0 := (World.cell?_setCell_other w2 ⟨kb, q, none⟩ ⟨wr.heap.size, 0, none⟩ (.slice A2 (u + (128 - u)) c2) (fun e => hnpk (congrArg Addr.block e).symm)).trans hCP0
            have hDP1 := (World.cell?_setCell_other w2 ⟨kb, q, none⟩ ⟨wr.heap.size, 1, none⟩ (.slice A2 (u + (128 - u)) c2) (fun e => hnpk (congrArg Addr.block e).symm)).trans hCP1
            have Hend := Lib.hid (torn_end Hd.out HOd.out.size Hfin.out hql hB2 (row := p.2.take u ++ row.drop u) (by simpa [u8s] using hown2) (by omega) (byte128_torn Hwt.out.2.2 Hor.out (by omega)).1)
            have HB2 := Lib.hid hB2
            clear hown2 hg2 hB2
            refine hK.out _ _ (by first | exact ⟨hd0, hP0, hP1⟩ | exact ⟨hA0, hAP0, hAP1⟩ | exact ⟨hB0, hBP0, hBP1⟩ | exact ⟨hC0, hCP0, hCP1⟩ | exact ⟨hD0, hDP0, hDP1⟩) (fun hHeld => ?_)
            clear hK K
            try simp only [Act.put, List.setIfInBounds_toArray, List.set_cons_zero, List.set_cons_succ]
            refine wpAnyH_take (i := 23) (oi := ?oiz76) (v := ?vz76) ?hiz76 ?haz76 ?hbz76 ?hcz76 ?hqz76 ?hyz76 (by assumption) ?restz76
            case hiz76 => (simp only [List.getElem?_toArray, List.getElem?_cons_zero, List.getElem?_cons_succ]; rfl)
            case haz76 => kernel_rfl
            case hbz76 => kernel_rfl
            case hcz76 => kernel_rfl
            case hyz76 => exact Or.inl ⟨by rfl, by (intro w hSw; (try dsimp only at hSw); go_split_ands; go_simp; (try with_reducible rfl))⟩
            case hqz76 => exact fun _ _ _ h => h
            try simp only [Act.put, List.setIfInBounds_toArray, List.set_cons_zero, List.set_cons_succ]
            refine wpAnyH_ready (rs := [24]) (by kernel_rfl) (by simp) ?_
            refine AllReadyH.cons (o := ?oiz77w0) ?hiz77w0 (fun K hK => ?stepz77w0) ?morez77w0
            case hiz77w0 => (simp only [List.getElem?_toArray, List.getElem?_cons_zero, List.getElem?_cons_succ]; rfl)
            go_simp
            refine hK.out _ _ (by first | exact ⟨hd0, hP0, hP1⟩ | exact ⟨hA0, hAP0, hAP1⟩ | exact ⟨hB0, hBP0, hBP1⟩ | exact ⟨hC0, hCP0, hCP1⟩ | exact ⟨hD0, hDP0, hDP1⟩) (fun hHeld => ?_)
            clear hK K
            try simp only [Act.put, List.setIfInBounds_toArray, List.set_cons_zero, List.set_cons_succ]
            refine wpAnyH_done (by kernel_rfl) ?_ _
            rotate_left
            exact AllReadyH.nil
            exact AllReadyH.nil
            exact AllReadyH.nil
            exact AllReadyH.nil
            exact AllReadyH.nil
            all_goals
              generalize (if co = u then some (⟨go, 0, none⟩ : Addr) else some ⟨go, u, none⟩) = az
              obtain ⟨w3, hw3⟩ : ∃ w3, w3 = w2.setCell ⟨kb, q, none⟩ (.slice A2 (u + (128 - u)) c2) := ⟨_, rfl⟩
              have HE := Hend.out
              rw [← hw3] at HE ⊢
              have hO3 : Only F w w3 := by
                rw [hw3]
                refine (HOd.out.trans (Only.of_below (F := F) HB2.out) (fun _ _ h => h)).set ?_ _
                rcases Hd.out.fk with hk | hk
                · exact Or.inr hk
                · exact Or.inl hk.1
              have hib : w3.cell? ⟨b, 1, none⟩ = some (.slice (some ⟨ib, 0, none⟩) K ci) := by
                have h5 := HE.head.cell (i := 1) rfl
                rw [h5]
                show some (Value.slice _ ((S.crashTo cs j).kept.set q _).length _) = _
                rw [List.length_set, HK.out]
              have hN3 : w3.cell? ⟨wr.heap.size, 0, none⟩ = some (.int .i64 (q : Int)) := by rw [hw3]; exact hDP0
              obtain ⟨uo, huo⟩ : ∃ u, (S.crashTo cs j).inn[q]? = some u := ⟨_, List.getElem?_eq_getElem (by rw [Hwf.out.ninn]; exact hql)⟩
              have hco' : w3.cell? ⟨ib, q, none⟩ = some (.bool uo) := HE.inn.cell (by rw [List.getElem?_append_left (by rw [List.length_map]; show q < (S.crashTo cs j).inn.length; rw [Hwf.out.ninn]; exact hql), List.getElem?_map]; show (S.crashTo cs j).inn[q]?.map _ = _; rw [huo]; rfl)
              have hfo' := HE.inn.frozen q
              have h2 := HE.upInn (by show (S.crashTo cs j).inn.length = ((S.crashTo cs j).kept.set q _).length; rw [List.length_set, Hwf.out.ninn]) q (by show q < ((S.crashTo cs j).kept.set q _).length; rw [List.length_set]; exact hql) true
              have hO4 : Only F w (w3.setCell ⟨ib, q, none⟩ (.bool true)) := by
                refine hO3.set ?_ _
                rcases Hd.out.fi with hk | hk
                · exact Or.inr hk
                · exact Or.inl hk.1
              have hfin : RD (More F w (w3.setCell ⟨ib, q, none⟩ (.bool true))) (w3.setCell ⟨ib, q, none⟩ (.bool true)) b (S.crashTo cs (j + 1)) := by
                have h0 := Hwf.out.crash1 (p := p) (c := u) (List.mem_of_getElem? Hp.out) (by omega)
                have e := crash1_pos (S.crashTo cs j) p (c := u) (by omega) Hqn.out
                rw [e] at h0
                rw [Hnext.out, Hcut.out, e]
                rw [← Hrow.out] at h0 ⊢
                exact (RD.of h0 h2).mono (fun k _ hf => by
                  rcases hf with hf | hf
                  · exact Or.inl hf
                  · exact Or.inr ⟨hf.1, by rw [nblk_setCell, hw3, nblk_setCell]; exact hf.2⟩) (fun k hk => by
                  rcases hk with hk | hk
                  · have := Hfin.out k hk; have := hO4.size; omega
                  · exact hk.2)
              have Hfin2 := Lib.hid hfin
              have HO4 := Lib.hid hO4
              obtain ⟨w5, hw5⟩ : ∃ w5, w5 = w3.setCell ⟨ib, q, none⟩ (.bool true) := ⟨_, rfl⟩
              rw [← hw5] at Hfin2 HO4
              have Hw5 := Lib.hid hw5
              clear hfin hO4 hO3 h2 hw5 hw3 huo HE hd0 hd1 hP0 hP1 hkq hfq hA0 hAP0 hAP1 hkqA hB0 hBP0 hBP1 hkqB hC0 hCP0 hCP1 hkqC hkfC hD0 hDP0 hDP1
              go_wp2
              go_region
              all_goals
                rw [← Hw5.out]
                have hfin2 := Hfin2.out.keep (w' := w5.drew) (Nat.le_refl _) (fun _ _ => rfl)
                have hO5 := HO4.out.drew
                have hfin3 : RD (More F w w5.drew) w5.drew b (S.crashTo cs (j + 1)) := hfin2
                clear Hw5 hfin2
                generalize w5.drew = w6 at *
                go_wp2
                go_roundw
                case rel => exact ⟨j + 1, by omega, by go_num, hfin3, hO5⟩
                case measure => simp [intOf]; omega
      · have Hnone := Lib.hid (show S.crashTo cs (j + 1) = S.crashTo cs j by
          rw [hnext, show cutAt cs j = 0 by
            unfold cutAt
            rw [show cs.getD j 0 = 0 by simp [List.getD, List.getElem?_eq_none (show cs.length ≤ j by rw [Hln.out]; omega)]]
            rfl]
          rfl)
        have hjI : ¬ (j : Int) < (n : Int) := by omega
        clear hnext  hq hqn hv hwt hp hp' hpn hw
        go_wp2
        rw [← Hwd.out]
        go_roundw
        case rel => exact ⟨j + 1, by omega, by go_num, by rw [Hnone.out]; exact Hrd.out, HOd.out⟩
        case measure => simp [intOf]; omega
    · obtain rfl : j = m := by omega
      have hf2 := h.head.frozen 2
      have hf4 := h.head.frozen 4
      have hf5 := h.head.frozen 5
      have hc4 := h.head.cell (i := 4) rfl
      have hc5 := h.head.cell (i := 5) rfl
      have h1 := h.upNone
      have h2 := h1.upHead 5 (.bool false) (S.crashTo cs j).cut false rfl
      have h3 := h2.upHead 4 (.int .i64 (-1)) (-1) false rfl
      have hbF : F b ∨ w.heap.size ≤ b := by
        rcases h.fb with hk | hk
        · exact Or.inl hk
        · exact Or.inr hk.1
      have hO3 := Lib.hid (((hO.set (a := ⟨b, 2, none⟩) hbF.symm (.slice none 0 0)).set (a := ⟨b, 5, none⟩) hbF.symm (.bool false)).set (a := ⟨b, 4, none⟩) hbF.symm (.int .i64 (-1)))
      have hfin := Lib.hid (show RD (More F w (((wr.setCell ⟨b, 2, none⟩ (.slice none 0 0)).setCell ⟨b, 5, none⟩ (.bool false)).setCell ⟨b, 4, none⟩ (.int .i64 (-1)))) (((wr.setCell ⟨b, 2, none⟩ (.slice none 0 0)).setCell ⟨b, 5, none⟩ (.bool false)).setCell ⟨b, 4, none⟩ (.int .i64 (-1))) b (S.crashed cs) by
        unfold DS.crashed
        rw [← Hm.out]
        refine (RD.of ((hwf.noWaits).cutOff (-1) false (by omega) (by omega)) h3).mono (fun k _ hf => by
          rcases hf with hf | hf
          · exact Or.inl hf
          · exact Or.inr ⟨hf.1, by rw [nblk_setCell, nblk_setCell, nblk_setCell]; exact hf.2⟩) (fun k hk => by
          rw [nblk_setCell, nblk_setCell, nblk_setCell]
          rcases hk with hk | hk
          · have := Hfin.out k hk; have := hO.size; omega
          · have := hk.2; rwa [nblk_setCell, nblk_setCell, nblk_setCell] at this))
      clear h1 h2 h3 hO
      go_wp2
      go_end0
      exact ⟨rfl, hfin.out, hO3.out⟩
end Go.Proofs.YteliebinhdphlaaDoor

/- The document's disk: Image, New. -/
namespace Go.Proofs.YteliebinhdphlaaDoor
set_option maxRecDepth 100000
open Go.RowKit Go.Deep
set_option linter.unusedSimpArgs false
set_option linter.unusedVariables false

theorem flat_take_succ {l : List (List Int)} {j : Nat} {r : List Int} (h : l[j]? = some r) : (l.take (j + 1)).flatten = (l.take j).flatten ++ r := by
  rw [take_snoc _ _ _ h, List.flatten_append]; simp
theorem flat_len128 {l : List (List Int)} (h : ∀ r ∈ l, r.length = 128) (j : Nat) : (l.take j).flatten.length = 128 * min j l.length := by
  induction j with
  | zero => simp
  | succ j ih =>
    by_cases hj : j < l.length
    · rw [flat_take_succ (List.getElem?_eq_getElem hj), List.length_append, ih, h _ (List.getElem_mem hj)]; omega
    · rw [List.take_of_length_le (by omega)]
      rw [List.take_of_length_le (by omega)] at ih
      rw [ih]; omega

set_option maxHeartbeats 1600000 in
theorem rimage_is (F : Nat → Prop) (w : World) (b : Nat) (S : DS) (h : RD F w b S) :
    Calls Tryd.prog 19 #[.pointer (some ⟨b, 0, none⟩)] w fun e w' => ∃ v, e = .returned v ∧ w'.ownsRow w.heap.size 5 1 v (128 * S.kept.length) (u8s S.kept.flatten) ∧ Below w.heap.size w w' := by
  obtain ⟨hwf, kb, ib, ob, ck, ci, spk, spi, vw, kv, ps, h⟩ := h
  have hn2 := hwf.n2
  obtain ⟨K, hK⟩ : ∃ K, K = S.kept.length := ⟨_, rfl⟩
  have HK := Lib.hid hK
  have Hh := Lib.hid h
  have Hwf := Lib.hid hwf
  obtain ⟨i8, hi8, hz8, hs8, hb8⟩ := info_parts' info_u8
  rw [← hK] at hn2 ⊢
  clear hK h hwf
  go_enter Tryd.func19, Tryd.ntmps19
  go_wp2
  go_loopw [3, 4] (fun v i wr => ∃ j : Nat, j ≤ K ∧ i = .int .i64 j ∧ wr.ownsRow w.heap.size 5 1 v (128 * j) (u8s (S.kept.take j).flatten) ∧ Below w.heap.size w wr) (fun _ i _ => K - (intOf i).toNat)
  case atStart => exact ⟨0, by omega, rfl, World.ownsRow_nil _ _ _ _, Below.refl _ _⟩
  case round =>
    obtain ⟨j, hj, rfl, hown, hb⟩ := hrel
    have h2 := Hh.out.keep (w' := wr) hb.size (fun k hk => hb.block k (Hh.out.fin k hk))
    have hc0 : wr.cell? ⟨b, 0, none⟩ = some (.slice (some ⟨kb, 0, none⟩) K ck) := by rw [HK.out]; exact h2.head.cell (i := 0) rfl
    have hsz := hb.size
    by_cases hlt : j < K
    · obtain ⟨row, hrow⟩ : ∃ r, S.kept[j]? = some r := ⟨_, List.getElem?_eq_getElem (by rw [← HK.out]; exact hlt)⟩
      obtain ⟨vr, hvr, hbr⟩ := h2.krow j row hrow
      have hr128 := (Hwf.out.rows row (List.mem_of_getElem? hrow)).1
      obtain ⟨Ar, cr, rfl, hsl, _⟩ := hbr.sl
      have hck : wr.cell? ⟨kb, j, none⟩ = some (.slice Ar row.length cr) := h2.kept.cell (by rw [List.getElem?_append_left (by rw [h2.kvn, ← HK.out]; exact hlt)]; exact hvr)
      rw [hr128] at hck hsl
      have hjI : (j : Int) < (K : Int) := by omega
      have Hnext := Lib.hid (flat_take_succ hrow)
      clear hrow hvr hr128
      go_wp2_with (at_builtin; refine wpList_cat (.tmp 14) (.tmp 21) 22 5 i8 _ 1 rfl rfl Tryd.underlying22 hi8 hz8 hs8 hb8 rfl w.heap.size _ _ _ hown _ _ _ _ hsl rfl rfl (one_u8s _) (by omega) (by omega) hsz ?_; intro v3 w3 hown3 hg3 hb3 hz3)
      go_roundw
      case rel => exact ⟨j + 1, by omega, by go_num, by rw [Hnext.out, show 128 * (j + 1) = 128 * j + 128 by omega]; simpa [u8s] using hown3, hb.trans hb3⟩
      case measure => simp [intOf]; omega
    · obtain rfl : j = K := by omega
      go_wp2
      go_ret
      exact ⟨_, rfl, by rwa [List.take_of_length_le (by rw [HK.out]; exact Nat.le_refl _)] at hown, hb⟩
end Go.Proofs.YteliebinhdphlaaDoor

/- The document's disk: New. -/
namespace Go.Proofs.YteliebinhdphlaaDoor
set_option maxRecDepth 100000
open Go.RowKit Go.Deep
set_option linter.unusedSimpArgs false
set_option linter.unusedVariables false

/-- A disk of noughts. -/
def DS.new (n : Nat) (room : Int) : DS := { kept := List.replicate n zeros128, inn := List.replicate n false, waits := [], room := room, cut := -1, off := false, ops := [0, 0, 0] }
theorem zeros_byte : Byte128 zeros128 := ⟨by simp [zeros128], fun x hx => by have := List.eq_of_mem_replicate hx; omega⟩
theorem DWf.new {n : Nat} {room : Int} (h1 : 1 ≤ n) (h2 : n ≤ 4096) (h3 : 0 ≤ room) (h4 : room ≤ 4096) : DWf (DS.new n room) :=
  ⟨by simpa [DS.new] using h1, by simpa [DS.new] using h2, by simp [DS.new], fun r hr => by rw [List.eq_of_mem_replicate hr]; exact zeros_byte, fun p hp => by simp [DS.new] at hp, h3, h4, by show (-1 : Int) ≤ -1; omega, by show (-1 : Int) ≤ _; omega, rfl, fun x hx => by simp [DS.new] at hx; omega⟩

theorem info_bytes : (Tryd.prog.info? 22).map (fun i => (i.zero, i.size, i.bytes)) = some (some (.slice none 0 0), 1, 24) := by kernel_rfl
theorem info_bool : (Tryd.prog.info? 4).map (fun i => (i.zero, i.size, i.bytes)) = some (some (.bool false), 1, 1) := by kernel_rfl

/-- The rows of noughts that New has made so far. -/
def RowsNew (B : Nat) (w : World) (kc : List Value) : Prop := ∀ (i : Nat) (v : Value), kc[i]? = some v → BRow (fun k => B ≤ k ∧ k < w.heap.size) w v zeros128
/-- No two of some rows lie in one block. -/
def Apart (kc : List Value) : Prop := ∀ (i j : Nat) (u v : Value), kc[i]? = some u → kc[j]? = some v → u.ownBlock = v.ownBlock → i = j
def NewRows (B : Nat) (w : World) (kc : List Value) : Prop := RowsNew B w kc ∧ Apart kc
theorem RowsNew.kept {B : Nat} {w w' : World} {kc : List Value} (h : RowsNew B w kc) (hs : w.heap.size ≤ w'.heap.size) (e : ∀ g, (∃ vs, Blk w g 5 vs) → w'.heap[g]? = w.heap[g]?) : RowsNew B w' kc := fun i v hv =>
  ((h i v hv).kept (fun g _ hg => e g hg)).mono (fun k _ hk => ⟨hk.1, Nat.lt_of_lt_of_le hk.2 hs⟩)
theorem NewRows.kept {B : Nat} {w w' : World} {kc : List Value} (h : NewRows B w kc) (hs : w.heap.size ≤ w'.heap.size) (e : ∀ g, (∃ vs, Blk w g 5 vs) → w'.heap[g]? = w.heap[g]?) : NewRows B w' kc := ⟨h.1.kept hs e, h.2⟩
theorem Apart.snoc {kc : List Value} {g n c : Nat} (h : Apart kc) (hn : ∀ (i : Nat) (v : Value), kc[i]? = some v → v.ownBlock ≠ some g) : Apart (kc ++ [.slice (some ⟨g, 0, none⟩) n c]) := by
  intro i j u v hu hv e
  have key : ∀ (i : Nat) (u : Value), (kc ++ [Value.slice (some ⟨g, 0, none⟩) n c])[i]? = some u → (i < kc.length ∧ kc[i]? = some u) ∨ (i = kc.length ∧ u.ownBlock = some g) := by
    intro i u hu
    by_cases hi : i < kc.length
    · rw [List.getElem?_append_left hi] at hu; exact Or.inl ⟨hi, hu⟩
    · rw [List.getElem?_append_right (by omega)] at hu
      have hi0 : i - kc.length = 0 := by
        have := (List.getElem?_eq_some_iff.1 hu).1
        simp at this; omega
      rw [hi0] at hu
      simp at hu
      subst hu
      exact Or.inr ⟨by omega, rfl⟩
  rcases key i u hu with ⟨h1, h2⟩ | ⟨h1, h2⟩ <;> rcases key j v hv with ⟨h3, h4⟩ | ⟨h3, h4⟩
  · exact h i j u v h2 h4 e
  · exact absurd (e.trans h4) (hn i u h2)
  · exact absurd (e.symm.trans h2) (hn j v h4)
  · omega

set_option maxRecDepth 100000 in
set_option maxHeartbeats 3200000 in
theorem rnew6_at (w : World) (n : Nat) (room : Int) (h1 : 1 ≤ n) (h2 : n ≤ 4096) (h3 : 0 ≤ room) (h4 : room ≤ 4096) :
    Calls Tryd.prog 37 #[.int .i64 (n : Int), .int .i64 room] w fun e w' => ∃ b kb ib ob ck ci spk spi kv, e = .returned (.pointer (some ⟨b, 0, none⟩)) ∧ RDAt (fun k => w.heap.size ≤ k ∧ k < w'.heap.size) w' b (DS.new n room) kb ib ob ck ci spk spi (.slice none 0 0) kv [] ∧ Apart kv ∧ Below w.heap.size w w' := by
  obtain ⟨ik, hik, hzk, hsk, hbk⟩ := info_parts' info_bytes
  obtain ⟨ib, hib, hzb, hsb, hbb⟩ := info_parts' info_bool
  obtain ⟨zc, hzc⟩ : ∃ zc, zc = madeCells #[Value.int .u8 0] 128 := ⟨_, rfl⟩
  have hmk : ∀ w : World, (Instr.makeSlice 22 (.int .i64 128) (.int .i64 128)).run Tryd.prog w = .ok (.slice (some ⟨w.heap.size, 0, none⟩) 128 128) (w.alloc (.cells zc 5)) := by
    intro w
    have := run_make_row' (P := Tryd.prog) 22 5 (.int .u8 0) 1 Tryd.underlying22 info_u8 rfl .i64 .i64 128 (by omega) (by omega) w
    rw [← hzc] at this; exact this
  have hzl : zc.toList = u8s zeros128 := by rw [hzc, toList_madeCells_one]; simp [zeros128, u8s]
  have Hzl := Lib.hid hzl
  clear hzc hzl
  obtain ⟨w1, hw1⟩ : ∃ w1, w1 = (w.alloc (.cells #[.int .i64 0, .int .i64 0, .int .i64 0] 3)).alloc (.cells #[.slice none 0 0, .slice none 0 0, .slice none 0 0, .int .i64 room, .int .i64 (-1), .bool false, .slice (some ⟨w.heap.size, 0, none⟩) 3 3] 85) := ⟨_, rfl⟩
  have hs0 : (w.alloc (.cells #[.int .i64 0, .int .i64 0, .int .i64 0] 3)).heap.size = w.heap.size + 1 := nblk_alloc _ _
  have hb1 : Below w.heap.size w w1 := by rw [hw1]; exact (below_alloc w _).trans ((below_alloc _ _).mono (by rw [hs0]; omega))
  have hh1 : Blk w1 (w.heap.size + 1) 85 [.slice none 0 0, .slice none 0 0, .slice none 0 0, .int .i64 room, .int .i64 (-1), .bool false, .slice (some ⟨w.heap.size, 0, none⟩) 3 3] := by rw [hw1, ← hs0]; exact Blk.new _ _ _
  have ho1 : Blk w1 w.heap.size 3 (i64s [0, 0, 0]) := by rw [hw1]; exact (Blk.new w 3 (i64s [0, 0, 0])).alloc _
  have hs1 : w1.heap.size = w.heap.size + 2 := by rw [hw1, nblk_alloc, hs0]
  have Hw1 := Lib.hid hw1
  obtain ⟨b, hb⟩ : ∃ b, b = w.heap.size + 1 := ⟨_, rfl⟩
  rw [← hb] at hh1
  have Hb := Lib.hid hb
  obtain ⟨W, hW⟩ : ∃ W, W = w.heap.size := ⟨_, rfl⟩
  have HW := Lib.hid hW
  clear hw1 hs0 hb hW
  go_enter Tryd.func37, Tryd.ntmps37
  go_wp2
  rw [← Hw1.out]
  rw [show w.heap.size + 1 = b from Hb.out.symm]
  clear Hw1
  go_loopw [6] (fun i wr => ∃ (j : Nat) (vk vi : Value) (kc : List Value), j ≤ n ∧ i = .int .i64 j ∧ Blk wr b 85 [vk, vi, .slice none 0 0, .int .i64 room, .int .i64 (-1), .bool false, .slice (some ⟨w.heap.size, 0, none⟩) 3 3] ∧ Blk wr w.heap.size 3 (i64s [0, 0, 0]) ∧
      wr.ownsRow w.heap.size 22 1 vk j kc ∧ NewRows w.heap.size wr kc ∧ wr.ownsRow w.heap.size 4 1 vi j ((List.replicate j false).map Value.bool) ∧ Below w.heap.size w wr) (fun i _ => n - (intOf i).toNat)
  case atStart => exact ⟨0, _, _, [], by omega, rfl, hh1, ho1, World.ownsRow_nil _ _ _ _, ⟨fun i v hv => by simp at hv, fun i j u v hu => by simp at hu⟩, World.ownsRow_nil _ _ _ _, hb1⟩
  case round =>
    clear hh1 ho1 hb1 hs1
    obtain ⟨j, vk, vi, kc, hj, rfl, hh, ho, hok, hrows, hoi, hbl⟩ := hrel
    have hc0 := hh.cell (i := 0) rfl
    have hc1 := hh.cell (i := 1) rfl
    have hf0 := hh.frozen 0
    have hf1 := hh.frozen 1
    have hblt := hh.lt
    by_cases hlt : j < n
    · have hne : some b ≠ vk.ownBlock := own_ne hok hh (by decide)
      have hA := (hh.alloc (.cells zc 5)).drew
      have hB := ((hh.alloc (.cells zc 5)).alloc (.cells #[.slice (some ⟨wr.heap.size, 0, none⟩) 128 128] 22)).drew
      have hcA := hA.cell (i := 0) rfl
      have hcB := hB.cell (i := 0) rfl
      have hsA : (wr.alloc (.cells zc 5)).heap.size = wr.heap.size + 1 := nblk_alloc _ _
      have HB := Lib.hid hB
      have HokB := Lib.hid (((hok.alloc (.cells zc 5)).alloc (.cells #[.slice (some ⟨wr.heap.size, 0, none⟩) 128 128] 22)).drew)
      have HoiB := Lib.hid (((hoi.alloc (.cells zc 5)).alloc (.cells #[.slice (some ⟨wr.heap.size, 0, none⟩) 128 128] 22)).drew)
      have HoB := Lib.hid (((ho.alloc (.cells zc 5)).alloc (.cells #[.slice (some ⟨wr.heap.size, 0, none⟩) 128 128] 22)).drew)
      have Hnews := Lib.hid (World.news_of_block (w := ((wr.alloc (.cells zc 5)).alloc (.cells #[.slice (some ⟨wr.heap.size, 0, none⟩) 128 128] 22)).drew) (B := wr.heap.size + 1) (cs := #[.slice (some ⟨wr.heap.size, 0, none⟩) 128 128]) (t := 22) (fr := (0, 0)) (by
        show ((wr.alloc _).alloc _).heap[wr.heap.size + 1]? = _
        rw [← hsA]; exact heap_alloc_new _ _))
      have HbB := Lib.hid (show Below w.heap.size w (((wr.alloc (.cells zc 5)).alloc (.cells #[.slice (some ⟨wr.heap.size, 0, none⟩) 128 128] 22)).drew) from ((hbl.alloc hbl.size _).alloc (by rw [hsA]; have := hbl.size; omega) _).drew)
      have hsB : (((wr.alloc (.cells zc 5)).alloc (.cells #[.slice (some ⟨wr.heap.size, 0, none⟩) 128 128] 22)).drew).heap.size = wr.heap.size + 2 := by
        show ((wr.alloc _).alloc _).heap.size = _
        rw [nblk_alloc, hsA]
      have HnewB := Lib.hid (show Blk (((wr.alloc (.cells zc 5)).alloc (.cells #[.slice (some ⟨wr.heap.size, 0, none⟩) 128 128] 22)).drew) wr.heap.size 5 (u8s zeros128) by
        have h5 : Blk (wr.alloc (.cells zc 5)) wr.heap.size 5 zc.toList := by unfold Blk; rw [blk_alloc_new]
        rw [Hzl.out] at h5
        exact h5.alloc _)
      have HrB := Lib.hid (hrows.kept (w' := ((wr.alloc (.cells zc 5)).alloc (.cells #[.slice (some ⟨wr.heap.size, 0, none⟩) 128 128] 22)).drew) (by rw [hsB]; omega) (fun g ⟨vs, hg⟩ => by
        show ((wr.alloc _).alloc _).heap[g]? = _
        rw [blk_alloc_lt _ _ _ (by rw [hsA]; exact Nat.lt_succ_of_lt hg.lt), blk_alloc_lt _ _ _ hg.lt]))
      have hwsz := hbl.size
      have HsB := Lib.hid hsB
      clear hA hB hsA hsB
      go_wp2
      go_region_law (first
        | (refine step_append_own rfl (.tmp 20) (.tmp 22) 56 rfl w.heap.size 22 ik (.slice none 0 0) 1 24 Tryd.underlying56 hik hzk hsk hbk rfl (by decide) vk j kc (by simp [Act.eval, Act.put]) HokB.out ⟨wr.heap.size + 1, 0, none⟩ 1 1 [.slice (some ⟨wr.heap.size, 0, none⟩) 128 128] (by simp [Act.eval, Act.put]) rfl Hnews.out (by intro u hu; simp at hu; subst hu; rfl) (by simp only [maxLen]; omega) (by omega) (by rw [HsB.out]; omega) ?_
           intro v3 w3 hown3 hg3
           have hlt3 : b < (((wr.alloc (.cells zc 5)).alloc (.cells #[.slice (some ⟨wr.heap.size, 0, none⟩) 128 128] 22)).drew).heap.size := HB.out.lt
           have hh3 := HB.out.kept (hg3.block b hlt3 hne)
           have hc3 := hh3.cell (i := 0) rfl
           have hf3 := hh3.frozen 0
           obtain ⟨A3, c3, rfl, _⟩ := own_form hown3
           have Hh3 := Lib.hid hh3
           have Hown3 := Lib.hid hown3
           have Hg3 := Lib.hid hg3
           clear hh3 hown3 hg3 hlt3))
      all_goals
        obtain ⟨w4, hw4⟩ : ∃ w4, w4 = w3.setCell ⟨b, 0, none⟩ (.slice A3 (j + 1) c3) := ⟨_, rfl⟩
        have hh4 : Blk w4 b 85 [.slice A3 (j + 1) c3, vi, .slice none 0 0, .int .i64 room, .int .i64 (-1), .bool false, .slice (some ⟨w.heap.size, 0, none⟩) 3 3] := by rw [hw4]; exact Hh3.out.set 0 _
        have far : ∀ {g : Nat} {t : TypeId} {vs : List Value}, Blk w3 g t vs → t ≠ 85 → w4.heap[g]? = w3.heap[g]? := by
          intro g t vs hg ht
          rw [hw4]; exact blk_setCell_other _ _ _ _ (hg.ne Hh3.out ht)
        have hok4 : w4.ownsRow w.heap.size 22 1 (.slice A3 (j + 1) c3) (j + 1) (kc ++ [.slice (some ⟨wr.heap.size, 0, none⟩) 128 128]) := own_stays Hown3.out (fun k hk => by
          obtain ⟨vs, hvs⟩ := own_typed Hown3.out hk
          exact far hvs (by decide))
        have hvkt : ∀ {g : Nat} {t : TypeId} {vs : List Value}, Blk (((wr.alloc (.cells zc 5)).alloc (.cells #[.slice (some ⟨wr.heap.size, 0, none⟩) 128 128] 22)).drew) g t vs → t ≠ 22 → Blk w3 g t vs := by
          intro g t vs hg ht
          exact hg.kept (Hg3.out.block g hg.lt (own_ne HokB.out hg ht))
        have ho4 : Blk w4 w.heap.size 3 (i64s [0, 0, 0]) := by
          have h5 := hvkt HoB.out (by decide)
          exact h5.kept (far h5 (by decide))
        have hoi4 : w4.ownsRow w.heap.size 4 1 vi j ((List.replicate j false).map Value.bool) := own_stays (own_stays (w' := w3) HoiB.out (fun k hk => by
          obtain ⟨vs, hvs⟩ := own_typed HoiB.out hk
          exact Hg3.out.block k hvs.lt (own_ne HokB.out hvs (by decide)))) (fun k hk => by
          obtain ⟨vs, hvs⟩ := own_typed HoiB.out hk
          exact far (hvkt hvs (by decide)) (by decide))
        have hs34 : w4.heap.size = w3.heap.size := by rw [hw4, nblk_setCell]
        have hs3 : wr.heap.size + 2 ≤ w3.heap.size := by have := Hg3.out.size; rw [HsB.out] at this; exact this
        have hrow4 : NewRows w.heap.size w4 (kc ++ [.slice (some ⟨wr.heap.size, 0, none⟩) 128 128]) := by
          refine ⟨?_, hrows.2.snoc (fun i v hv e => by
            obtain ⟨g, cap, sp, rfl, hg, _⟩ := hrows.1 i v hv
            have e2 : g = wr.heap.size := Option.some.inj e
            have := hg.2; omega)⟩
          intro i v hv
          by_cases hi : i < kc.length
          · rw [List.getElem?_append_left hi] at hv
            exact ((HrB.out.1 i v hv).kept (w' := w4) (fun g _ ⟨vs, hg⟩ => by
              have h5 := hvkt hg (by decide)
              rw [far h5 (by decide)]
              exact Hg3.out.block g hg.lt (own_ne HokB.out hg (by decide)))).mono (fun k _ hk => ⟨hk.1, by have := hk.2; rw [HsB.out] at this; omega⟩)
          · rw [List.getElem?_append_right (by omega)] at hv
            have hi0 : i - kc.length = 0 := by
              have := (List.getElem?_eq_some_iff.1 hv).1
              simp at this; omega
            rw [hi0] at hv
            simp at hv
            subst hv
            have h5 := hvkt HnewB.out (by decide)
            exact ⟨wr.heap.size, 128, [], by simp [zeros128], ⟨hwsz, by omega⟩, by simp [zeros128], by simpa using h5.kept (far h5 (by decide)), by simp [zeros128]⟩
        have hb4 : Below w.heap.size w w4 := by
          rw [hw4]
          exact (HbB.out.grown Hg3.out (by rw [HsB.out]; omega) (fun k hk => (HokB.out.lt k hk).1)).setCell (by show w.heap.size ≤ b; rw [Hb.out]; omega) _
        rw [← hw4]
        clear hw4 far hvkt hs34 hs3 Hh3 Hown3 Hg3 hc3 hf3 HB HokB HoiB HoB Hnews HbB HnewB HrB HsB hcA hcB hc0 hc1 hf0 hf1 hne hh ho hok hrows hoi
        have hc1 := hh4.cell (i := 1) rfl
        have hf1 := hh4.frozen 1
        have hsz4 := hb4.size
        have hne5 : some b ≠ vi.ownBlock := own_ne hoi4 hh4 (by decide)
        go_wp2_with (at_builtin; refine wpList_push (.tmp 30) (.tmp 31) 81 4 ib _ (.bool false) 1 rfl rfl Tryd.underlying81 hib hzb hsb hbb rfl w.heap.size _ _ _ hoi4 rfl rfl rfl (by omega) (by omega) hsz4 ?_; intro v5 w5 hown5 hg5 hb5 hs5; obtain ⟨A5, c5, rfl, _⟩ := own_form hown5; have hh5 := (hh4.alloc (.cells #[.bool false] 4)).kept (hg5.block b (hh4.alloc (.cells #[.bool false] 4)).lt hne5); have hc5 := hh5.cell (i := 1) rfl; have hf5 := hh5.frozen 1)
        have old5 : ∀ {g : Nat} {t : TypeId} {vs : List Value}, Blk w4 g t vs → t ≠ 4 → Blk w5 g t vs := by
          intro g t vs hg ht
          have h5 := hg.alloc (.cells #[.bool false] 4)
          exact h5.kept (hg5.block g h5.lt (own_ne (hoi4.alloc (.cells #[.bool false] 4)) h5 ht))
        obtain ⟨w6, hw6⟩ : ∃ w6, w6 = w5.setCell ⟨b, 1, none⟩ (.slice A5 (j + 1) c5) := ⟨_, rfl⟩
        have hh6 : Blk w6 b 85 [.slice A3 (j + 1) c3, .slice A5 (j + 1) c5, .slice none 0 0, .int .i64 room, .int .i64 (-1), .bool false, .slice (some ⟨w.heap.size, 0, none⟩) 3 3] := by rw [hw6]; exact hh5.set 1 _
        have far6 : ∀ {g : Nat} {t : TypeId} {vs : List Value}, Blk w5 g t vs → t ≠ 85 → w6.heap[g]? = w5.heap[g]? := by
          intro g t vs hg ht
          rw [hw6]; exact blk_setCell_other _ _ _ _ (hg.ne hh5 ht)
        have ho6 : Blk w6 w.heap.size 3 (i64s [0, 0, 0]) := by
          have h5 := old5 ho4 (by decide)
          exact h5.kept (far6 h5 (by decide))
        have hok6 : w6.ownsRow w.heap.size 22 1 (.slice A3 (j + 1) c3) (j + 1) (kc ++ [.slice (some ⟨wr.heap.size, 0, none⟩) 128 128]) := own_stays hok4 (fun k hk => by
          obtain ⟨vs, hvs⟩ := own_typed hok4 hk
          have h5 := old5 hvs (by decide)
          rw [far6 h5 (by decide)]
          exact h5.trans hvs.symm)
        have hoi6 : w6.ownsRow w.heap.size 4 1 (.slice A5 (j + 1) c5) (j + 1) ((List.replicate (j + 1) false).map Value.bool) := by
          have h5 := own_stays (w' := w6) hown5 (fun k hk => by
            obtain ⟨vs, hvs⟩ := own_typed hown5 hk
            exact far6 hvs (by decide))
          rw [List.replicate_succ', List.map_append]; exact h5
        have hs56 : w6.heap.size = w5.heap.size := by rw [hw6, nblk_setCell]
        have hrow6 : NewRows w.heap.size w6 (kc ++ [.slice (some ⟨wr.heap.size, 0, none⟩) 128 128]) := hrow4.kept (by omega) (fun g ⟨vs, hg⟩ => by
          have h5 := old5 hg (by decide)
          rw [far6 h5 (by decide)]
          exact h5.trans hg.symm)
        have hb6 : Below w.heap.size w w6 := by
          rw [hw6]
          exact (hb4.trans hb5).setCell (by show w.heap.size ≤ b; rw [Hb.out]; omega) _
        rw [← hw6]
        clear hw6 far6 old5 hs56 hh5 hc5 hf5 hown5 hg5 hh4 ho4 hok4 hoi4 hrow4 hb4 hc1 hf1 hb5 hne5
        go_wp2
        go_roundw
        case rel => exact ⟨j + 1, _, _, _, by omega, by go_num, hh6, ho6, hok6, hrow6, hoi6, hb6⟩
        case measure => simp [intOf]; omega
    · obtain rfl : j = n := by omega
      go_wp2
      go_ret
      rcases hok.2 with ⟨_, hz⟩ | ⟨gk, capk, curk, rfl, hgk, hhk, hnk, hmk2, hck, htk⟩
      · omega
      rcases hoi.2 with ⟨_, hz⟩ | ⟨gi, capi, curi, rfl, hgi, hhi, hni, hmi2, hci, hti⟩
      · omega
      have hkl : kc.length = j := by have := hok.1; omega
      have hbk2 : Blk wr gk 22 (kc ++ curk.toList.drop j) := by unfold Blk; rw [hhk, ← htk, Nat.mul_one, List.take_append_drop]
      have hbi2 : Blk wr gi 4 ((List.replicate j false).map Value.bool ++ curi.toList.drop j) := by unfold Blk; rw [hhi, ← hti, Nat.mul_one, List.take_append_drop]
      refine ⟨b, gk, gi, w.heap.size, capk, capi, curk.toList.drop j, curi.toList.drop j, kc, rfl, ?_, hrows.2, hbl⟩
      refine ⟨⟨by rw [Hb.out]; omega, hblt⟩, ⟨hgk, hbk2.lt⟩, ⟨hgi, hbi2.lt⟩, ⟨Nat.le_refl _, ho.lt⟩, ?_, hbk2, ?_, ?_, hbi2, Or.inl ⟨rfl, rfl⟩, rfl, fun i p hi => by simp [DS.new] at hi, ho, fun k hk => hk.2⟩
      · simpa [DS.new] using hh
      · simp [DS.new, hkl]
      · intro i xs hi
        have hil : i < j := by have := (List.getElem?_eq_some_iff.1 hi).1; simpa [DS.new] using this
        have hx : xs = zeros128 := by
          have := List.getElem?_replicate (n := j) (a := zeros128) (i := i)
          rw [if_pos hil] at this
          exact Option.some.inj (hi.symm.trans this)
        subst hx
        exact ⟨kc[i]'(by omega), List.getElem?_eq_getElem _, hrows.1 i _ (List.getElem?_eq_getElem (by omega))⟩
theorem rnew6_is (w : World) (n : Nat) (room : Int) (h1 : 1 ≤ n) (h2 : n ≤ 4096) (h3 : 0 ≤ room) (h4 : room ≤ 4096) :
    Calls Tryd.prog 37 #[.int .i64 (n : Int), .int .i64 room] w fun e w' => ∃ b, e = .returned (.pointer (some ⟨b, 0, none⟩)) ∧ RD (fun k => w.heap.size ≤ k ∧ k < w'.heap.size) w' b (DS.new n room) ∧ Below w.heap.size w w' := by
  refine (rnew6_at w n room h1 h2 h3 h4).mono ?_
  rintro e w1 ⟨b, kb, ib, ob, ck, ci, spk, spi, kv, rfl, h, _, hb⟩
  exact ⟨b, rfl, RD.of (DWf.new h1 h2 h3 h4) h, hb⟩
end Go.Proofs.YteliebinhdphlaaDoor

/- The document's disk: Load. -/
namespace Go.Proofs.YteliebinhdphlaaDoor
set_option maxRecDepth 100000
open Go.RowKit Go.Deep
set_option linter.unusedSimpArgs false
set_option linter.unusedVariables false

/-- Sector s of some bytes. -/
def rowOf (xs : List Int) (s : Nat) : List Int := (List.range 128).map fun t => xs.getD (128 * s + t) 0
/-- A disk that has some bytes. -/
def DS.loaded (n : Nat) (room : Int) (xs : List Int) : DS := { kept := (List.range n).map (rowOf xs), inn := (List.range n).map (fun s => decide (128 * s < xs.length)), waits := [], room := room, cut := -1, off := false, ops := [0, 0, 0] }
theorem ds_eq {S T : DS} (h1 : S.kept = T.kept) (h2 : S.inn = T.inn) (h3 : S.waits = T.waits) (h4 : S.room = T.room) (h5 : S.cut = T.cut) (h6 : S.off = T.off) (h7 : S.ops = T.ops) : S = T := by
  cases S; cases T; simp_all
/-- How many sectors some bytes take. -/
def sectorsOf (k : Nat) : Nat := (k + 127) / 128

theorem rowOf_len (xs : List Int) (s : Nat) : (rowOf xs s).length = 128 := by simp [rowOf]
theorem rowOf_nil (s : Nat) : rowOf [] s = zeros128 := by
  apply List.ext_getElem?
  intro i
  unfold zeros128
  rw [List.getElem?_replicate]
  by_cases hi : i < 128
  · rw [if_pos hi]; simp [rowOf, hi]
  · rw [if_neg hi, List.getElem?_eq_none (by rw [rowOf_len]; omega)]
theorem rowOf_snoc (xs : List Int) (u : Int) (s : Nat) : rowOf (xs ++ [u]) s = if s = xs.length / 128 then (rowOf xs s).set (xs.length % 128) u else rowOf xs s := by
  apply List.ext_getElem?
  intro i
  by_cases hi : i < 128
  · by_cases hs : s = xs.length / 128
    · rw [if_pos hs]
      by_cases ht : i = xs.length % 128
      · rw [ht, List.getElem?_set_self (by rw [rowOf_len]; omega)]
        have e : 128 * s + xs.length % 128 = xs.length := by omega
        simp [rowOf, e, show xs.length % 128 < 128 by omega]
      · rw [List.getElem?_set_ne (fun e => ht e.symm)]
        simp only [rowOf, List.getElem?_map, List.getElem?_range hi, Option.map_some, List.getD]
        congr 2
        by_cases hl : 128 * s + i < xs.length
        · rw [List.getElem?_append_left hl]
        · rw [List.getElem?_append_right (by omega), List.getElem?_eq_none (show xs.length ≤ 128 * s + i by omega), List.getElem?_eq_none (by simp; omega)]
    · rw [if_neg hs]
      simp only [rowOf, List.getElem?_map, List.getElem?_range hi, Option.map_some, List.getD]
      congr 2
      by_cases hl : 128 * s + i < xs.length
      · rw [List.getElem?_append_left hl]
      · rw [List.getElem?_append_right (by omega), List.getElem?_eq_none (show xs.length ≤ 128 * s + i by omega), List.getElem?_eq_none (by simp; omega)]
  · rw [List.getElem?_eq_none (by rw [rowOf_len]; omega), List.getElem?_eq_none]
    split
    · rw [List.length_set, rowOf_len]; omega
    · rw [rowOf_len]; omega
theorem loaded_nil (n : Nat) (room : Int) : DS.loaded n room [] = DS.new n room := by
  refine ds_eq ?_ ?_ rfl rfl rfl rfl rfl
  · show (List.range n).map (rowOf []) = List.replicate n zeros128
    apply List.ext_getElem?
    intro i
    rw [List.getElem?_replicate]
    by_cases hi : i < n
    · rw [if_pos hi]; simp [hi, rowOf_nil]
    · rw [if_neg hi, List.getElem?_eq_none (by simp; omega)]
  · show (List.range n).map _ = List.replicate n false
    apply List.ext_getElem?
    intro i
    rw [List.getElem?_replicate]
    by_cases hi : i < n
    · rw [if_pos hi]; simp [hi]
    · rw [if_neg hi, List.getElem?_eq_none (by simp; omega)]
theorem loaded_snoc (n : Nat) (room : Int) (xs : List Int) (u : Int) (h : xs.length < 128 * n) :
    DS.loaded n room (xs ++ [u]) = { DS.loaded n room xs with kept := (DS.loaded n room xs).kept.set (xs.length / 128) ((rowOf xs (xs.length / 128)).set (xs.length % 128) u), inn := if xs.length % 128 = 0 then (DS.loaded n room xs).inn.set (xs.length / 128) true else (DS.loaded n room xs).inn } := by
  refine ds_eq ?_ ?_ rfl rfl rfl rfl rfl
  · show (List.range n).map _ = ((List.range n).map _).set _ _
    apply List.ext_getElem?
    intro i
    by_cases hi : i < n
    · by_cases e : i = xs.length / 128
      · subst e
        rw [List.getElem?_set_self (by simpa using hi)]
        simp [hi, rowOf_snoc]
      · rw [List.getElem?_set_ne (fun e2 => e e2.symm)]
        simp [hi, rowOf_snoc, e]
    · rw [List.getElem?_eq_none (by simp; omega), List.getElem?_eq_none (by simp; omega)]
  · show (List.range n).map _ = if _ then ((List.range n).map _).set _ _ else (List.range n).map _
    apply List.ext_getElem?
    intro i
    by_cases hi : i < n
    · split
      · rename_i hz
        by_cases e : i = xs.length / 128
        · subst e
          rw [List.getElem?_set_self (by simpa using hi)]
          simp [hi]; omega
        · rw [List.getElem?_set_ne (fun e2 => e e2.symm)]
          simp [hi]; omega
      · simp [hi]; omega
    · split
      · rw [List.getElem?_eq_none (by simp; omega), List.getElem?_eq_none (by simp; omega)]
      · rw [List.getElem?_eq_none (by simp; omega), List.getElem?_eq_none (by simp; omega)]
theorem DWf.loaded {n : Nat} {room : Int} {xs : List Int} (h1 : 1 ≤ n) (h2 : n ≤ 4096) (h3 : 0 ≤ room) (h4 : room ≤ 4096) (hx : ∀ x ∈ xs, 0 ≤ x ∧ x < 256) : DWf (DS.loaded n room xs) :=
  ⟨by simpa [DS.loaded] using h1, by simpa [DS.loaded] using h2, by simp [DS.loaded], fun r hr => by
    obtain ⟨s, _, rfl⟩ := List.mem_map.1 hr
    refine ⟨rowOf_len _ _, fun x hx2 => ?_⟩
    obtain ⟨t, _, rfl⟩ := List.mem_map.1 hx2
    simp only [List.getD]
    cases h : xs[128 * s + t]? with
    | none => exact ⟨Int.le_refl _, by decide⟩
    | some y => exact hx y (List.mem_of_getElem? h), fun p hp => by simp [DS.loaded] at hp, h3, h4, by show (-1 : Int) ≤ -1; omega, by show (-1 : Int) ≤ _; omega, rfl, fun x hx => by simp [DS.loaded] at hx; omega⟩

/-- A byte of a row is written where it lies: no other row lies there. -/
theorem RDAt.upByte {F : Nat → Prop} {w : World} {b : Nat} {S : DS} {kb ib ob ck ci : Nat} {spk spi : List Value} {kv : List Value} (h : RDAt F w b S kb ib ob ck ci spk spi (.slice none 0 0) kv []) (ha : Apart kv) {i g n cap t : Nat} {row : List Int} (hrow : S.kept[i]? = some row) (hv : kv[i]? = some (.slice (some ⟨g, 0, none⟩) n cap)) (ht : t < row.length) (u : Int) :
    RDAt F (w.setCell ⟨g, t, none⟩ (.int .u8 u)) b { S with kept := S.kept.set i (row.set t u) } kb ib ob ck ci spk spi (.slice none 0 0) kv [] := by
  obtain ⟨v, hv2, g2, cap2, sp2, e, hgF, hcap, hblk, hsp⟩ := h.krow i row hrow
  have e3 := hv.symm.trans hv2
  rw [e] at e3
  simp at e3
  obtain ⟨rfl, rfl, rfl⟩ := e3
  subst e
  have far : ∀ {k : Nat} {t2 : TypeId} {vs : List Value}, Blk w k t2 vs → t2 ≠ 5 → (w.setCell ⟨g, t, none⟩ (.int .u8 u)).heap[k]? = w.heap[k]? :=
    fun hb ht => blk_setCell_other _ _ _ _ (hb.ne hblk ht)
  refine ⟨h.fb, h.fk, h.fi, h.fo, ?_, h.kept.kept (far h.kept (by decide)), by simp [h.kvn], ?_, h.inn.kept (far h.inn (by decide)), h.wait.kept (fun k _ ⟨vs, hk⟩ => far hk (by decide)), h.psn, fun j p hj => by
      have := h.psn
      have hl := (List.getElem?_eq_some_iff.1 hj).1
      have hl : j < S.waits.length := hl
      simp at this; omega, h.ops.kept (far h.ops (by decide)), ?_⟩
  · have := h.head.kept (far h.head (by decide))
    simpa using this
  · intro j ys hj
    by_cases e : j = i
    · subst e
      rw [List.getElem?_set_self (List.getElem?_eq_some_iff.1 hrow).1] at hj
      cases hj
      refine ⟨_, hv, g, cap, sp2, by simp, hgF, by simpa using hcap, ?_, by simpa using hsp⟩
      have h5 := hblk.set t (.int .u8 u)
      rw [List.set_append_left _ _ (by simpa using ht), set_u8] at h5
      exact h5
    · rw [List.getElem?_set_ne (fun e2 => e e2.symm)] at hj
      obtain ⟨v, h1, h2⟩ := h.krow j ys hj
      refine ⟨v, h1, ?_⟩
      obtain ⟨g3, cap3, sp3, e4, hg3, hc3, hb3, hs3⟩ := h2
      refine ⟨g3, cap3, sp3, e4, hg3, hc3, hb3.setOther ?_ _, hs3⟩
      intro e5
      refine e (ha j i v _ h1 hv ?_)
      rw [e4]
      show some g3 = some g
      rw [show g3 = g from e5]
  · intro k hk; rw [nblk_setCell]; exact h.fin k hk

theorem ret_nil_two : True := trivial
set_option maxHeartbeats 1600000 in
theorem rload_bad (w : World) (A : Option Addr) (n c : Nat) (s room : Int) (hn : n ≤ 9223372036854775807) (hbad : s < 1 ∨ 4096 < s ∨ room < 0 ∨ s < room ∨ 128 * s < (n : Int)) :
    Calls Tryd.prog 13 #[.slice A n c, .int .i64 s, .int .i64 room] w fun e w' => e = .returned (.tuple #[.pointer none, .int .i64 2]) ∧ w' = w := by
  by_cases c1 : s < 1
  · have d1 : decide (s < 1) = true := decide_eq_true c1
    clear hbad
    go_enter Tryd.func13, Tryd.ntmps13
    go_wp2
    go_ret2
    exact ⟨rfl, rfl⟩
  have d1 : decide (s < 1) = false := decide_eq_false c1
  by_cases c2 : 4096 < s
  · have d2 : decide (4096 < s) = true := decide_eq_true c2
    clear hbad
    go_enter Tryd.func13, Tryd.ntmps13
    go_wp2
    go_ret2
    exact ⟨rfl, rfl⟩
  have d2 : decide (4096 < s) = false := decide_eq_false c2
  by_cases c3 : room < 0
  · have d3 : decide (room < 0) = true := decide_eq_true c3
    clear hbad
    go_enter Tryd.func13, Tryd.ntmps13
    go_wp2
    go_ret2
    exact ⟨rfl, rfl⟩
  have d3 : decide (room < 0) = false := decide_eq_false c3
  by_cases c4 : s < room
  · have d4 : decide (s < room) = true := decide_eq_true c4
    clear hbad
    go_enter Tryd.func13, Tryd.ntmps13
    go_wp2
    go_ret2
    exact ⟨rfl, rfl⟩
  have d4 : decide (s < room) = false := decide_eq_false c4
  have c5 : 128 * s < (n : Int) := by omega
  have d5 : decide (128 * s < (n : Int)) = true := decide_eq_true c5
  have hm : IntKind.i64.wrap (128 * s) = 128 * s := by rw [wrap_i64']; unfold wrap64; omega
  clear hbad
  go_enter Tryd.func13, Tryd.ntmps13
  go_wp2
  go_ret2
  exact ⟨rfl, rfl⟩

set_option maxRecDepth 100000 in
set_option maxHeartbeats 3200000 in
theorem rload_in (w : World) (A : Option Addr) (n c : Nat) (s room : Nat) (xs : List Int) (hx : Sl w A n (u8s xs)) (hxb : ∀ x ∈ xs, 0 ≤ x ∧ x < 256) (h1 : 1 ≤ s) (h2 : s ≤ 4096) (h3 : room ≤ s) (h4 : n ≤ 128 * s) :
    Calls Tryd.prog 13 #[.slice A n c, .int .i64 (s : Int), .int .i64 (room : Int)] w fun e w' => Below w.heap.size w w' ∧
      ((sectorsOf n ≤ room ∧ ∃ b, e = .returned (.tuple #[.pointer (some ⟨b, 0, none⟩), .int .i64 0]) ∧ RD (fun k => w.heap.size ≤ k ∧ k < w'.heap.size) w' b (DS.loaded s (room : Int) xs)) ∨ (room < sectorsOf n ∧ e = .returned (.tuple #[.pointer none, .int .i64 52]))) := by
  have hln : xs.length = n := by simpa using hx.1
  have Hln := Lib.hid hln
  have Hxb := Lib.hid hxb
  have d1 : decide ((s : Int) < 1) = false := decide_eq_false (by omega)
  have d2 : decide ((4096 : Int) < (s : Int)) = false := decide_eq_false (by omega)
  have d3 : decide ((room : Int) < 0) = false := decide_eq_false (by omega)
  have d4 : decide ((s : Int) < (room : Int)) = false := decide_eq_false (by omega)
  have d5 : decide (128 * (s : Int) < (n : Int)) = false := decide_eq_false (by omega)
  have hm : IntKind.i64.wrap (128 * (s : Int)) = 128 * (s : Int) := by rw [wrap_i64']; unfold wrap64; omega
  clear hln hxb
  go_enter Tryd.func13, Tryd.ntmps13
  go_wp2_with fail
  refine (rnew6_at w s (room : Int) h1 h2 (by omega) (by omega)).mono ?_
  rintro e w1 ⟨b, kb, ib, ob, ck, ci, spk, spi, kv, rfl, h, ha, hb1⟩
  rw [← loaded_nil] at h
  have Ha := Lib.hid ha
  clear hm ha
  go_wp2_with fail
  go_loopw [9, 10] (fun m i wr => ∃ (k : Nat) (spi' : List Value), k ≤ n ∧ i = .int .i64 k ∧ m = .int .i64 (sectorsOf k : Int) ∧ RDAt (fun k => w.heap.size ≤ k ∧ k < wr.heap.size) wr b (DS.loaded s (room : Int) (xs.take k)) kb ib ob ck ci spk spi' (.slice none 0 0) kv [] ∧ Below w.heap.size w wr) (fun _ i _ => n - (intOf i).toNat)
  case atStart => exact ⟨0, spi, by omega, rfl, rfl, h, hb1⟩
  case round =>
    clear h hb1
    obtain ⟨k, spi', hk, rfl, rfl, h, hb⟩ := hrel
    by_cases hlt : k < n
    · obtain ⟨ad, u, rfl, hcu, hu⟩ := (hx.below hb).num hlt
      have hur := Hxb.out u (List.mem_of_getElem? hu)
      obtain ⟨q, hq⟩ : ∃ q, q = k / 128 := ⟨_, rfl⟩
      obtain ⟨t, ht⟩ : ∃ t, t = k % 128 := ⟨_, rfl⟩
      have hkq : k = 128 * q + t := by omega
      have ht1 : t < 128 := by omega
      have hqs : q < s := by omega
      have hkl : (DS.loaded s (room : Int) (xs.take k)).kept.length = s := by simp [DS.loaded]
      have hxl : (xs.take k).length = k := by rw [List.length_take, Hln.out]; omega
      have hrow : (DS.loaded s (room : Int) (xs.take k)).kept[q]? = some (rowOf (xs.take k) q) := by simp [DS.loaded, hqs]
      obtain ⟨v, hv, g, cap, sp, rfl, hgF, hcap, hblk, hsp⟩ := h.krow q _ hrow
      rw [rowOf_len] at hv hcap hsp
      have hc0 : wr.cell? ⟨b, 0, none⟩ = some (.slice (some ⟨kb, 0, none⟩) s ck) := by have := h.head.cell (i := 0) rfl; rw [hkl] at this; exact this
      have hc1 : wr.cell? ⟨b, 1, none⟩ = some (.slice (some ⟨ib, 0, none⟩) s ci) := by have := h.head.cell (i := 1) rfl; rw [hkl] at this; exact this
      have hck : wr.cell? ⟨kb, q, none⟩ = some (.slice (some ⟨g, 0, none⟩) 128 cap) := h.kept.cell (by rw [List.getElem?_append_left (by rw [h.kvn, hkl]; exact hqs)]; exact hv)
      obtain ⟨old, hold⟩ : ∃ o, (rowOf (xs.take k) q)[t]? = some o := ⟨_, List.getElem?_eq_getElem (by rw [rowOf_len]; exact ht1)⟩
      have hcg : wr.cell? ⟨g, t, none⟩ = some (.int .u8 old) := hblk.cell (by rw [List.getElem?_append_left (by simp [rowOf_len]; exact ht1), List.getElem?_map, hold]; rfl)
      have hfg := hblk.frozen t
      have h2 := h.upByte Ha.out hrow hv (t := t) (by rw [rowOf_len]; exact ht1) u
      have hO2 : Below w.heap.size w (wr.setCell ⟨g, t, none⟩ (.int .u8 u)) := hb.setCell (by exact hgF.1) _
      obtain ⟨w2, hw2⟩ : ∃ w2, w2 = wr.setCell ⟨g, t, none⟩ (.int .u8 u) := ⟨_, rfl⟩
      have hs2 : w2.heap.size = wr.heap.size := by rw [hw2, nblk_setCell]
      rw [← hw2] at h2 hO2
      have H2 := Lib.hid h2
      have Hw2 := Lib.hid hw2
      have HO2 := Lib.hid hO2
      have hqd : (k : Int).tdiv 128 = (q : Int) := by rw [Int.tdiv_eq_ediv_of_nonneg (by omega)]; omega
      have htd : (k : Int).tmod 128 = (t : Int) := by rw [Int.tmod_eq_emod_of_nonneg (by omega)]; omega
      have hqI : (q : Int) < (s : Int) := by omega
      have htI : (t : Int) < 128 := by omega
      have hkI : (k : Int) < (n : Int) := by omega
      have Hsnoc := Lib.hid (loaded_snoc s (room : Int) (xs.take k) u (by rw [hxl]; omega))
      have Htake := Lib.hid (take_snoc _ _ _ hu)
      have Hq := Lib.hid hq
      have Ht := Lib.hid ht
      have Hkq := Lib.hid hkq
      have Hxl := Lib.hid hxl
      have Hkl := Lib.hid hkl
      clear hq ht hkq hkl hxl hrow hv hold h2 hO2 hw2 hu hsp hs2
      go_wp2
      go_region
      all_goals
        rw [← Hw2.out]
        have h3 := H2.out.keep (w' := w2.drew) (Nat.le_refl _) (fun _ _ => rfl)
        have hb3 : Below w.heap.size w w2.drew := HO2.out.drew
        have hs3 : w2.drew.heap.size = wr.heap.size := by show w2.heap.size = _; rw [Hw2.out, nblk_setCell]
        clear Hw2 H2 HO2 hc0 hck hcg hfg hc1 hcu
        generalize w2.drew = w3 at *
        have hc1 : w3.cell? ⟨b, 1, none⟩ = some (.slice (some ⟨ib, 0, none⟩) s ci) := by
          have h5 := h3.head.cell (i := 1) rfl
          rw [h5]; show some (Value.slice _ ((DS.loaded s (room : Int) (xs.take k)).kept.set q _).length _) = _
          rw [List.length_set, Hkl.out]
        by_cases hz : t = 0
        · subst hz
          obtain ⟨ui, hui⟩ : ∃ u, (DS.loaded s (room : Int) (xs.take k)).inn[q]? = some u := ⟨_, List.getElem?_eq_getElem (by simp [DS.loaded]; omega)⟩
          have hin : (DS.loaded s (room : Int) (xs.take k)).inn.length = s := by simp [DS.loaded]
          have hci : w3.cell? ⟨ib, q, none⟩ = some (.bool ui) := h3.inn.cell (by rw [List.getElem?_append_left (by rw [List.length_map]; show q < (DS.loaded s (room : Int) (xs.take k)).inn.length; rw [hin]; omega), List.getElem?_map]; show (DS.loaded s (room : Int) (xs.take k)).inn[q]?.map _ = _; rw [hui]; rfl)
          have hfi := h3.inn.frozen q
          have h4 := h3.upInn (by show (DS.loaded s (room : Int) (xs.take k)).inn.length = ((DS.loaded s (room : Int) (xs.take k)).kept.set q _).length; rw [List.length_set, hin, Hkl.out]) q (by show q < ((DS.loaded s (room : Int) (xs.take k)).kept.set q _).length; rw [List.length_set, Hkl.out]; omega) true
          have hb4 : Below w.heap.size w (w3.setCell ⟨ib, q, none⟩ (.bool true)) := hb3.setCell h3.fi.1 _
          have hfin := Lib.hid (show RDAt (fun k => w.heap.size ≤ k ∧ k < (w3.setCell ⟨ib, q, none⟩ (.bool true)).heap.size) (w3.setCell ⟨ib, q, none⟩ (.bool true)) b (DS.loaded s (room : Int) (xs.take (k + 1))) kb ib ob ck ci spk spi' (.slice none 0 0) kv [] by
            rw [Htake.out, Hsnoc.out, Hxl.out, ← Ht.out, ← Hq.out, if_pos rfl, nblk_setCell, hs3]
            exact h4)
          have Hsec := Lib.hid (show sectorsOf (k + 1) = sectorsOf k + 1 by have := Hkq.out; unfold sectorsOf; omega)
          have hsr : sectorsOf k ≤ 4096 := by have := Hkq.out; unfold sectorsOf; omega
          have hb4' := Lib.hid hb4
          clear hui hin h4 hb4 h3 hb3 hs3
          go_wp2
          go_roundw
          case rel => exact ⟨k + 1, spi', by omega, by go_num, by rw [Hsec.out]; go_num, hfin.out, hb4'.out⟩
          case measure => simp [intOf]; omega
        · have hfin := Lib.hid (show RDAt (fun k => w.heap.size ≤ k ∧ k < w3.heap.size) w3 b (DS.loaded s (room : Int) (xs.take (k + 1))) kb ib ob ck ci spk spi' (.slice none 0 0) kv [] by
            rw [Htake.out, Hsnoc.out, Hxl.out, ← Ht.out, ← Hq.out, if_neg hz, hs3]
            exact h3)
          have Hsec := Lib.hid (show sectorsOf (k + 1) = sectorsOf k by have := Hkq.out; unfold sectorsOf; omega)
          have hzd : ((t : Int) == 0) = false := by simp; omega
          clear h3 hs3 hz
          go_wp2
          go_roundw
          case rel => exact ⟨k + 1, spi', by omega, by go_num, by rw [Hsec.out], hfin.out, hb3⟩
          case measure => simp [intOf]; omega
    · obtain rfl : k = n := by omega
      rw [List.take_of_length_le (by rw [Hln.out]; exact Nat.le_refl _)] at h
      have hsr : sectorsOf k ≤ 4096 := by unfold sectorsOf; omega
      by_cases hroom : room < sectorsOf k
      · have hd : decide ((room : Int) < (sectorsOf k : Int)) = true := decide_eq_true (by omega)
        go_wp2
        go_ret2
        exact ⟨hb, Or.inr ⟨hroom, rfl⟩⟩
      · have hd : decide ((room : Int) < (sectorsOf k : Int)) = false := decide_eq_false (by omega)
        go_wp2
        go_ret2
        exact ⟨hb, Or.inl ⟨by omega, b, rfl, RD.of (DWf.loaded h1 h2 (by omega) (by omega) Hxb.out) h⟩⟩
end Go.Proofs.YteliebinhdphlaaDoor
