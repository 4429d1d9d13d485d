/- An argument that is a slice of structs whose fields are ints: its cells, under names. No function of the program is named here. -/
import Derived.Test.YthdclncgmhgmfaaLib
import Derived.Deep.Slices
namespace Go.Proofs.Ythdclncgmhgmfaa
open Go.RowKit Go.ChangeShapes Go.WideShapes Go.Deep
set_option linter.unusedSimpArgs false
set_option linter.unusedVariables false

/-- The slice at A of n structs of k ints reads as V: field f of element i is V i f. -/
def Recs (w : World) (A : Option Addr) (n k : Nat) (V : Nat → Nat → Int) : Prop :=
  ∀ i f, i < n → f < k → ∃ ad, A = some ad ∧ w.cell? (ad.add (i * k + f)) = some (.int .i64 (V i f))
theorem Recs.below {w w' : World} {A : Option Addr} {n k : Nat} {V : Nat → Nat → Int} (h : Recs w A n k V) (hb : Below w.heap.size w w') : Recs w' A n k V := fun i f hi hf => by
  obtain ⟨ad, e, hc⟩ := h i f hi hf
  exact ⟨ad, e, (hb.cell (World.block_lt_of_cell? w _ hc)).trans hc⟩

theorem Recs.three {w : World} {A : Option Addr} {n : Nat} {V : Nat → Nat → Int} (h : Recs w A n 3 V) {k : Nat} (hk : k < n) :
    ∃ ad, A = some ad ∧ w.cell? (ad.add (k * 3)) = some (.int .i64 (V k 0)) ∧ w.cell? ⟨(ad.add (k * 3)).block, (ad.add (k * 3)).off + 1, none⟩ = some (.int .i64 (V k 1)) ∧ w.cell? ⟨(ad.add (k * 3)).block, (ad.add (k * 3)).off + 2, none⟩ = some (.int .i64 (V k 2)) := by
  obtain ⟨ad, e, h0⟩ := h k 0 hk (by omega)
  obtain ⟨ad1, e1, h1⟩ := h k 1 hk (by omega)
  obtain ⟨ad2, e2, h2⟩ := h k 2 hk (by omega)
  obtain rfl : ad1 = ad := by rw [e] at e1; exact (Option.some.inj e1).symm
  obtain rfl : ad2 = ad1 := by rw [e] at e2; exact (Option.some.inj e2).symm
  rw [← addr_twice] at h1 h2
  exact ⟨_, e, h0, h1, h2⟩

def cellInt (v : Option Value) : Int := match v with | some (.int _ z) => z | _ => 0

/-- Field f lies at offset f and is an int, one cell (for the kernel). -/
def intFields (P : Program) (fs : Array Field) : Bool := (List.range fs.size).all fun i => match fs[i]? with
  | some f => f.offset == i && (match P.underlying f.type with | some (.int .i64) => true | _ => false) && P.cellsOf f.type == 1
  | none => false
theorem intFields_of {P : Program} {fs : Array Field} (h : intFields P fs = true) : ∀ (f : Nat) (F : Field), fs[f]? = some F → F.offset = f ∧ P.underlying F.type = some (.int .i64) ∧ P.cellsOf F.type = 1 := by
  intro i f hi
  have hlt : i < fs.size := (Array.getElem?_eq_some_iff.1 hi).1
  have := List.all_eq_true.1 h i (List.mem_range.2 hlt)
  simp only [hi, Bool.and_eq_true, beq_iff_eq] at this
  refine ⟨this.1.1, ?_, this.2⟩
  have h2 := this.1.2
  split at h2
  · assumption
  · cases h2
theorem open_recs {H : Type} {enc : TypeId × Value → H} {P : Program} {w : World} {spare : Nat → Bool} {held : Bool} {t e : TypeId} {fuel k : Nat} {fs : Array Field} {cs : List Value} {x : DataW H × List MemPlace}
    (ht : P.underlying t = some (.slice e)) (he : P.underlying e = some (.struct fs)) (hk : fs.size = k) (ce : P.cellsOf e = k)
    (hf : ∀ (f : Nat) (F : Field), fs[f]? = some F → F.offset = f ∧ P.underlying F.type = some (.int .i64) ∧ P.cellsOf F.type = 1)
    (h : DataW.trod enc P w 0 spare held fuel t cs = some x) :
    cs = [.slice none 0 0] ∨ ∃ (a : Addr) (len cap : Nat) (V : Nat → Nat → Int), cs = [.slice (some a) len cap] ∧ len ≤ cap ∧ cap ≤ maxLen ∧ Recs w (some a) len k V ∧
      ∀ i f, i < len → f < k → -9223372036854775808 ≤ V i f ∧ V i f ≤ 9223372036854775807 := by
  rcases open_slice ht h with h0 | ⟨a, len, cap, m, n, D, Pl, rfl, hb, hl, hm, hmm, _, hx⟩
  · exact Or.inl h0.1
  right
  have hlm : len ≤ m := by rw [hmm]; split <;> omega
  have each : ∀ i f, i < len → f < k → ∃ z : Int, w.cell? (a.add (i * k + f)) = some (.int .i64 z) ∧ -9223372036854775808 ≤ z ∧ z ≤ 9223372036854775807 := by
    intro i f hi hfk
    obtain ⟨cs', h1, h2⟩ := hx i (by omega)
    rw [ce] at h1
    obtain ⟨_, hlen, hcell⟩ := World.cells?_some h1
    obtain ⟨xs, n', hn', hxy, _, hxl, hfl⟩ := DataW.trod_struct he h2
    obtain ⟨F, hF⟩ : ∃ F, fs[f]? = some F := ⟨_, Array.getElem?_eq_getElem (by omega)⟩
    obtain ⟨o, u, c⟩ := hf f F hF
    have g := hfl f F hF
    rw [o, c] at g
    obtain ⟨y, hy⟩ : ∃ y, xs[f]? = some y := ⟨_, List.getElem?_eq_getElem (by omega)⟩
    rw [hy] at g
    obtain ⟨z, hz, _, hw⟩ := DataW.trod_int u g
    have hc := hcell f (by omega)
    rw [addr_twice] at hc
    have hz2 : cs'[f]? = some (.int .i64 z) := by
      have := congrArg (·[0]?) hz
      simpa [List.getElem?_take, List.getElem?_drop] using this
    exact ⟨z, hc.trans hz2, bounds_i64 hw⟩
  refine ⟨a, len, cap, fun i f => cellInt (w.cell? (a.add (i * k + f))), rfl, hl, hm, ?_, ?_⟩
  · intro i f hi hfk
    obtain ⟨z, hz, _⟩ := each i f hi hfk
    refine ⟨a, rfl, ?_⟩
    show w.cell? (a.add (i * k + f)) = some (.int .i64 (cellInt (w.cell? (a.add (i * k + f)))))
    rw [hz]; rfl
  · intro i f hi hfk
    obtain ⟨z, hz, hr⟩ := each i f hi hfk
    show -9223372036854775808 ≤ cellInt (w.cell? (a.add (i * k + f))) ∧ cellInt (w.cell? (a.add (i * k + f))) ≤ 9223372036854775807
    rw [hz]; exact hr
end Go.Proofs.Ythdclncgmhgmfaa
