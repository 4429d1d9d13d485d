/- An argument that is a struct of two ints, by value. No function of the program is named here. -/
import Derived.Test.YtflaikjciachaaaDoorM3
import Derived.Test.YtflaikjciachaaaDoorM1
namespace Go.Proofs.YtflaikjciachaaaDoor
set_option maxRecDepth 100000
open Go.RowKit Go.ChangeShapes Go.WideShapes Go.Deep
set_option linter.unusedSimpArgs false
set_option linter.unusedVariables false

/-- The first k fields are ints, one cell each, at their indices (for the kernel). -/
def spanFields (P : Program) (fs : Array Field) (k : Nat) : Bool := (List.range k).all fun i => match fs[i]? with
  | some f => f.offset == i && (match P.underlying f.type with | some (.int .i64) => true | _ => false) && P.cellsOf f.type == 1
  | none => false
theorem spanFields_of {P : Program} {fs : Array Field} {k : Nat} (h : spanFields P fs k = true) : ∀ f, f < k → ∃ F, fs[f]? = some F ∧ F.offset = f ∧ P.underlying F.type = some (.int .i64) ∧ P.cellsOf F.type = 1 := by
  intro f hf
  have := List.all_eq_true.1 h f (List.mem_range.2 hf)
  split at this
  · rename_i F hF
    simp only [Bool.and_eq_true, beq_iff_eq] at this
    refine ⟨F, hF, this.1.1, ?_, this.2⟩
    have h3 := this.1.2
    split at h3
    · assumption
    · cases h3
  · cases this

theorem open_span {H : Type} {enc : TypeId × Value → H} {P : Program} {w : World} {base : Nat} {held : Bool} {t : TypeId} {fuel : Nat} {fs : Array Field} {cs : Array Value} {x : DataW H × List MemPlace}
    (he : P.underlying t = some (.struct fs)) (hf : spanFields P fs 2 = true) (hsz : cs.size = 2)
    (h : DataW.trod enc P w base (fun _ => true) held fuel t cs.toList = some x) :
    ∃ (a b : Int), cs = #[.int .i64 a, .int .i64 b] ∧ (-9223372036854775808 ≤ a ∧ a ≤ 9223372036854775807) ∧ (-9223372036854775808 ≤ b ∧ b ≤ 9223372036854775807) := by
  obtain ⟨l⟩ := cs
  match l, hsz, h with
  | [c0, c1], _, h =>
    have hints := spanFields_of hf
    obtain ⟨xs, n', hn', hxy, _, hxl, hfl⟩ := DataW.trod_struct he h
    have hint : ∀ f, f < 2 → ∃ z : Int, [c0, c1][f]? = some (.int .i64 z) ∧ -9223372036854775808 ≤ z ∧ z ≤ 9223372036854775807 := by
      intro f hfk
      obtain ⟨F, hF, o, u, c⟩ := hints f hfk
      have g := hfl f F hF
      rw [o, c] at g
      have hfs : f < fs.size := (Array.getElem?_eq_some_iff.1 hF).1
      obtain ⟨y, hy⟩ : ∃ y, xs[f]? = some y := ⟨_, List.getElem?_eq_getElem (by omega)⟩
      rw [hy] at g
      obtain ⟨z, hz, _, hw⟩ := DataW.trod_int u g
      have hz2 : [c0, c1][f]? = some (.int .i64 z) := by
        have := congrArg (·[0]?) hz
        simpa [List.getElem?_take, List.getElem?_drop] using this
      exact ⟨z, hz2, bounds_i64 hw⟩
    obtain ⟨a, ha, ha2⟩ := hint 0 (by omega)
    obtain ⟨b, hb, hb2⟩ := hint 1 (by omega)
    simp at ha hb
    subst ha hb
    exact ⟨a, b, rfl, ha2, hb2⟩
end Go.Proofs.YtflaikjciachaaaDoor
