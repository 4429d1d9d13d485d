/- An argument that is a struct of two ints and a slice of bytes, by value. No function of the program is named here. -/
import Derived.Test.YthdclncgmhgmfaaDos
namespace Go.Proofs.Ythdclncgmhgmfaa
open Go.RowKit Go.ChangeShapes Go.WideShapes Go.Deep
set_option linter.unusedSimpArgs false
set_option linter.unusedVariables false

theorem open_do {H : Type} {enc : TypeId × Value → H} {P : Program} {w : World} {base : Nat} {held : Bool} {t tb eb : TypeId} {fuel : Nat} {fs : Array Field} {cs : Array Value} {x : DataW H × List MemPlace}
    (he : P.underlying t = some (.struct fs)) (hf : doFields P fs 2 tb = true)
    (hb1 : P.underlying tb = some (.slice eb)) (hb2 : P.underlying eb = some (.int .u8)) (hb3 : P.cellsOf eb = 1) (hsz : cs.size = 3)
    (h : DataW.trod enc P w base (fun _ => true) held fuel t cs.toList = some x) :
    ∃ (a b : Int) (A : Option Addr) (n c : Nat) (z : List Int), cs = #[.int .i64 a, .int .i64 b, .slice A n c] ∧ (-9223372036854775808 ≤ a ∧ a ≤ 9223372036854775807) ∧ (-9223372036854775808 ≤ b ∧ b ≤ 9223372036854775807) ∧ Sl w A n (u8s z) ∧ (∀ x ∈ z, 0 ≤ x ∧ x < 256) ∧ n ≤ 9223372036854775807 ∧ n ≤ c := by
  obtain ⟨l⟩ := cs
  match l, hsz, h with
  | [c0, c1, c2], _, h =>
    obtain ⟨hints, FB, hFB, hoB, htB, hcB⟩ := doFields_of hf
    obtain ⟨xs, n', hn', hxy, _, hxl, hfl⟩ := DataW.trod_struct he h
    have hint : ∀ f, f < 2 → ∃ z : Int, [c0, c1, c2][f]? = some (.int .i64 z) ∧ -9223372036854775808 ≤ z ∧ z ≤ 9223372036854775807 := by
      intro f hfk
      obtain ⟨F, hF, o, u, c⟩ := hints f hfk
      have g := hfl f F hF
      rw [o, c] at g
      have hfs : f < fs.size := (Array.getElem?_eq_some_iff.1 hF).1
      obtain ⟨y, hy⟩ : ∃ y, xs[f]? = some y := ⟨_, List.getElem?_eq_getElem (by omega)⟩
      rw [hy] at g
      obtain ⟨z, hz, _, hw⟩ := DataW.trod_int u g
      have hz2 : [c0, c1, c2][f]? = some (.int .i64 z) := by
        have := congrArg (·[0]?) hz
        simpa [List.getElem?_take, List.getElem?_drop] using this
      exact ⟨z, hz2, bounds_i64 hw⟩
    obtain ⟨a, ha, ha2⟩ := hint 0 (by omega)
    obtain ⟨b, hb, hb2'⟩ := hint 1 (by omega)
    have g := hfl 2 FB hFB
    rw [hoB, hcB, htB] at g
    have hfs : 2 < fs.size := (Array.getElem?_eq_some_iff.1 hFB).1
    obtain ⟨y, hy⟩ : ∃ y, xs[2]? = some y := ⟨_, List.getElem?_eq_getElem (by omega)⟩
    rw [hy] at g
    simp at ha hb
    subst ha hb
    rcases ChangeShapes.open_ints hb1 hb2 hb3 g with ⟨hz, _⟩ | ⟨a', len', cap', zs, hz, _, hl', hm', hzl, _, hzc, hzw⟩
    · simp at hz
      subst hz
      exact ⟨a, b, none, 0, 0, [], rfl, ha2, hb2', Sl.nil_ _ _, by simp, by omega, by omega⟩
    · simp at hz
      subst hz
      exact ⟨a, b, some a', len', cap', zs.take len', rfl, ha2, hb2', Sl.of_row hl' hzl hzc, fun x hx => by have := bounds_u8 (hzw x (List.mem_of_mem_take hx)); omega, by simp only [maxLen] at hm'; omega, hl'⟩
end Go.Proofs.Ythdclncgmhgmfaa
