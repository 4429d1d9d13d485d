/- An argument that is a slice of structs of some ints and, last, a slice of bytes. No function of the program is named here. -/
import Derived.Test.YthdclncgmhgmfaaRecs
import Derived.Test.YthdclncgmhgmfaaVals
import Derived.ChangeSlices
namespace Go.Proofs.Ythdclncgmhgmfaa
open Go.RowKit Go.ChangeShapes Go.WideShapes Go.Deep
set_option linter.unusedSimpArgs false
set_option linter.unusedVariables false

/-- The slice at A of n structs: k ints V i, then the slice of bytes Bv i that reads as Z i. -/
def Dos (w : World) (A : Option Addr) (n k : Nat) (V : Nat → Nat → Int) (Bv : Nat → Value) (Z : Nat → List Int) : Prop :=
  ∀ i, i < n → ∃ ad, A = some ad ∧ (∀ f, f < k → w.cell? (ad.add (i * (k + 1) + f)) = some (.int .i64 (V i f))) ∧ w.cell? (ad.add (i * (k + 1) + k)) = some (Bv i) ∧
    ∃ A' c, Bv i = .slice A' (Z i).length c ∧ Sl w A' (Z i).length (u8s (Z i))
def DosOk (n k : Nat) (V : Nat → Nat → Int) (Z : Nat → List Int) : Prop :=
  ∀ i, i < n → (∀ f, f < k → -9223372036854775808 ≤ V i f ∧ V i f ≤ 9223372036854775807) ∧ (∀ x ∈ Z i, 0 ≤ x ∧ x < 256) ∧ (Z i).length ≤ 9223372036854775807

theorem Dos.below {w w' : World} {A : Option Addr} {n k : Nat} {V : Nat → Nat → Int} {Bv : Nat → Value} {Z : Nat → List Int} (h : Dos w A n k V Bv Z) (hb : Below w.heap.size w w') : Dos w' A n k V Bv Z := fun i hi => by
  obtain ⟨ad, e, h1, h2, A', c, h3, h4⟩ := h i hi
  exact ⟨ad, e, fun f hf => (hb.cell (World.block_lt_of_cell? w _ (h1 f hf))).trans (h1 f hf), (hb.cell (World.block_lt_of_cell? w _ h2)).trans h2, A', c, h3, h4.below hb⟩

theorem Dos.three {w : World} {A : Option Addr} {n : Nat} {V : Nat → Nat → Int} {Bv : Nat → Value} {Z : Nat → List Int} (h : Dos w A n 2 V Bv Z) {k : Nat} (hk : k < n) :
    ∃ ad A' c, A = some ad ∧ w.cell? (ad.add (k * 3)) = some (.int .i64 (V k 0)) ∧ w.cell? ⟨(ad.add (k * 3)).block, (ad.add (k * 3)).off + 1, none⟩ = some (.int .i64 (V k 1)) ∧ w.cell? ⟨(ad.add (k * 3)).block, (ad.add (k * 3)).off + 2, none⟩ = some (.slice A' (Z k).length c) ∧ Sl w A' (Z k).length (u8s (Z k)) := by
  obtain ⟨ad, e, h1, h2, A', c, h3, h4⟩ := h k hk
  have g0 := h1 0 (by omega)
  have g1 := h1 1 (by omega)
  rw [h3] at h2
  rw [← addr_twice] at g1 h2
  exact ⟨ad, A', c, e, g0, g1, h2, h4⟩

/-- The first k fields are ints, one cell each, at their indices; the next is a slice of type tb, one cell (for the kernel). -/
def doFields (P : Program) (fs : Array Field) (k : Nat) (tb : TypeId) : Bool := ((List.range k).all fun i => match fs[i]? with
  | some f => f.offset == i && (match P.underlying f.type with | some (.int .i64) => true | _ => false) && P.cellsOf f.type == 1
  | none => false) && (match fs[k]? with | some f => f.offset == k && f.type == tb && P.cellsOf f.type == 1 | none => false)
theorem doFields_of {P : Program} {fs : Array Field} {k : Nat} {tb : TypeId} (h : doFields P fs k tb = true) :
    (∀ f, f < k → ∃ F, fs[f]? = some F ∧ F.offset = f ∧ P.underlying F.type = some (.int .i64) ∧ P.cellsOf F.type = 1) ∧ ∃ F, fs[k]? = some F ∧ F.offset = k ∧ F.type = tb ∧ P.cellsOf F.type = 1 := by
  unfold doFields at h
  simp only [Bool.and_eq_true] at h
  obtain ⟨h1, h2⟩ := h
  refine ⟨fun f hf => ?_, ?_⟩
  · have := List.all_eq_true.1 h1 f (List.mem_range.2 hf)
    split at this
    · rename_i F hF
      simp only [Bool.and_eq_true, beq_iff_eq] at this
      refine ⟨F, hF, this.1.1, ?_, this.2⟩
      have h3 := this.1.2
      split at h3
      · assumption
      · cases h3
    · cases this
  · split at h2
    · rename_i F hF
      simp only [Bool.and_eq_true, beq_iff_eq] at h2
      exact ⟨F, hF, h2.1.1, h2.1.2, h2.2⟩
    · cases h2

theorem open_dos {H : Type} {enc : TypeId × Value → H} {P : Program} {w : World} {spare : Nat → Bool} {held : Bool} {t e tb eb : TypeId} {fuel k : Nat} {fs : Array Field} {cs : List Value} {x : DataW H × List MemPlace}
    (ht : P.underlying t = some (.slice e)) (he : P.underlying e = some (.struct fs)) (ce : P.cellsOf e = k + 1) (hf : doFields P fs k tb = true)
    (hb1 : P.underlying tb = some (.slice eb)) (hb2 : P.underlying eb = some (.int .u8)) (hb3 : P.cellsOf eb = 1)
    (h : DataW.trod enc P w 0 spare held fuel t cs = some x) :
    ∃ (A : Option Addr) (len cap : Nat) (V : Nat → Nat → Int) (Bv : Nat → Value) (Z : Nat → List Int), cs = [.slice A len cap] ∧ len ≤ maxLen ∧ Dos w A len k V Bv Z ∧ DosOk len k V Z := by
  rcases open_slice ht h with h0 | ⟨a, len, cap, m, n, D, Pl, rfl, hb, hl, hm, hmm, _, hx⟩
  · exact ⟨none, 0, 0, fun _ _ => 0, fun _ => undef, fun _ => [], h0.1, by simp, fun i hi => by omega, fun i hi => by omega⟩
  have hlm : len ≤ m := by rw [hmm]; split <;> omega
  obtain ⟨hints, FB, hFB, hoB, htB, hcB⟩ := doFields_of hf
  have each : ∀ i, i < len → ∃ (v : Nat → Int) (bv : Value) (z : List Int), (∀ f, f < k → w.cell? (a.add (i * (k + 1) + f)) = some (.int .i64 (v f)) ∧ -9223372036854775808 ≤ v f ∧ v f ≤ 9223372036854775807) ∧ w.cell? (a.add (i * (k + 1) + k)) = some bv ∧
      (∃ A' c, bv = .slice A' z.length c ∧ Sl w A' z.length (u8s z)) ∧ (∀ x ∈ z, 0 ≤ x ∧ x < 256) ∧ z.length ≤ 9223372036854775807 := by
    intro i hi
    obtain ⟨cs', h1, h2⟩ := hx i (by omega)
    rw [ce] at h1
    obtain ⟨_, hlen, hcell⟩ := World.cells?_some h1
    obtain ⟨xs, n', hn', hxy, _, hxl, hfl⟩ := DataW.trod_struct he h2
    have hint : ∀ f, f < k → ∃ z : Int, w.cell? (a.add (i * (k + 1) + f)) = some (.int .i64 z) ∧ -9223372036854775808 ≤ z ∧ z ≤ 9223372036854775807 := by
      intro f hfk
      obtain ⟨F, hF, o, u, c⟩ := hints f hfk
      have g := hfl f F hF
      rw [o, c] at g
      have hfs : f < fs.size := (Array.getElem?_eq_some_iff.1 hF).1
      obtain ⟨y, hy⟩ : ∃ y, xs[f]? = some y := ⟨_, List.getElem?_eq_getElem (by omega)⟩
      rw [hy] at g
      obtain ⟨z, hz, _, hw⟩ := DataW.trod_int u g
      have hc := hcell f (by omega)
      rw [addr_twice] at hc
      have hz2 : cs'[f]? = some (.int .i64 z) := by
        have := congrArg (·[0]?) hz
        simpa [List.getElem?_take, List.getElem?_drop] using this
      exact ⟨z, hc.trans hz2, bounds_i64 hw⟩
    have hby : ∃ (bv : Value) (z : List Int), w.cell? (a.add (i * (k + 1) + k)) = some bv ∧ (∃ A' c, bv = .slice A' z.length c ∧ Sl w A' z.length (u8s z)) ∧ (∀ x ∈ z, 0 ≤ x ∧ x < 256) ∧ z.length ≤ 9223372036854775807 := by
      have g := hfl k FB hFB
      rw [hoB, hcB, htB] at g
      have hfs : k < fs.size := (Array.getElem?_eq_some_iff.1 hFB).1
      obtain ⟨y, hy⟩ : ∃ y, xs[k]? = some y := ⟨_, List.getElem?_eq_getElem (by omega)⟩
      rw [hy] at g
      have hc := hcell k (by omega)
      rw [addr_twice] at hc
      rcases ChangeShapes.open_ints hb1 hb2 hb3 g with ⟨hz, _⟩ | ⟨a', len', cap', zs, hz, _, hl', hm', hzl, _, hzc, hzw⟩
      · have hz2 : cs'[k]? = some (.slice none 0 0) := by
          have := congrArg (·[0]?) hz
          simpa [List.getElem?_take, List.getElem?_drop] using this
        exact ⟨_, [], hc.trans hz2, ⟨none, 0, rfl, Sl.nil_ _ _⟩, fun x hx => by simp at hx, by simp⟩
      · have hz2 : cs'[k]? = some (.slice (some a') len' cap') := by
          have := congrArg (·[0]?) hz
          simpa [List.getElem?_take, List.getElem?_drop] using this
        have hll : len' ≤ zs.length := by rw [hzl]; split <;> omega
        have htl : (zs.take len').length = len' := by rw [List.length_take]; omega
        refine ⟨_, zs.take len', hc.trans hz2, ⟨some a', cap', by rw [htl], ?_⟩, fun x hx => ?_, by rw [htl]; simp only [maxLen] at hm'; omega⟩
        · rw [htl]
          refine ⟨by rw [List.length_map]; exact htl, fun j u hu => ⟨a', rfl, ?_⟩⟩
          rw [List.getElem?_map, List.getElem?_take] at hu
          split at hu
          · have hj : j < zs.length := by omega
            rw [hzc j hj]
            rw [List.getElem?_eq_getElem hj] at hu
            have hu2 : u = .int .u8 zs[j] := by simpa using hu.symm
            rw [hu2]
            simp [List.getD, List.getElem?_eq_getElem hj]
          · simp at hu
        · have := bounds_u8 (hzw x (List.mem_of_mem_take hx))
          omega
    obtain ⟨bv, z, hb1', hb2', hb3', hb4'⟩ := hby
    have hchoose : ∃ v : Nat → Int, ∀ f, f < k → w.cell? (a.add (i * (k + 1) + f)) = some (.int .i64 (v f)) ∧ -9223372036854775808 ≤ v f ∧ v f ≤ 9223372036854775807 := by
      refine ⟨fun f => cellInt (w.cell? (a.add (i * (k + 1) + f))), fun f hfk => ?_⟩
      obtain ⟨z, hz, hr⟩ := hint f hfk
      show w.cell? (a.add (i * (k + 1) + f)) = some (.int .i64 (cellInt (w.cell? (a.add (i * (k + 1) + f))))) ∧ -9223372036854775808 ≤ cellInt (w.cell? (a.add (i * (k + 1) + f))) ∧ cellInt (w.cell? (a.add (i * (k + 1) + f))) ≤ 9223372036854775807
      rw [hz]; exact ⟨rfl, hr⟩
    obtain ⟨v, hv⟩ := hchoose
    exact ⟨v, bv, z, hv, hb1', hb2', hb3', hb4'⟩
  have hall : ∃ (V : Nat → Nat → Int) (Bv : Nat → Value) (Z : Nat → List Int), ∀ i, i < len → (∀ f, f < k → w.cell? (a.add (i * (k + 1) + f)) = some (.int .i64 (V i f)) ∧ -9223372036854775808 ≤ V i f ∧ V i f ≤ 9223372036854775807) ∧ w.cell? (a.add (i * (k + 1) + k)) = some (Bv i) ∧
      (∃ A' c, Bv i = .slice A' (Z i).length c ∧ Sl w A' (Z i).length (u8s (Z i))) ∧ (∀ x ∈ Z i, 0 ≤ x ∧ x < 256) ∧ (Z i).length ≤ 9223372036854775807 := by
    refine ⟨fun i => if hi : i < len then Classical.choose (each i hi) else fun _ => 0, fun i => if hi : i < len then Classical.choose (Classical.choose_spec (each i hi)) else undef, fun i => if hi : i < len then Classical.choose (Classical.choose_spec (Classical.choose_spec (each i hi))) else [], fun i hi => ?_⟩
    have := Classical.choose_spec (Classical.choose_spec (Classical.choose_spec (each i hi)))
    simp only [dif_pos hi]
    exact this
  obtain ⟨V, Bv, Z, hV⟩ := hall
  refine ⟨some a, len, cap, V, Bv, Z, rfl, Nat.le_trans hl hm, fun i hi => ?_, fun i hi => ?_⟩
  · obtain ⟨g1, g2, g3, g4, g5⟩ := hV i hi
    exact ⟨a, rfl, fun f hf => (g1 f hf).1, g2, g3⟩
  · obtain ⟨g1, g2, g3, g4, g5⟩ := hV i hi
    exact ⟨fun f hf => (g1 f hf).2, g4, g5⟩

/-- An array of two, of one-cell elements, taken apart (the library has three and four). -/
theorem trod_array2 {H : Type} {enc : TypeId × Value → H} {P : Program} {w : World} {base : Nat} {spare : Nat → Bool} {held : Bool} {t e : TypeId} {fuel : Nat} {c0 c1 : Value} {x : DataW H × List MemPlace}
    (ht : P.underlying t = some (.array 2 e)) (hce : P.cellsOf e = 1) (h : DataW.trod enc P w base spare held fuel t [c0, c1] = some x) :
    ∃ y0 y1 n, x = (.agg [y0.1, y1.1], y0.2 ++ y1.2) ∧ DataW.trod enc P w base spare held n e [c0] = some y0 ∧ DataW.trod enc P w base spare held n e [c1] = some y1 := by
  rcases fuel with _ | n
  · simp [DataW.trod] at h
  unfold DataW.trod at h
  simp [ht, show List.range 2 = [0, 1] from rfl, hce] at h
  have h := h.2
  rcases h0 : DataW.trod enc P w base spare held n e [c0] with _ | y0
  · simp [h0] at h
  rcases h1 : DataW.trod enc P w base spare held n e [c1] with _ | y1
  · simp [h0, h1] at h
  simp [h0, h1] at h
  exact ⟨y0, y1, n, h.symm, h0, h1⟩

/-- An argument that is an array of two ints. -/
theorem open_two {H : Type} {enc : TypeId × Value → H} {P : Program} {w : World} {base : Nat} {spare : Nat → Bool} {held : Bool} {t e : TypeId} {fuel : Nat} {cs : Array Value} {x : DataW H × List MemPlace}
    (ht : P.underlying t = some (.array 2 e)) (he : P.underlying e = some (.int .i64)) (hce : P.cellsOf e = 1) (hsz : cs.size = 2) (h : DataW.trod enc P w base spare held fuel t cs.toList = some x) :
    ∃ a b : Int, cs = #[.int .i64 a, .int .i64 b] ∧ (-9223372036854775808 ≤ a ∧ a ≤ 9223372036854775807) ∧ (-9223372036854775808 ≤ b ∧ b ≤ 9223372036854775807) := by
  obtain ⟨l⟩ := cs
  match l, hsz, h with
  | [c0, c1], _, h =>
    obtain ⟨y0, y1, m, hx, hy0, hy1⟩ := trod_array2 ht hce h
    obtain ⟨x0, e0, _, w0⟩ := DataW.trod_int he hy0
    obtain ⟨x1, e1, _, w1⟩ := DataW.trod_int he hy1
    simp at e0 e1
    subst e0 e1
    exact ⟨x0, x1, rfl, bounds_i64 w0, bounds_i64 w1⟩
end Go.Proofs.Ythdclncgmhgmfaa
