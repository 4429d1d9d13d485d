/- Merged texts: Arr Full Dos Met1 PD1 PD2 PD3 PD4 PD5 PD6 PD7 PD8 PD9 PD10 PD11 Cut PD12 PD13 PD14 PDisk. -/
import Derived.Test.YteliebinhdphlaaDoorM3
import Derived.Test.YteliebinhdphlaaDoorM2
import Derived.Test.YteliebinhdphlaaDoorM1
import Derived.ChangeSlices
import Derived.Deep.OwnRows
import Derived.Laws.ResultCell
import Derived.Great.BuildSlice
import Derived.Laws.IdiomCopy
import Derived.Laws.MakeOwn
/- Arrays of 128 bytes, by value, beside the document's disk. -/

/- Full: a sector that begins with bytes, and goes on with them. -/
namespace Go.Proofs.YteliebinhdphlaaDoor
set_option maxRecDepth 100000
open Go.RowKit Go.Deep
set_option linter.unusedSimpArgs false
set_option linter.unusedVariables false
attribute [local irreducible] Tryd.zeroCells72

def fullOf (xs : List Int) : List Int := (List.range 128).map fun i => if xs.length = 0 then 0 else xs.getD (i % xs.length) 0
def fullTo (xs : List Int) (k : Nat) : List Int := (fullOf xs).take k ++ zeros128.drop k
theorem fullOf_len (xs : List Int) : (fullOf xs).length = 128 := by simp [fullOf]
theorem fullTo_len (xs : List Int) (k : Nat) (hk : k ≤ 128) : (fullTo xs k).length = 128 := by
  unfold fullTo; rw [List.length_append, List.length_take, List.length_drop, fullOf_len, zeros_len]; omega
theorem fullTo_succ (xs : List Int) (k : Nat) (hk : k < 128) : (fullTo xs k).set k ((fullOf xs).getD k 0) = fullTo xs (k + 1) := by
  apply List.ext_getElem?
  intro i
  unfold fullTo
  by_cases hi : i = k
  · subst hi
    rw [List.getElem?_set_self (by rw [List.length_append, List.length_take, List.length_drop, fullOf_len, zeros_len]; omega)]
    rw [List.getElem?_append_left (by rw [List.length_take, fullOf_len]; omega), List.getElem?_take, if_pos (by omega)]
    simp [List.getD, fullOf_len, hk]
  · rw [List.getElem?_set_ne (fun e => hi e.symm)]
    by_cases hl : i < k
    · rw [List.getElem?_append_left (by rw [List.length_take, fullOf_len]; omega), List.getElem?_append_left (by rw [List.length_take, fullOf_len]; omega), List.getElem?_take, List.getElem?_take, if_pos hl, if_pos (by omega)]
    · rw [List.getElem?_append_right (by rw [List.length_take, fullOf_len]; omega), List.getElem?_append_right (by rw [List.length_take, fullOf_len]; omega), List.getElem?_drop, List.getElem?_drop]
      congr 1
      simp only [List.length_take, fullOf_len]; omega
theorem fullOf_byte {xs : List Int} (h : ∀ x ∈ xs, 0 ≤ x ∧ x < 256) : Byte128 (fullOf xs) := by
  refine ⟨fullOf_len xs, fun x hx => ?_⟩
  obtain ⟨i, _, rfl⟩ := List.mem_map.1 hx
  split
  · omega
  · simp only [List.getD]
    cases he : xs[i % xs.length]? with
    | none => simp
    | some y => exact h y (List.mem_of_getElem? he)

end Go.Proofs.YteliebinhdphlaaDoor

/- An argument that is a slice of structs of some ints and, last, a slice of bytes. No function of the program is named here. -/
namespace Go.Proofs.YteliebinhdphlaaDoor
set_option maxRecDepth 100000
open Go.RowKit Go.ChangeShapes Go.WideShapes Go.Deep
set_option linter.unusedSimpArgs false
set_option linter.unusedVariables false

/-- The slice at A of n structs: k ints V i, then the slice of bytes Bv i that reads as Z i. -/
def Dos (w : World) (A : Option Addr) (n k : Nat) (V : Nat → Nat → Int) (Bv : Nat → Value) (Z : Nat → List Int) : Prop :=
  ∀ i, i < n → ∃ ad, A = some ad ∧ (∀ f, f < k → w.cell? (ad.add (i * (k + 1) + f)) = some (.int .i64 (V i f))) ∧ w.cell? (ad.add (i * (k + 1) + k)) = some (Bv i) ∧
    ∃ A' c, Bv i = .slice A' (Z i).length c ∧ Sl w A' (Z i).length (u8s (Z i))
def DosOk (n k : Nat) (V : Nat → Nat → Int) (Z : Nat → List Int) : Prop :=
  ∀ i, i < n → (∀ f, f < k → -9223372036854775808 ≤ V i f ∧ V i f ≤ 9223372036854775807) ∧ (∀ x ∈ Z i, 0 ≤ x ∧ x < 256) ∧ (Z i).length ≤ 9223372036854775807

theorem Dos.below {w w' : World} {A : Option Addr} {n k : Nat} {V : Nat → Nat → Int} {Bv : Nat → Value} {Z : Nat → List Int} (h : Dos w A n k V Bv Z) (hb : Below w.heap.size w w') : Dos w' A n k V Bv Z := fun i hi => by
  obtain ⟨ad, e, h1, h2, A', c, h3, h4⟩ := h i hi
  exact ⟨ad, e, fun f hf => (hb.cell (World.block_lt_of_cell? w _ (h1 f hf))).trans (h1 f hf), (hb.cell (World.block_lt_of_cell? w _ h2)).trans h2, A', c, h3, h4.below hb⟩

theorem Dos.three {w : World} {A : Option Addr} {n : Nat} {V : Nat → Nat → Int} {Bv : Nat → Value} {Z : Nat → List Int} (h : Dos w A n 2 V Bv Z) {k : Nat} (hk : k < n) :
    ∃ ad A' c, A = some ad ∧ w.cell? (ad.add (k * 3)) = some (.int .i64 (V k 0)) ∧ w.cell? ⟨(ad.add (k * 3)).block, (ad.add (k * 3)).off + 1, none⟩ = some (.int .i64 (V k 1)) ∧ w.cell? ⟨(ad.add (k * 3)).block, (ad.add (k * 3)).off + 2, none⟩ = some (.slice A' (Z k).length c) ∧ Sl w A' (Z k).length (u8s (Z k)) := by
  obtain ⟨ad, e, h1, h2, A', c, h3, h4⟩ := h k hk
  have g0 := h1 0 (by omega)
  have g1 := h1 1 (by omega)
  rw [h3] at h2
  rw [← addr_twice] at g1 h2
  exact ⟨ad, A', c, e, g0, g1, h2, h4⟩

/-- The first k fields are ints, one cell each, at their indices; the next is a slice of type tb, one cell (for the kernel). -/
def doFields (P : Program) (fs : Array Field) (k : Nat) (tb : TypeId) : Bool := ((List.range k).all fun i => match fs[i]? with
  | some f => f.offset == i && (match P.underlying f.type with | some (.int .i64) => true | _ => false) && P.cellsOf f.type == 1
  | none => false) && (match fs[k]? with | some f => f.offset == k && f.type == tb && P.cellsOf f.type == 1 | none => false)
theorem doFields_of {P : Program} {fs : Array Field} {k : Nat} {tb : TypeId} (h : doFields P fs k tb = true) :
    (∀ f, f < k → ∃ F, fs[f]? = some F ∧ F.offset = f ∧ P.underlying F.type = some (.int .i64) ∧ P.cellsOf F.type = 1) ∧ ∃ F, fs[k]? = some F ∧ F.offset = k ∧ F.type = tb ∧ P.cellsOf F.type = 1 := by
  unfold doFields at h
  simp only [Bool.and_eq_true] at h
  obtain ⟨h1, h2⟩ := h
  refine ⟨fun f hf => ?_, ?_⟩
  · have := List.all_eq_true.1 h1 f (List.mem_range.2 hf)
    split at this
    · rename_i F hF
      simp only [Bool.and_eq_true, beq_iff_eq] at this
      refine ⟨F, hF, this.1.1, ?_, this.2⟩
      have h3 := this.1.2
      split at h3
      · assumption
      · cases h3
    · cases this
  · split at h2
    · rename_i F hF
      simp only [Bool.and_eq_true, beq_iff_eq] at h2
      exact ⟨F, hF, h2.1.1, h2.1.2, h2.2⟩
    · cases h2

theorem open_dos {H : Type} {enc : TypeId × Value → H} {P : Program} {w : World} {spare : Nat → Bool} {held : Bool} {t e tb eb : TypeId} {fuel k : Nat} {fs : Array Field} {cs : List Value} {x : DataW H × List MemPlace}
    (ht : P.underlying t = some (.slice e)) (he : P.underlying e = some (.struct fs)) (ce : P.cellsOf e = k + 1) (hf : doFields P fs k tb = true)
    (hb1 : P.underlying tb = some (.slice eb)) (hb2 : P.underlying eb = some (.int .u8)) (hb3 : P.cellsOf eb = 1)
    (h : DataW.trod enc P w 0 spare held fuel t cs = some x) :
    ∃ (A : Option Addr) (len cap : Nat) (V : Nat → Nat → Int) (Bv : Nat → Value) (Z : Nat → List Int), cs = [.slice A len cap] ∧ len ≤ maxLen ∧ Dos w A len k V Bv Z ∧ DosOk len k V Z := by
  rcases open_slice ht h with h0 | ⟨a, len, cap, m, n, D, Pl, rfl, hb, hl, hm, hmm, _, hx⟩
  · exact ⟨none, 0, 0, fun _ _ => 0, fun _ => undef, fun _ => [], h0.1, by simp, fun i hi => by omega, fun i hi => by omega⟩
  have hlm : len ≤ m := by rw [hmm]; split <;> omega
  obtain ⟨hints, FB, hFB, hoB, htB, hcB⟩ := doFields_of hf
  have each : ∀ i, i < len → ∃ (v : Nat → Int) (bv : Value) (z : List Int), (∀ f, f < k → w.cell? (a.add (i * (k + 1) + f)) = some (.int .i64 (v f)) ∧ -9223372036854775808 ≤ v f ∧ v f ≤ 9223372036854775807) ∧ w.cell? (a.add (i * (k + 1) + k)) = some bv ∧
      (∃ A' c, bv = .slice A' z.length c ∧ Sl w A' z.length (u8s z)) ∧ (∀ x ∈ z, 0 ≤ x ∧ x < 256) ∧ z.length ≤ 9223372036854775807 := by
    intro i hi
    obtain ⟨cs', h1, h2⟩ := hx i (by omega)
    rw [ce] at h1
    obtain ⟨_, hlen, hcell⟩ := World.cells?_some h1
    obtain ⟨xs, n', hn', hxy, _, hxl, hfl⟩ := DataW.trod_struct he h2
    have hint : ∀ f, f < k → ∃ z : Int, w.cell? (a.add (i * (k + 1) + f)) = some (.int .i64 z) ∧ -9223372036854775808 ≤ z ∧ z ≤ 9223372036854775807 := by
      intro f hfk
      obtain ⟨F, hF, o, u, c⟩ := hints f hfk
      have g := hfl f F hF
      rw [o, c] at g
      have hfs : f < fs.size := (Array.getElem?_eq_some_iff.1 hF).1
      obtain ⟨y, hy⟩ : ∃ y, xs[f]? = some y := ⟨_, List.getElem?_eq_getElem (by omega)⟩
      rw [hy] at g
      obtain ⟨z, hz, _, hw⟩ := DataW.trod_int u g
      have hc := hcell f (by omega)
      rw [addr_twice] at hc
      have hz2 : cs'[f]? = some (.int .i64 z) := by
        have := congrArg (·[0]?) hz
        simpa [List.getElem?_take, List.getElem?_drop] using this
      exact ⟨z, hc.trans hz2, bounds_i64 hw⟩
    have hby : ∃ (bv : Value) (z : List Int), w.cell? (a.add (i * (k + 1) + k)) = some bv ∧ (∃ A' c, bv = .slice A' z.length c ∧ Sl w A' z.length (u8s z)) ∧ (∀ x ∈ z, 0 ≤ x ∧ x < 256) ∧ z.length ≤ 9223372036854775807 := by
      have g := hfl k FB hFB
      rw [hoB, hcB, htB] at g
      have hfs : k < fs.size := (Array.getElem?_eq_some_iff.1 hFB).1
      obtain ⟨y, hy⟩ : ∃ y, xs[k]? = some y := ⟨_, List.getElem?_eq_getElem (by omega)⟩
      rw [hy] at g
      have hc := hcell k (by omega)
      rw [addr_twice] at hc
      rcases ChangeShapes.open_ints hb1 hb2 hb3 g with ⟨hz, _⟩ | ⟨a', len', cap', zs, hz, _, hl', hm', hzl, _, hzc, hzw⟩
      · have hz2 : cs'[k]? = some (.slice none 0 0) := by
          have := congrArg (·[0]?) hz
          simpa [List.getElem?_take, List.getElem?_drop] using this
        exact ⟨_, [], hc.trans hz2, ⟨none, 0, rfl, Sl.nil_ _ _⟩, fun x hx => by simp at hx, by simp⟩
      · have hz2 : cs'[k]? = some (.slice (some a') len' cap') := by
          have := congrArg (·[0]?) hz
          simpa [List.getElem?_take, List.getElem?_drop] using this
        have hll : len' ≤ zs.length := by rw [hzl]; split <;> omega
        have htl : (zs.take len').length = len' := by rw [List.length_take]; omega
        refine ⟨_, zs.take len', hc.trans hz2, ⟨some a', cap', by rw [htl], ?_⟩, fun x hx => ?_, by rw [htl]; simp only [maxLen] at hm'; omega⟩
        · rw [htl]
          refine ⟨by rw [List.length_map]; exact htl, fun j u hu => ⟨a', rfl, ?_⟩⟩
          rw [List.getElem?_map, List.getElem?_take] at hu
          split at hu
          · have hj : j < zs.length := by omega
            rw [hzc j hj]
            rw [List.getElem?_eq_getElem hj] at hu
            have hu2 : u = .int .u8 zs[j] := by simpa using hu.symm
            rw [hu2]
            simp [List.getD, List.getElem?_eq_getElem hj]
          · simp at hu
        · have := bounds_u8 (hzw x (List.mem_of_mem_take hx))
          omega
    obtain ⟨bv, z, hb1', hb2', hb3', hb4'⟩ := hby
    have hchoose : ∃ v : Nat → Int, ∀ f, f < k → w.cell? (a.add (i * (k + 1) + f)) = some (.int .i64 (v f)) ∧ -9223372036854775808 ≤ v f ∧ v f ≤ 9223372036854775807 := by
      refine ⟨fun f => cellInt (w.cell? (a.add (i * (k + 1) + f))), fun f hfk => ?_⟩
      obtain ⟨z, hz, hr⟩ := hint f hfk
      show w.cell? (a.add (i * (k + 1) + f)) = some (.int .i64 (cellInt (w.cell? (a.add (i * (k + 1) + f))))) ∧ -9223372036854775808 ≤ cellInt (w.cell? (a.add (i * (k + 1) + f))) ∧ cellInt (w.cell? (a.add (i * (k + 1) + f))) ≤ 9223372036854775807
      rw [hz]; exact ⟨rfl, hr⟩
    obtain ⟨v, hv⟩ := hchoose
    exact ⟨v, bv, z, hv, hb1', hb2', hb3', hb4'⟩
  have hall : ∃ (V : Nat → Nat → Int) (Bv : Nat → Value) (Z : Nat → List Int), ∀ i, i < len → (∀ f, f < k → w.cell? (a.add (i * (k + 1) + f)) = some (.int .i64 (V i f)) ∧ -9223372036854775808 ≤ V i f ∧ V i f ≤ 9223372036854775807) ∧ w.cell? (a.add (i * (k + 1) + k)) = some (Bv i) ∧
      (∃ A' c, Bv i = .slice A' (Z i).length c ∧ Sl w A' (Z i).length (u8s (Z i))) ∧ (∀ x ∈ Z i, 0 ≤ x ∧ x < 256) ∧ (Z i).length ≤ 9223372036854775807 := by
    refine ⟨fun i => if hi : i < len then Classical.choose (each i hi) else fun _ => 0, fun i => if hi : i < len then Classical.choose (Classical.choose_spec (each i hi)) else undef, fun i => if hi : i < len then Classical.choose (Classical.choose_spec (Classical.choose_spec (each i hi))) else [], fun i hi => ?_⟩
    have := Classical.choose_spec (Classical.choose_spec (Classical.choose_spec (each i hi)))
    simp only [dif_pos hi]
    exact this
  obtain ⟨V, Bv, Z, hV⟩ := hall
  refine ⟨some a, len, cap, V, Bv, Z, rfl, Nat.le_trans hl hm, fun i hi => ?_, fun i hi => ?_⟩
  · obtain ⟨g1, g2, g3, g4, g5⟩ := hV i hi
    exact ⟨a, rfl, fun f hf => (g1 f hf).1, g2, g3⟩
  · obtain ⟨g1, g2, g3, g4, g5⟩ := hV i hi
    exact ⟨fun f hf => (g1 f hf).2, g4, g5⟩

/-- An array of two, of one-cell elements, taken apart (the library has three and four). -/
theorem trod_array2 {H : Type} {enc : TypeId × Value → H} {P : Program} {w : World} {base : Nat} {spare : Nat → Bool} {held : Bool} {t e : TypeId} {fuel : Nat} {c0 c1 : Value} {x : DataW H × List MemPlace}
    (ht : P.underlying t = some (.array 2 e)) (hce : P.cellsOf e = 1) (h : DataW.trod enc P w base spare held fuel t [c0, c1] = some x) :
    ∃ y0 y1 n, x = (.agg [y0.1, y1.1], y0.2 ++ y1.2) ∧ DataW.trod enc P w base spare held n e [c0] = some y0 ∧ DataW.trod enc P w base spare held n e [c1] = some y1 := by
  rcases fuel with _ | n
  · simp [DataW.trod] at h
  unfold DataW.trod at h
  simp [ht, show List.range 2 = [0, 1] from rfl, hce] at h
  have h := h.2
  rcases h0 : DataW.trod enc P w base spare held n e [c0] with _ | y0
  · simp [h0] at h
  rcases h1 : DataW.trod enc P w base spare held n e [c1] with _ | y1
  · simp [h0, h1] at h
  simp [h0, h1] at h
  exact ⟨y0, y1, n, h.symm, h0, h1⟩

/-- An argument that is an array of two ints. -/
theorem open_two {H : Type} {enc : TypeId × Value → H} {P : Program} {w : World} {base : Nat} {spare : Nat → Bool} {held : Bool} {t e : TypeId} {fuel : Nat} {cs : Array Value} {x : DataW H × List MemPlace}
    (ht : P.underlying t = some (.array 2 e)) (he : P.underlying e = some (.int .i64)) (hce : P.cellsOf e = 1) (hsz : cs.size = 2) (h : DataW.trod enc P w base spare held fuel t cs.toList = some x) :
    ∃ a b : Int, cs = #[.int .i64 a, .int .i64 b] ∧ (-9223372036854775808 ≤ a ∧ a ≤ 9223372036854775807) ∧ (-9223372036854775808 ≤ b ∧ b ≤ 9223372036854775807) := by
  obtain ⟨l⟩ := cs
  match l, hsz, h with
  | [c0, c1], _, h =>
    obtain ⟨y0, y1, m, hx, hy0, hy1⟩ := trod_array2 ht hce h
    obtain ⟨x0, e0, _, w0⟩ := DataW.trod_int he hy0
    obtain ⟨x1, e1, _, w1⟩ := DataW.trod_int he hy1
    simp at e0 e1
    subst e0 e1
    exact ⟨x0, x1, rfl, bounds_i64 w0, bounds_i64 w1⟩
end Go.Proofs.YteliebinhdphlaaDoor

/- The program's own meter, as far as a disk asks of it: made, added to, counted. -/
namespace Go.Proofs.YteliebinhdphlaaDoor
set_option maxRecDepth 100000
open Go.RowKit
set_option linter.unusedSimpArgs false
set_option linter.unusedVariables false

theorem grown_self (w : World) (row : Option Nat) : w.grownBy w row := ⟨rfl, rfl, rfl, Nat.le_refl _, fun _ _ _ => rfl⟩

/-- The program's meter at b: its counts. -/
def PMet (w : World) (b : Nat) (L : List Int) : Prop := Met6 L ∧ w.rowIs b 112 6 (fun i => .int .i64 (L.getD i 0))

theorem PMet.lt {w : World} {b : Nat} {L : List Int} (h : PMet w b L) : b < w.heap.size := h.2.lt
theorem PMet.kept {w w' : World} {b : Nat} {L : List Int} (h : PMet w b L) (e : w'.heap[b]? = w.heap[b]?) : PMet w' b L := ⟨h.1, h.2.of_block e⟩
theorem PMet.cell {w : World} {b i : Nat} {L : List Int} {u : Int} (h : PMet w b L) (hi : i < 6) (hu : L[i]? = some u) : w.cell? ⟨b, i, none⟩ = some (.int .i64 u) := by
  have := h.2.cell hi
  simpa [List.getD, hu] using this
theorem PMet.set {w : World} {b : Nat} {L : List Int} (h : PMet w b L) (i : Nat) (hi : i < 6) (u : Int) (h1 : -9223372036854775808 ≤ u) (h2 : u ≤ 9223372036854775807) :
    PMet (w.setCell ⟨b, i, none⟩ (.int .i64 u)) b (L.set i u) ∧ w.grownBy (w.setCell ⟨b, i, none⟩ (.int .i64 u)) (some b) := by
  refine ⟨⟨met_set h.1 i h1 h2, (h.2.set i _).congr ?_⟩, ⟨rfl, rfl, rfl, by simp [World.setCell], fun k _ hne => Go.Deep.blk_setCell_other _ _ _ _ (fun e => hne (by rw [e]))⟩⟩
  intro j hj
  simp only [List.getD]
  by_cases e : j = i
  · subst e
    rw [if_pos rfl, List.getElem?_set_self (by rw [h.1.1]; exact hj)]; rfl
  · rw [if_neg e, List.getElem?_set_ne (fun h => e h.symm)]

theorem mhas_is (w : World) (b : Nat) (k : Int) : Calls Tryd.prog 50 #[.pointer (some ⟨b, 0, none⟩), .int .i64 k] w fun e w' => e = .returned (.bool (mHas k)) ∧ w' = w := by
  by_cases h1 : 1 ≤ k
  · by_cases h2 : k ≤ 6
    · have e : mHas k = true := decide_eq_true ⟨h1, h2⟩
      rw [e]
      have d1 : decide (1 ≤ k) = true := decide_eq_true h1
      have d2 : decide (k ≤ 6) = true := decide_eq_true h2
      go_enter Tryd.func50, Tryd.ntmps50
      go_wp2
      go_ret
      exact ⟨rfl, rfl⟩
    · have e : mHas k = false := decide_eq_false (by omega)
      rw [e]
      have d1 : decide (1 ≤ k) = true := decide_eq_true h1
      have d2 : decide (k ≤ 6) = false := decide_eq_false h2
      go_enter Tryd.func50, Tryd.ntmps50
      go_wp2
      go_ret
      exact ⟨rfl, rfl⟩
  · have e : mHas k = false := decide_eq_false (by omega)
    rw [e]
    have d1 : decide (1 ≤ k) = false := decide_eq_false h1
    go_enter Tryd.func50, Tryd.ntmps50
    go_wp2
    go_ret
    exact ⟨rfl, rfl⟩
theorem mhas_nil (w : World) (k : Int) : Calls Tryd.prog 50 #[.pointer none, .int .i64 k] w fun e w' => e = .returned (.bool false) ∧ w' = w := by
  go_enter Tryd.func50, Tryd.ntmps50
  go_wp2
  go_ret
  exact ⟨rfl, rfl⟩

theorem pnew_is (w : World) : Calls Tryd.prog 83 #[] w fun e w' => ∃ b, e = .returned (.pointer (some ⟨b, 0, none⟩)) ∧ w.heap.size ≤ b ∧ PMet w' b [0, 0, 0, 0, 0, 0] ∧ Below w.heap.size w w' := by
  go_enter Tryd.func83, Tryd.ntmps83
  go_wp2
  go_ret
  refine ⟨w.heap.size, rfl, Nat.le_refl _, ⟨met_zero, ⟨_, Go.Deep.blk_alloc_new _ _, rfl, ?_⟩⟩, below_alloc _ _⟩
  intro i hi
  match i, hi with
  | 0, _ => rfl
  | 1, _ => rfl
  | 2, _ => rfl
  | 3, _ => rfl
  | 4, _ => rfl
  | 5, _ => rfl

set_option maxHeartbeats 800000 in
theorem padd_is (w : World) (b : Nat) (L : List Int) (k n : Int) (hn1 : -9223372036854775808 ≤ n) (hn2 : n ≤ 9223372036854775807) (h : PMet w b L) :
    Calls Tryd.prog 76 #[.pointer (some ⟨b, 0, none⟩), .int .i64 k, .int .i64 n] w fun e w' => e = .returned (.bool (mHas k)) ∧ PMet w' b (mAdd L k n) ∧ w.grownBy w' (some b) := by
  have hh := mhas_is w b k
  cases hk : mHas k
  · rw [(mOut hk).2.1]
    rw [hk] at hh
    go_enter Tryd.func76, Tryd.ntmps76
    go_wp2_with fail
    refine hh.mono ?_
    rintro e w1 ⟨rfl, hw⟩
    obtain rfl := hw.symm
    go_wp2
    go_ret
    exact ⟨rfl, h, grown_self _ _⟩
  · rw [hk] at hh
    obtain ⟨i, hi, rfl⟩ := mHas_in hk
    obtain ⟨u, hu, hu1, hu2⟩ := met_at h.1 hi
    have hc := h.cell hi hu
    have hf := h.2.frozen i
    have hk1 : (i : Int) + 1 - 1 = (i : Int) := by omega
    have hiI : (i : Int) < 6 := by omega
    rw [mAdd_at n hi hu]
    obtain ⟨z, hz⟩ : ∃ z, z = wrap64 (u + n) := ⟨_, rfl⟩
    have Hz := Lib.hid (h.set i hi z (by rw [hz]; exact (w64_range _).1) (by rw [hz]; exact (w64_range _).2))
    rw [← hz]
    have had := run_call_add (P := Tryd.prog) Tryd.func98 (by kernel_rfl) (by kernel_rfl) (by kernel_rfl) .i64 (by kernel_rfl) (y := n) (s := z) hc hf (by rw [hz]; simp [go_sem, wrap_i64])
    clear hz hu
    go_enter Tryd.func76, Tryd.ntmps76
    go_wp2_with fail
    refine hh.mono ?_
    rintro e w1 ⟨rfl, hw⟩
    obtain rfl := hw.symm
    go_wp2
    go_ret
    exact ⟨rfl, Hz.out⟩

set_option maxHeartbeats 800000 in
theorem pcount_is (w : World) (b : Nat) (L : List Int) (k : Int) (h : PMet w b L) :
    Calls Tryd.prog 26 #[.pointer (some ⟨b, 0, none⟩), .int .i64 k] w fun e w' => e = .returned (.int .i64 (mGet L k)) ∧ w' = w := by
  have hh := mhas_is w b k
  cases hk : mHas k
  · rw [(mOut (n := 0) hk).1]
    rw [hk] at hh
    go_enter Tryd.func26, Tryd.ntmps26
    go_wp2_with fail
    refine hh.mono ?_
    rintro e w1 ⟨rfl, hw⟩
    obtain rfl := hw.symm
    go_wp2
    go_ret
    exact ⟨rfl, rfl⟩
  · rw [hk] at hh
    obtain ⟨i, hi, rfl⟩ := mHas_in hk
    obtain ⟨u, hu, hu1, hu2⟩ := met_at h.1 hi
    have hc := h.cell hi hu
    have hf := h.2.frozen i
    have hk1 : (i : Int) + 1 - 1 = (i : Int) := by omega
    have hiI : (i : Int) < 6 := by omega
    rw [mGet_at hi hu]
    have hld := run_call_load (P := Tryd.prog) Tryd.func72 (by kernel_rfl) (by kernel_rfl) (by kernel_rfl) .i64 (by kernel_rfl) hc
    clear hu
    go_enter Tryd.func26, Tryd.ntmps26
    go_wp2_with fail
    refine hh.mono ?_
    rintro e w1 ⟨rfl, hw⟩
    obtain rfl := hw.symm
    go_wp2
    go_ret
    exact ⟨rfl, rfl⟩

end Go.Proofs.YteliebinhdphlaaDoor

/- The program's disk: how it lies in memory. -/
namespace Go.Proofs.YteliebinhdphlaaDoor
set_option maxRecDepth 100000
open Go.RowKit Go.Deep
set_option linter.unusedSimpArgs false
set_option linter.unusedVariables false

/-- Of some pieces, the first of which is the one behind k others, the place of the last one for sector i, from 1 on; 0 if there is none. -/
def lastOf : List (Int × List Int) → Nat → Nat → Nat
  | [], _, _ => 0
  | p :: r, k, i => if lastOf r (k + 1) i = 0 then (if p.1 = (i : Int) then k + 1 else 0) else lastOf r (k + 1) i

theorem lastOf_gt (ws : List (Int × List Int)) (k i : Nat) : lastOf ws k i = 0 ∨ k < lastOf ws k i := by
  induction ws generalizing k with
  | nil => exact Or.inl rfl
  | cons p r ih =>
    unfold lastOf
    rcases ih (k + 1) with h | h
    · rw [if_pos h]; split <;> omega
    · rw [if_neg (by omega)]; omega
theorem lastOf_le (ws : List (Int × List Int)) (k i : Nat) : lastOf ws k i ≤ k + ws.length := by
  induction ws generalizing k with
  | nil => exact Nat.zero_le _
  | cons p r ih =>
    have := ih (k + 1)
    unfold lastOf
    split
    · split <;> simp
    · simp; omega
theorem lastOf_zero (ws : List (Int × List Int)) (k i : Nat) : lastOf ws k i = 0 ↔ ws.any (fun p => p.1 == (i : Int)) = false := by
  induction ws generalizing k with
  | nil => simp [lastOf]
  | cons p r ih =>
    have := ih (k + 1)
    unfold lastOf
    rw [List.any_cons]
    by_cases h : lastOf r (k + 1) i = 0
    · rw [if_pos h, this.1 h]
      by_cases hp : p.1 = (i : Int)
      · rw [if_pos hp]; simp [hp]
      · rw [if_neg hp]; simp [hp]
    · rw [if_neg h]
      have h2 : r.any (fun p => p.1 == (i : Int)) = true := by
        cases e : r.any (fun p => p.1 == (i : Int))
        · exact absurd (this.2 e) h
        · rfl
      rw [h2]; simp [h]
theorem lastOf_snoc (ws : List (Int × List Int)) (p : Int × List Int) (k i : Nat) : lastOf (ws ++ [p]) k i = if p.1 = (i : Int) then k + ws.length + 1 else lastOf ws k i := by
  induction ws generalizing k with
  | nil => simp [lastOf]
  | cons q r ih =>
    rw [List.cons_append]
    unfold lastOf
    rw [ih (k + 1)]
    by_cases hp : p.1 = (i : Int)
    · rw [if_pos hp, if_pos hp, if_neg (by omega)]; simp; omega
    · rw [if_neg hp, if_neg hp]
/-- The last piece is the one that is read. -/
theorem lastOf_find (ws : List (Int × List Int)) (k i : Nat) (h : lastOf ws k i ≠ 0) : ∃ p, ws[lastOf ws k i - (k + 1)]? = some p ∧ p.1 = (i : Int) ∧ ws.reverse.find? (fun p => p.1 == (i : Int)) = some p := by
  induction ws generalizing k with
  | nil => exact absurd rfl h
  | cons q r ih =>
    have hg := lastOf_gt r (k + 1) i
    by_cases h1 : lastOf r (k + 1) i = 0
    · have e : lastOf (q :: r) k i = if q.1 = (i : Int) then k + 1 else 0 := by
        conv => lhs; unfold lastOf
        rw [if_pos h1]
      by_cases hq : q.1 = (i : Int)
      · rw [if_pos hq] at e
        refine ⟨q, by rw [e, Nat.sub_self]; rfl, hq, ?_⟩
        rw [List.reverse_cons, List.find?_append, find_none_of _ ((lastOf_zero r (k + 1) i).1 h1)]
        simp [hq]
      · rw [if_neg hq] at e; exact absurd e h
    · have e : lastOf (q :: r) k i = lastOf r (k + 1) i := by
        conv => lhs; unfold lastOf
        rw [if_neg h1]
      obtain ⟨p, h2, h3, h4⟩ := ih (k + 1) h1
      refine ⟨p, ?_, h3, ?_⟩
      · rw [e, show lastOf r (k + 1) i - (k + 1) = (lastOf r (k + 1) i - (k + 1 + 1)) + 1 by omega, List.getElem?_cons_succ]; exact h2
      · rw [List.reverse_cons, List.find?_append, h4]; rfl
/-- What waits behind the first piece. -/
theorem lastOf_drop (ws : List (Int × List Int)) (p : Int × List Int) (k i : Nat) (h : ws[k]? = some p) (hp : p.1 ≠ (i : Int)) : lastOf (ws.drop k) k i = lastOf (ws.drop (k + 1)) (k + 1) i := by
  have hk := (List.getElem?_eq_some_iff.1 h).1
  have e : ws.drop k = p :: ws.drop (k + 1) := by
    rw [List.drop_eq_getElem_cons hk]; congr 1
    exact Option.some.inj ((List.getElem?_eq_getElem hk).symm.trans h)
  rw [e]
  conv => lhs; unfold lastOf
  by_cases h0 : lastOf (ws.drop (k + 1)) (k + 1) i = 0
  · rw [if_pos h0, if_neg hp, h0]
  · rw [if_neg h0]
theorem lastOf_here (ws : List (Int × List Int)) (p : Int × List Int) (k i : Nat) (h : ws[k]? = some p) (hp : p.1 = (i : Int)) :
    (lastOf (ws.drop k) k i = k + 1 ∧ lastOf (ws.drop (k + 1)) (k + 1) i = 0) ∨ (lastOf (ws.drop k) k i ≠ k + 1 ∧ lastOf (ws.drop k) k i ≠ 0 ∧ lastOf (ws.drop k) k i = lastOf (ws.drop (k + 1)) (k + 1) i) := by
  have hk := (List.getElem?_eq_some_iff.1 h).1
  have e : ws.drop k = p :: ws.drop (k + 1) := by
    rw [List.drop_eq_getElem_cons hk]; congr 1
    exact Option.some.inj ((List.getElem?_eq_getElem hk).symm.trans h)
  have hg := lastOf_gt (ws.drop (k + 1)) (k + 1) i
  have e2 : lastOf (ws.drop k) k i = if lastOf (ws.drop (k + 1)) (k + 1) i = 0 then k + 1 else lastOf (ws.drop (k + 1)) (k + 1) i := by
    rw [e]
    conv => lhs; unfold lastOf
    rw [if_pos hp]
  by_cases h0 : lastOf (ws.drop (k + 1)) (k + 1) i = 0
  · rw [if_pos h0] at e2; exact Or.inl ⟨e2, h0⟩
  · rw [if_neg h0] at e2; exact Or.inr ⟨by omega, by omega, e2⟩

/-! Pieces, one behind the other. -/
def pieceCells (p : Int × List Int) : List Value := .int .i64 p.1 :: u8s p.2
def flatP (ps : List (Int × List Int)) : List Value := ps.flatMap pieceCells
theorem pieceCells_len {p : Int × List Int} (h : p.2.length = 128) : (pieceCells p).length = 129 := by simp [pieceCells, h]
theorem flatP_cons (p : Int × List Int) (ps : List (Int × List Int)) : flatP (p :: ps) = pieceCells p ++ flatP ps := rfl
theorem flatP_snoc (ps : List (Int × List Int)) (p : Int × List Int) : flatP (ps ++ [p]) = flatP ps ++ pieceCells p := by simp [flatP]
theorem flatP_len {ps : List (Int × List Int)} (h : ∀ p ∈ ps, p.2.length = 128) : (flatP ps).length = ps.length * 129 := by
  induction ps with
  | nil => rfl
  | cons p ps ih =>
    rw [flatP_cons, List.length_append, ih (fun q hq => h q (by simp [hq])), pieceCells_len (h p (by simp))]
    simp; omega
theorem flatP_at {ps : List (Int × List Int)} (h : ∀ p ∈ ps, p.2.length = 128) {i : Nat} {p : Int × List Int} (hi : ps[i]? = some p) {j : Nat} {v : Value} (hj : (pieceCells p)[j]? = some v) : (flatP ps)[i * 129 + j]? = some v := by
  induction ps generalizing i with
  | nil => simp at hi
  | cons q ps ih =>
    have hq := pieceCells_len (h q (by simp))
    rw [flatP_cons]
    cases i with
    | zero =>
      simp at hi; subst hi
      rw [List.getElem?_append_left (by have := (List.getElem?_eq_some_iff.1 hj).1; omega), Nat.zero_mul, Nat.zero_add]; exact hj
    | succ i =>
      rw [List.getElem?_append_right (by omega), hq, show (i + 1) * 129 + j - 129 = i * 129 + j by omega]
      exact ih (fun r hr => h r (by simp [hr])) (by simpa using hi)

/-- The pieces that wait: a slice of them, or none yet. -/
def PRow (F : Nat → Prop) (w : World) (vw : Value) (ps : List (Int × List Int)) : Prop :=
  (vw = .slice none 0 0 ∧ ps = []) ∨ ∃ g cap sp, vw = .slice (some ⟨g, 0, none⟩) ps.length cap ∧ F g ∧ ps.length ≤ cap ∧ cap ≤ maxLen ∧ Blk w g 138 (flatP ps ++ sp) ∧ (flatP ps ++ sp).length = cap * 129 ∧ ∀ p ∈ ps, p.2.length = 128

theorem PRow.form {F : Nat → Prop} {w : World} {vw : Value} {ps : List (Int × List Int)} (h : PRow F w vw ps) :
    ∃ A c, vw = .slice A ps.length c ∧ ps.length ≤ 9223372036854775807 ∧ ∀ i p, ps[i]? = some p → ∃ g, A = some ⟨g, 0, none⟩ ∧ F g ∧ p.2.length = 128 ∧ w.rangeAt g (i * 129) (pieceCells p) ∧ w.rangeAt g (i * 129 + 1) (u8s p.2) ∧ (∃ vs, Blk w g 138 vs) := by
  rcases h with ⟨rfl, rfl⟩ | ⟨g, cap, sp, rfl, hF, h1, h2, hb, _, hl⟩
  · exact ⟨none, 0, rfl, by simp, fun i p h => by simp at h⟩
  · refine ⟨_, _, rfl, by simp only [maxLen] at h2; omega, fun i p hp => ⟨g, rfl, hF, hl p (List.mem_of_getElem? hp), ?_, ?_, _, hb⟩⟩
    · intro j v hj
      have h3 := flatP_at hl hp hj
      exact hb.cell (by rw [List.getElem?_append_left (List.getElem?_eq_some_iff.1 h3).1]; exact h3)
    · intro j v hj
      have h3 := flatP_at hl hp (j := j + 1) (v := v) (by unfold pieceCells; rw [List.getElem?_cons_succ]; exact hj)
      rw [show i * 129 + 1 + j = i * 129 + (j + 1) by omega]
      exact hb.cell (by rw [List.getElem?_append_left (List.getElem?_eq_some_iff.1 h3).1]; exact h3)
theorem PRow.kept {F : Nat → Prop} {w w' : World} {v : Value} {ps : List (Int × List Int)} (h : PRow F w v ps) (e : ∀ g, F g → (∃ vs, Blk w g 138 vs) → w'.heap[g]? = w.heap[g]?) : PRow F w' v ps := by
  rcases h with h | ⟨g, cap, sp, h1, h2, h3, h4, h5, h6⟩
  · exact Or.inl h
  · exact Or.inr ⟨g, cap, sp, h1, h2, h3, h4, h5.kept (e g h2 ⟨_, h5⟩), h6⟩
theorem PRow.mono {F G : Nat → Prop} {w : World} {v : Value} {ps : List (Int × List Int)} (h : PRow F w v ps) (hs : ∀ k, k < w.heap.size → F k → G k) : PRow G w v ps := by
  rcases h with h | ⟨g, cap, sp, h1, h2, h3, h4, h5, h6⟩
  · exact Or.inl h
  · exact Or.inr ⟨g, cap, sp, h1, hs g h5.lt h2, h3, h4, h5, h6⟩
theorem PRow.own {F : Nat → Prop} {w : World} {v : Value} {ps : List (Int × List Int)} (h : PRow F w v ps) : w.ownsRow 0 138 129 v ps.length (flatP ps) := by
  rcases h with ⟨h1, h2⟩ | ⟨g, cap, sp, h1, h2, h3, h4, h5, h6, h7⟩
  · subst h2
    exact ⟨rfl, Or.inl ⟨h1, rfl⟩⟩
  · have hl := flatP_len h7
    refine ⟨hl, Or.inr ⟨g, cap, _, h1, Nat.zero_le _, h5, h3, h4, ?_, ?_⟩⟩
    · rw [List.size_toArray]; exact h6
    · rw [show (flatP ps ++ sp).toArray.toList = flatP ps ++ sp by simp]
      rw [List.take_append_of_le_length (by omega), List.take_of_length_le (by omega)]
theorem PRow.of_own {F : Nat → Prop} {w : World} {base : Nat} {v : Value} {ps : List (Int × List Int)} {n : Nat} (h : w.ownsRow base 138 129 v n (flatP ps)) (hp : ∀ p ∈ ps, p.2.length = 128) (hF : ∀ k, v.ownBlock = some k → F k) : PRow F w v ps := by
  have hl : n = ps.length := by have := h.1; rw [flatP_len hp] at this; omega
  subst hl
  rcases h.2 with ⟨h1, h2⟩ | ⟨g, cap, cur, h1, _, hg, h3, h4, h5, h6⟩
  · exact Or.inl ⟨h1, List.eq_nil_of_length_eq_zero h2⟩
  · refine Or.inr ⟨g, cap, cur.toList.drop (ps.length * 129), h1, hF g (by rw [h1]; rfl), h3, h4, ?_, ?_, hp⟩
    · unfold Blk; rw [hg, ← h6, List.take_append_drop]
    · rw [← h6, List.take_append_drop]; simpa using h5

/-! Sectors. -/
/-- The cells of the sectors, place by place. -/
structure SecsOf (vs : List Value) (S : DS) (k : Nat) : Prop where
  len : vs.length = S.kept.length * 130
  kept : ∀ (i : Nat) (r : List Int), S.kept[i]? = some r → ∀ (j : Nat) (u : Int), r[j]? = some u → vs[i * 130 + j]? = some (.int .u8 u)
  used : ∀ (i : Nat) (u : Bool), S.inn[i]? = some u → vs[i * 130 + 128]? = some (.bool u)
  last : ∀ i, i < S.kept.length → vs[i * 130 + 129]? = some (.int .i64 (lastOf S.waits k i : Int))

theorem put_at (vs cs : List Value) (o x : Nat) (h : o + cs.length ≤ vs.length) : (vs.take o ++ cs ++ vs.drop (o + cs.length))[x]? = if o ≤ x ∧ x < o + cs.length then cs[x - o]? else vs[x]? := by
  have h1 : (vs.take o).length = o := by rw [List.length_take]; omega
  by_cases hx : x < o
  · rw [if_neg (by omega), List.append_assoc, List.getElem?_append_left (by omega), List.getElem?_take, if_pos hx]
  · by_cases hx2 : x < o + cs.length
    · rw [if_pos ⟨by omega, hx2⟩, List.append_assoc, List.getElem?_append_right (by omega), h1, List.getElem?_append_left (by omega)]
    · rw [if_neg (by omega), List.append_assoc, List.getElem?_append_right (by omega), h1, List.getElem?_append_right (by omega), List.getElem?_drop]
      congr 1; omega
theorem set_at (vs : List Value) (o x : Nat) (v : Value) (h : o < vs.length) : (vs.set o v)[x]? = if x = o then some v else vs[x]? := by
  by_cases hx : x = o
  · subst hx; rw [if_pos rfl, List.getElem?_set_self h]
  · rw [if_neg hx, List.getElem?_set_ne (fun e => hx e.symm)]

/-- The program's disk at b: S is its disk behind the first k of the pieces ws. -/
structure PDAt (F : Nat → Prop) (w : World) (b : Nat) (S : DS) (k : Nat) (ws : List (Int × List Int)) (sb mb : Nat) (vs : List Value) (vw : Value) (c : Int) (L : List Int) : Prop where
  fb : F b
  fs : F sb
  fm : F mb
  head : Blk w b 101 [.slice (some ⟨sb, 0, none⟩) S.kept.length S.kept.length, vw, .int .i64 (S.room - (S.used : Int)), .int .i64 c, .bool S.off, .pointer (some ⟨mb, 0, none⟩)]
  sect : Blk w sb 103 vs
  secs : SecsOf vs S k
  wait : PRow F w vw ws
  drop : S.waits = ws.drop k
  use : (S.used : Int) ≤ S.room
  cut0 : -9223372036854775808 ≤ c
  cut1 : c ≤ 9223372036854775807
  cut : S.off = false → S.cut = if c < 0 then -1 else c
  met : PMet w mb L
  ops : L.take 3 = S.ops

/-- How the program's disk lies in memory. -/
def PDrep (F : Nat → Prop) (w : World) (b : Nat) (S : DS) : Prop := ∃ sb mb vs vw c L, PDAt F w b S 0 S.waits sb mb vs vw c L

theorem PDAt.keep {F : Nat → Prop} {w w' : World} {b : Nat} {S : DS} {k : Nat} {ws : List (Int × List Int)} {sb mb : Nat} {vs : List Value} {vw : Value} {c : Int} {L : List Int} (h : PDAt F w b S k ws sb mb vs vw c L)
    (e : ∀ k, F k → w'.heap[k]? = w.heap[k]?) : PDAt F w' b S k ws sb mb vs vw c L :=
  ⟨h.fb, h.fs, h.fm, h.head.kept (e _ h.fb), h.sect.kept (e _ h.fs), h.secs, h.wait.kept (fun g hg _ => e g hg), h.drop, h.use, h.cut0, h.cut1, h.cut, h.met.kept (e _ h.fm), h.ops⟩
theorem PDAt.mono {F G : Nat → Prop} {w : World} {b : Nat} {S : DS} {k : Nat} {ws : List (Int × List Int)} {sb mb : Nat} {vs : List Value} {vw : Value} {c : Int} {L : List Int} (h : PDAt F w b S k ws sb mb vs vw c L)
    (hs : ∀ k, k < w.heap.size → F k → G k) : PDAt G w b S k ws sb mb vs vw c L :=
  ⟨hs _ h.head.lt h.fb, hs _ h.sect.lt h.fs, hs _ h.met.lt h.fm, h.head, h.sect, h.secs, h.wait.mono hs, h.drop, h.use, h.cut0, h.cut1, h.cut, h.met, h.ops⟩

/-- The program's disk at b. -/
def PD (F : Nat → Prop) (w : World) (b : Nat) (S : DS) : Prop := DWf S ∧ F b ∧ (∀ k, F k → k < w.heap.size) ∧ PDrep F w b S
theorem PD.wf {F : Nat → Prop} {w : World} {b : Nat} {S : DS} (h : PD F w b S) : DWf S := h.1
theorem PD.fin {F : Nat → Prop} {w : World} {b : Nat} {S : DS} (h : PD F w b S) {k : Nat} (hk : F k) : k < w.heap.size := h.2.2.1 k hk
theorem PD.keep {F : Nat → Prop} {w w' : World} {b : Nat} {S : DS} (h : PD F w b S) (hs : w.heap.size ≤ w'.heap.size) (e : ∀ k, F k → w'.heap[k]? = w.heap[k]?) : PD F w' b S := by
  obtain ⟨h1, h2, h3, sb, mb, vs, vw, c, L, h⟩ := h
  exact ⟨h1, h2, fun k hk => Nat.lt_of_lt_of_le (h3 k hk) hs, sb, mb, vs, vw, c, L, h.keep e⟩
theorem PD.only {F G : Nat → Prop} {w w' : World} {b : Nat} {S : DS} (h : PD F w b S) (ho : Only G w w') (hd : ∀ k, F k → ¬ G k) : PD F w' b S :=
  h.keep ho.size (fun k hk => ho.block k (h.fin hk) (hd k hk))
theorem PD.drew {F : Nat → Prop} {w : World} {b : Nat} {S : DS} (h : PD F w b S) : PD F w.drew b S := h.keep (Nat.le_refl _) (fun _ _ => rfl)
theorem PD.drewN {F : Nat → Prop} {w : World} {b : Nat} {S : DS} (h : PD F w b S) (n : Nat) : PD F (w.drewN n) b S := h.keep (Nat.le_refl _) (fun _ _ => rfl)
theorem PD.mono' {F G : Nat → Prop} {w : World} {b : Nat} {S : DS} (h : PD F w b S) (hs : ∀ k, F k → G k) (hG : ∀ k, G k → k < w.heap.size) : PD G w b S := by
  obtain ⟨h1, h2, h3, sb, mb, vs, vw, c, L, h⟩ := h
  exact ⟨h1, hs _ h2, hG, sb, mb, vs, vw, c, L, h.mono (fun k _ hk => hs k hk)⟩
abbrev Nothing : Nat → Prop := fun _ => False
theorem Only.none_ (w : World) : Only Nothing w w := Only.refl _ _
end Go.Proofs.YteliebinhdphlaaDoor

/- The program's disk: what only asks. -/
namespace Go.Proofs.YteliebinhdphlaaDoor
set_option maxRecDepth 100000
open Go.RowKit Go.Deep
set_option linter.unusedSimpArgs false
set_option linter.unusedVariables false

section
variable (F : Nat → Prop) (w : World) (b : Nat) (S : DS) (h : PD F w b S)
include h
theorem dnone_is : Calls Tryd.prog 46 #[.pointer (some ⟨b, 0, none⟩)] w fun e w' => e = .returned (.bool false) ∧ w' = w := by
  obtain ⟨hwf, _, _, sb, mb, vs, vw, c, L, h⟩ := h
  have hc0 := h.head.cell (i := 0) rfl
  have hn1 := hwf.n1
  obtain ⟨K, hK⟩ : ∃ K, K = S.kept.length := ⟨_, rfl⟩
  rw [← hK] at hc0 hn1
  clear hK h hwf
  have hd : decide ((K : Int) = 0) = false := decide_eq_false (by omega)
  go_enter Tryd.func46, Tryd.ntmps46
  go_wp2
  go_ret
  exact ⟨by simp; omega, rfl⟩
theorem dpowered_is : Calls Tryd.prog 47 #[.pointer (some ⟨b, 0, none⟩)] w fun e w' => e = .returned (.int .i64 (if S.off then 50 else 0)) ∧ w' = w := by
  have hno := dnone_is F w b S h
  obtain ⟨hwf, _, _, sb, mb, vs, vw, c, L, h⟩ := h
  have hc4 := h.head.cell (i := 4) rfl
  cases ho : S.off
  · rw [ho] at hc4
    clear h hwf ho
    go_enter Tryd.func47, Tryd.ntmps47
    go_wp2_with fail
    refine hno.mono ?_
    rintro e w1 ⟨rfl, hw⟩
    obtain rfl := hw.symm
    go_wp2
    go_ret
    exact ⟨rfl, rfl⟩
  · rw [ho] at hc4
    clear h hwf ho
    go_enter Tryd.func47, Tryd.ntmps47
    go_wp2_with fail
    refine hno.mono ?_
    rintro e w1 ⟨rfl, hw⟩
    obtain rfl := hw.symm
    go_wp2
    go_ret
    exact ⟨rfl, rfl⟩
theorem dreach_off (n : Int) (ho : S.off = true) : Calls Tryd.prog 89 #[.pointer (some ⟨b, 0, none⟩), .int .i64 n] w fun e w' => e = .returned (.int .i64 50) ∧ w' = w := by
  have hp := dpowered_is F w b S h
  rw [ho, if_pos rfl] at hp
  go_enter Tryd.func89, Tryd.ntmps89
  go_wp2_with fail
  refine hp.mono ?_
  rintro e w1 ⟨rfl, hw⟩
  obtain rfl := hw.symm
  go_wp2
  go_ret
  exact ⟨rfl, rfl⟩
theorem dreach_out (n : Int) (ho : S.off = false) (hn : n < 0 ∨ (S.kept.length : Int) ≤ n) : Calls Tryd.prog 89 #[.pointer (some ⟨b, 0, none⟩), .int .i64 n] w fun e w' => e = .returned (.int .i64 51) ∧ w' = w := by
  have hp := dpowered_is F w b S h
  rw [ho, if_neg (by simp)] at hp
  obtain ⟨hwf, _, _, sb, mb, vs, vw, c, L, h⟩ := h
  have hc0 := h.head.cell (i := 0) rfl
  obtain ⟨K, hK⟩ : ∃ K, K = S.kept.length := ⟨_, rfl⟩
  rw [← hK] at hc0 hn
  clear hK h hwf ho
  by_cases hneg : n < 0
  · have hd : decide (n < 0) = true := decide_eq_true hneg
    go_enter Tryd.func89, Tryd.ntmps89
    go_wp2_with fail
    refine hp.mono ?_
    rintro e w1 ⟨rfl, hw⟩
    obtain rfl := hw.symm
    go_wp2
    go_ret
    exact ⟨rfl, rfl⟩
  · have hd : decide (n < 0) = false := decide_eq_false hneg
    have hd2 : decide ((K : Int) ≤ n) = true := decide_eq_true (by omega)
    go_enter Tryd.func89, Tryd.ntmps89
    go_wp2_with fail
    refine hp.mono ?_
    rintro e w1 ⟨rfl, hw⟩
    obtain rfl := hw.symm
    go_wp2
    go_ret
    exact ⟨rfl, rfl⟩
theorem dreach_in (n : Nat) (ho : S.off = false) (hn : n < S.kept.length) : Calls Tryd.prog 89 #[.pointer (some ⟨b, 0, none⟩), .int .i64 (n : Int)] w fun e w' => e = .returned (.int .i64 0) ∧ w' = w := by
  have hp := dpowered_is F w b S h
  rw [ho, if_neg (by simp)] at hp
  obtain ⟨hwf, _, _, sb, mb, vs, vw, c, L, h⟩ := h
  have hc0 := h.head.cell (i := 0) rfl
  obtain ⟨K, hK⟩ : ∃ K, K = S.kept.length := ⟨_, rfl⟩
  rw [← hK] at hc0 hn
  clear hK h hwf ho
  have hd : decide ((n : Int) < 0) = false := decide_eq_false (by omega)
  have hd2 : decide ((K : Int) ≤ (n : Int)) = false := decide_eq_false (by omega)
  go_enter Tryd.func89, Tryd.ntmps89
  go_wp2_with fail
  refine hp.mono ?_
  rintro e w1 ⟨rfl, hw⟩
  obtain rfl := hw.symm
  go_wp2
  go_ret
  exact ⟨rfl, rfl⟩
theorem dsize_is : Calls Tryd.prog 64 #[.pointer (some ⟨b, 0, none⟩)] w fun e w' => e = .returned (.int .i64 (S.kept.length : Int)) ∧ Only Nothing w w' := by
  obtain ⟨hwf, _, _, sb, mb, vs, vw, c, L, h⟩ := h
  have hc0 := h.head.cell (i := 0) rfl
  go_enter Tryd.func64, Tryd.ntmps64
  go_wp2
  go_ret
  exact ⟨rfl, Only.none_ _⟩
theorem dwaits_is : Calls Tryd.prog 27 #[.pointer (some ⟨b, 0, none⟩)] w fun e w' => e = .returned (.int .i64 (S.waits.length : Int)) ∧ Only Nothing w w' := by
  obtain ⟨hwf, _, _, sb, mb, vs, vw, c, L, h⟩ := h
  obtain ⟨A, ca, rfl, hm, _⟩ := h.wait.form
  have hc1 := h.head.cell (i := 1) rfl
  go_enter Tryd.func27, Tryd.ntmps27
  go_wp2
  go_ret
  exact ⟨rfl, Only.none_ _⟩
theorem don_is : Calls Tryd.prog 21 #[.pointer (some ⟨b, 0, none⟩)] w fun e w' => e = .returned (.bool (!S.off)) ∧ Only Nothing w w' := by
  have hp := dpowered_is F w b S h
  cases ho : S.off
  · rw [ho, if_neg (by simp)] at hp
    go_enter Tryd.func21, Tryd.ntmps21
    go_wp2_with fail
    refine hp.mono ?_
    rintro e w1 ⟨rfl, hw⟩
    obtain rfl := hw.symm
    go_wp2
    go_ret
    exact ⟨rfl, Only.none_ _⟩
  · rw [ho, if_pos rfl] at hp
    go_enter Tryd.func21, Tryd.ntmps21
    go_wp2_with fail
    refine hp.mono ?_
    rintro e w1 ⟨rfl, hw⟩
    obtain rfl := hw.symm
    go_wp2
    go_ret
    exact ⟨rfl, Only.none_ _⟩
theorem dmeter_is : Calls Tryd.prog 25 #[.pointer (some ⟨b, 0, none⟩)] w fun e w' => ∃ mb L, e = .returned (.pointer (some ⟨mb, 0, none⟩)) ∧ PMet w' mb L ∧ L.take 3 = S.ops ∧ Only Nothing w w' := by
  obtain ⟨hwf, _, _, sb, mb, vs, vw, c, L, h⟩ := h
  have hc5 := h.head.cell (i := 5) rfl
  have hm := h.met
  have ho := h.ops
  go_enter Tryd.func25, Tryd.ntmps25
  go_wp2
  go_ret
  exact ⟨mb, L, rfl, hm, ho, Only.none_ _⟩
end
end Go.Proofs.YteliebinhdphlaaDoor

/- The program's disk: what is in use, what is spent, where it is cut. -/
namespace Go.Proofs.YteliebinhdphlaaDoor
set_option maxRecDepth 100000
open Go.RowKit Go.Deep
set_option linter.unusedSimpArgs false
set_option linter.unusedVariables false

theorem PMet.blk {w : World} {b : Nat} {L : List Int} (h : PMet w b L) : ∃ vs, Blk w b 112 vs := by
  obtain ⟨cs, hb, _⟩ := h.2
  exact ⟨cs.toList, by unfold Blk; simpa using hb⟩

/-- The head alone has changed. -/
theorem PDAt.upHead {F : Nat → Prop} {w w' : World} {b : Nat} {S : DS} {k : Nat} {ws : List (Int × List Int)} {sb mb : Nat} {vs : List Value} {vw : Value} {c : Int} {L : List Int} (h : PDAt F w b S k ws sb mb vs vw c L)
    (S' : DS) (c' : Int) (e1 : S'.kept = S.kept) (e2 : S'.inn = S.inn) (e3 : S'.waits = S.waits) (e4 : S'.room = S.room) (e5 : S'.ops = S.ops) (h0 : -9223372036854775808 ≤ c') (h1 : c' ≤ 9223372036854775807) (hc : S'.off = false → S'.cut = if c' < 0 then -1 else c')
    (hb : Blk w' b 101 [.slice (some ⟨sb, 0, none⟩) S.kept.length S.kept.length, vw, .int .i64 (S.room - (S.used : Int)), .int .i64 c', .bool S'.off, .pointer (some ⟨mb, 0, none⟩)])
    (e : ∀ k, F k → k ≠ b → w'.heap[k]? = w.heap[k]?) : PDAt F w' b S' k ws sb mb vs vw c' L := by
  have hu : S'.used = S.used := by
    unfold DS.used usedTo DS.isUse DS.waitsFor
    rw [e1, e2, e3]
  obtain ⟨vm, hm⟩ := h.met.blk
  refine ⟨h.fb, h.fs, h.fm, by rw [e1, e4, hu]; exact hb, h.sect.kept (e _ h.fs (h.sect.ne h.head (by decide))), ⟨by rw [e1]; exact h.secs.len, by rw [e1]; exact h.secs.kept, by rw [e2]; exact h.secs.used, by rw [e1, e3]; exact h.secs.last⟩, h.wait.kept (fun g hg hv => ?_), by rw [e3]; exact h.drop, by rw [hu, e4]; exact h.use, h0, h1, hc, h.met.kept (e _ h.fm (hm.ne h.head (by decide))), by rw [e5]; exact h.ops⟩
  obtain ⟨vs', hv⟩ := hv
  exact e g hg (hv.ne h.head (by decide))

theorem dinuse_is (F : Nat → Prop) (w : World) (b : Nat) (S : DS) (sb mb : Nat) (vs : List Value) (vw : Value) (c : Int) (L : List Int) (hwf : DWf S) (h : PDAt F w b S 0 S.waits sb mb vs vw c L) (n : Nat) (hn : n < S.kept.length) :
    Calls Tryd.prog 90 #[.pointer (some ⟨sb, n * 130, none⟩)] w fun e w' => e = .returned (.bool (S.isUse (n : Int))) ∧ w' = w := by
  obtain ⟨u, hu⟩ : ∃ u, S.inn[n]? = some u := ⟨_, List.getElem?_eq_getElem (by rw [hwf.ninn]; exact hn)⟩
  have hc1 := h.sect.cell (h.secs.used n u hu)
  have hc2 := h.sect.cell (h.secs.last n hn)
  obtain ⟨l, hl⟩ : ∃ l, l = lastOf S.waits 0 n := ⟨_, rfl⟩
  rw [← hl] at hc2
  have hz := lastOf_zero S.waits 0 n
  rw [← hl] at hz
  have hres : S.isUse (n : Int) = (u || decide (0 < l)) := by
    unfold DS.isUse DS.waitsFor
    have e2 : S.inn.getD ((n : Int)).toNat false = u := by simp [List.getD, hu]
    rw [e2]
    by_cases h0 : l = 0
    · rw [hz.1 h0, decide_eq_false (by omega)]; simp
    · have h3 : (S.waits.any fun p => p.1 == (n : Int)) = true := by
        cases e : S.waits.any fun p => p.1 == (n : Int)
        · exact absurd (hz.2 e) h0
        · rfl
      rw [h3, decide_eq_true (by omega)]; simp
  rw [hres]
  clear hres hz hl hu h hwf hn
  cases u
  · by_cases h0 : 0 < l
    · rw [decide_eq_true h0]
      have hd : decide (0 < (l : Int)) = true := decide_eq_true (by omega)
      go_enter Tryd.func90, Tryd.ntmps90
      go_wp2
      go_ret
      exact ⟨by simp, rfl⟩
    · rw [decide_eq_false h0]
      have hd : decide (0 < (l : Int)) = false := decide_eq_false (by omega)
      go_enter Tryd.func90, Tryd.ntmps90
      go_wp2
      go_ret
      exact ⟨by simp, rfl⟩
  · go_enter Tryd.func90, Tryd.ntmps90
    go_wp2
    go_ret
    exact ⟨rfl, rfl⟩

/-- An operation is spent. -/
def DS.spent (S : DS) : DS × Bool := if S.cut < 0 then (S, false) else ({ S with cut := S.cut - 1, off := decide (S.cut - 1 < 0) }, decide (S.cut - 1 < 0))
theorem goes_spent (S : DS) (k : Nat) : S.goes k = (S.count k).spent := rfl

theorem set_only {F : Nat → Prop} {w : World} {a : Addr} (ha : F a.block) (v : Value) : Only F w (w.setCell a v) := (Only.refl F w).set (Or.inr ha) v

theorem dspend_is (F : Nat → Prop) (w : World) (b : Nat) (S : DS) (h : PD F w b S) (ho : S.off = false) :
    Calls Tryd.prog 77 #[.pointer (some ⟨b, 0, none⟩)] w fun e w' => e = .returned (.int .i64 (goneErr S.spent.2)) ∧ PD F w' b S.spent.1 ∧ Only F w w' := by
  obtain ⟨hwf, hFb, hfin, sb, mb, vs, vw, c, L, h⟩ := h
  have hc3 := h.head.cell (i := 3) rfl
  have hf3 := h.head.frozen 3
  have hf4 := h.head.frozen 4
  have hc4 := h.head.cell (i := 4) rfl
  have hcut := h.cut ho
  have h0 := h.cut0
  have h1 := h.cut1
  have hwb := hwf.cut0
  rw [ho] at hc4
  by_cases hc : c = 0
  · subst hc
    rw [if_neg (by omega)] at hcut
    have e : S.spent = ({ S with cut := -1, off := true }, true) := by
      unfold DS.spent; rw [hcut, if_neg (by omega)]; rfl
    rw [e]
    have Hfin := Lib.hid (show PD F (w.setCell ⟨b, 4, none⟩ (.bool true)) b { S with cut := -1, off := true } ∧ Only F w (w.setCell ⟨b, 4, none⟩ (.bool true)) from
      ⟨⟨hwf.cutOff _ _ (by omega) (by omega), hFb, fun k hk => by rw [nblk_setCell]; exact hfin k hk, sb, mb, vs, vw, 0, L,
        h.upHead _ 0 rfl rfl rfl rfl rfl (by omega) (by omega) (by intro h; cases h) (by have := h.head.set 4 (.bool true); simpa using this) (fun k _ hne => blk_setCell_other _ _ _ _ hne)⟩, set_only hFb _⟩)
    clear e hcut h hwf hfin ho hFb
    go_enter Tryd.func77, Tryd.ntmps77
    go_wp2
    go_ret
    exact ⟨rfl, Hfin.out⟩
  · by_cases hp : 0 < c
    · rw [if_neg (by omega)] at hcut
      have e : S.spent = ({ S with cut := c - 1 }, false) := by
        unfold DS.spent; rw [hcut, if_neg (by omega), decide_eq_false (by omega)]
        congr 1
        cases S; simp at ho; subst ho; rfl
      rw [e]
      have Hfin := Lib.hid (show PD F (w.setCell ⟨b, 3, none⟩ (.int .i64 (c - 1))) b { S with cut := c - 1 } ∧ Only F w (w.setCell ⟨b, 3, none⟩ (.int .i64 (c - 1))) from
        ⟨⟨hwf.cutOff _ S.off (by omega) (by omega), hFb, fun k hk => by rw [nblk_setCell]; exact hfin k hk, sb, mb, vs, vw, c - 1, L,
          h.upHead _ (c - 1) rfl rfl rfl rfl rfl (by omega) (by omega) (by intro _; show c - 1 = _; rw [if_neg (by omega)]) (by have := h.head.set 3 (.int .i64 (c - 1)); simpa using this) (fun k _ hne => blk_setCell_other _ _ _ _ hne)⟩, set_only hFb _⟩)
      have hd : decide (c = 0) = false := decide_eq_false hc
      have hd2 : decide (0 < c) = true := decide_eq_true hp
      have hcb : (c == 0) = false := by simpa using hc
      clear e hcut h hwf hfin ho hFb hc4 hf4
      go_enter Tryd.func77, Tryd.ntmps77
      go_wp2
      go_ret
      exact ⟨rfl, Hfin.out⟩
    · rw [if_pos (by omega)] at hcut
      have e : S.spent = (S, false) := by unfold DS.spent; rw [hcut, if_pos (by omega)]
      rw [e]
      have Hfin := Lib.hid (show PD F w b S ∧ Only F w w from ⟨⟨hwf, hFb, hfin, sb, mb, vs, vw, c, L, h⟩, Only.refl _ _⟩)
      have hd : decide (c = 0) = false := decide_eq_false hc
      have hd2 : decide (0 < c) = false := decide_eq_false hp
      have hcb : (c == 0) = false := by simpa using hc
      clear e hcut h hwf hfin ho hFb hc4 hf4 hf3
      go_enter Tryd.func77, Tryd.ntmps77
      go_wp2
      go_ret
      exact ⟨rfl, Hfin.out⟩

theorem More.refl {F : Nat → Prop} {w : World} {b : Nat} {S : DS} {w' : World} (h : PD F w' b S) : PD (More F w w') w' b S :=
  h.mono' (fun _ hk => Or.inl hk) (fun k hk => by rcases hk with hk | hk; exact h.fin hk; exact hk.2)

theorem dcut_is (F : Nat → Prop) (w : World) (b : Nat) (S : DS) (h : PD F w b S) (n : Int) (h1 : -9223372036854775808 ≤ n) (h2 : n ≤ 9223372036854775807) : Calls Tryd.prog 20 #[.pointer (some ⟨b, 0, none⟩), .int .i64 n] w fun e w' => e = .returned (.tuple #[]) ∧ PD (More F w w') w' b { S with cut := if n < 0 then -1 else n } ∧ Only F w w' := by
  have hno := dnone_is F w b S h
  obtain ⟨q, hq⟩ : ∃ q, q = (if n < 0 then -1 else n) := ⟨_, rfl⟩
  have hq0 : -1 ≤ q ∧ q ≤ 9223372036854775807 := by rw [hq]; split <;> omega
  rw [← hq]
  obtain ⟨hwf, hFb, hfin, sb, mb, vs, vw, c, L, h⟩ := h
  have hc3 := h.head.cell (i := 3) rfl
  have hf3 := h.head.frozen 3
  have Hfin := Lib.hid (show PD F (w.setCell ⟨b, 3, none⟩ (.int .i64 n)) b { S with cut := q } ∧ Only F w (w.setCell ⟨b, 3, none⟩ (.int .i64 n)) from
    ⟨⟨hwf.cutOff _ S.off hq0.1 hq0.2, hFb, fun k hk => by rw [nblk_setCell]; exact hfin k hk, sb, mb, vs, vw, n, L,
      h.upHead _ n rfl rfl rfl rfl rfl (by omega) (by omega) (fun _ => hq) (by have := h.head.set 3 (.int .i64 n); simpa using this) (fun k _ hne => blk_setCell_other _ _ _ _ hne)⟩, set_only hFb _⟩)
  clear h hwf hfin hq hq0
  go_enter Tryd.func20, Tryd.ntmps20
  go_wp2_with fail
  refine hno.mono ?_
  rintro e w1 ⟨rfl, hw⟩
  obtain rfl := hw.symm
  go_wp2
  go_end0
  exact ⟨rfl, More.refl Hfin.out.1, Hfin.out.2⟩
end Go.Proofs.YteliebinhdphlaaDoor

/- The program's disk: Read. -/
namespace Go.Proofs.YteliebinhdphlaaDoor
set_option maxRecDepth 100000
open Go.RowKit Go.Deep
set_option linter.unusedSimpArgs false
set_option linter.unusedVariables false
attribute [local irreducible] Tryd.zeroCells72

theorem take_set {l : List Int} {k n : Nat} {v : Int} (h : k < n) : (l.set k v).take n = (l.take n).set k v := by
  apply List.ext_getElem?
  intro i
  rw [List.getElem?_take, List.getElem?_set, List.getElem?_set, List.getElem?_take, List.length_take]
  by_cases hi : i < n
  · rw [if_pos hi, if_pos hi]
    by_cases hk : k = i
    · subst hk; rw [if_pos rfl, if_pos rfl]
      by_cases hl : k < l.length
      · rw [if_pos hl, if_pos (by omega)]
      · rw [if_neg hl, if_neg (by omega)]
    · rw [if_neg hk, if_neg hk]
  · rw [if_neg hi, if_neg (by omega), if_neg hi]

/-- Something is counted. -/
theorem dcount_is (F : Nat → Prop) (w : World) (b : Nat) (S : DS) (k : Nat) (ws : List (Int × List Int)) (sb mb : Nat) (vs : List Value) (vw : Value) (c : Int) (L : List Int) (hwf : DWf S) (h : PDAt F w b S k ws sb mb vs vw c L) (q : Nat) (hq : q < 3) (kd : Int) (hk : kd = (q : Int) + 1) :
    Calls Tryd.prog 76 #[.pointer (some ⟨mb, 0, none⟩), .int .i64 kd, .int .i64 1] w fun e w' => e = .returned (.bool true) ∧ (∃ L', PDAt F w' b (S.count q) k ws sb mb vs vw c L') ∧ w.grownBy w' (some mb) := by
  have hq6 : q < 6 := by omega
  refine (padd_is w mb L kd 1 (by omega) (by omega) h.met).mono ?_
  rintro e w1 ⟨rfl, hm, hg⟩
  rw [hk]
  refine ⟨by rw [mHas_at hq6], ⟨mAdd L ((q : Int) + 1) 1, ?_⟩, hg⟩
  obtain ⟨vm, hvm⟩ := h.met.blk
  have hsame : ∀ k, k < w.heap.size → k ≠ mb → w1.heap[k]? = w.heap[k]? := fun k hlt hne => hg.block k hlt (fun e => hne (Option.some.inj e))
  obtain ⟨u, hu, _⟩ := met_at h.met.1 hq6
  refine ⟨h.fb, h.fs, h.fm, h.head.kept (hsame _ h.head.lt (h.head.ne hvm (by decide))), h.sect.kept (hsame _ h.sect.lt (h.sect.ne hvm (by decide))), ⟨h.secs.len, h.secs.kept, h.secs.used, h.secs.last⟩, h.wait.kept (fun g hg hv => by obtain ⟨vs', hv⟩ := hv; exact hsame g hv.lt (hv.ne hvm (by decide))), h.drop, h.use, h.cut0, h.cut1, h.cut, by rw [← hk]; exact hm, ?_⟩
  rw [mAdd_at 1 hq6 hu, take_set hq, h.ops]
  show _ = S.ops.set q (wrap64 (S.ops.getD q 0 + 1))
  congr 1
  have : S.ops[q]? = some u := by rw [← h.ops, List.getElem?_take, if_pos hq]; exact hu
  simp [List.getD, this]

/-- What a call of the meter leaves of the disk. -/
theorem count_back {F : Nat → Prop} {w w' : World} {b : Nat} {S : DS} {q sb mb : Nat} {vs : List Value} {vw : Value} {c : Int} {L' : List Int} (hwf : DWf S) (hFb : F b) (hfin : ∀ k, F k → k < w.heap.size) (h : PDAt F w' b (S.count q) 0 S.waits sb mb vs vw c L') (hg : w.grownBy w' (some mb)) :
    PD F w' b (S.count q) ∧ Only F w w' :=
  ⟨⟨hwf.count q, hFb, fun k hk => Nat.lt_of_lt_of_le (hfin k hk) hg.size, sb, mb, vs, vw, c, L', h⟩, Only.of_grown hg h.fm⟩

set_option maxHeartbeats 800000 in
theorem dread_err (F : Nat → Prop) (w : World) (b : Nat) (S : DS) (h : PD F w b S) (n er : Int) (hne : er ≠ 0) (hr : ∀ w', PD F w' b S → Calls Tryd.prog 89 #[.pointer (some ⟨b, 0, none⟩), .int .i64 n] w' fun e w2 => e = .returned (.int .i64 er) ∧ w2 = w') :
    Calls Tryd.prog 81 #[.pointer (some ⟨b, 0, none⟩), .int .i64 n] w fun e w' => e = .returned (.tuple #[.agg (u8s zeros128).toArray, .int .i64 er]) ∧ Only Nothing w w' := by
  obtain ⟨w1, hw1⟩ : ∃ w1, w1 = w.alloc (.cells Tryd.zeroCells72 72) := ⟨_, rfl⟩
  have hz : Blk w1 w.heap.size 72 (u8s zeros128) := by rw [hw1]; exact zero_new w
  have hb1 : Below w.heap.size w w1 := by rw [hw1]; exact below_alloc _ _
  have h1 := h.only (Only.of_below (F := Nothing) hb1) (fun _ _ hk => hk)
  have hr1 := hr w1 h1
  have hsz : Tryd.zeroCells72 = (u8s zeros128).toArray := zero_arr
  have hsize2 : (Tryd.prog.info? 72).map (·.size) = some Tryd.zeroCells72.size := by rw [size_arr, zero_size]
  have Hthere := Lib.hid (hz.there (n := Tryd.zeroCells72.size) (by rw [zero_size, List.length_map, zeros_len]; omega))
  have hd : (er != 0) = true := by simpa using hne
  have Hw1 := Lib.hid hw1
  have Hsz := Lib.hid hsz
  have Hone := Lib.hid (show Tryd.zeroCells72.all (·.oneCell') = true by rw [hsz]; exact all_oneCell_toArray (one_u8s _))
  clear hw1 h1 h hr hne hsz
  go_enter Tryd.func81, Tryd.ntmps81
  go_wp2_with fail
  rw [← Hw1.out]
  clear Hw1
  refine hr1.mono ?_
  rintro e w2 ⟨rfl, hw⟩
  obtain rfl := hw.symm
  go_wp2_with (refine wpList_store_mid rfl 72 (.tmp 4) (.tmp 13) rfl w.heap.size 0 Tryd.zeroCells72 rfl rfl Hthere.out hsize2 Hone.out ?_)
  refine bodyPost_ret (v := .tuple #[.agg (u8s zeros128).toArray, .int .i64 er]) ?_ rfl ⟨rfl, Only.of_below (below_setCells hb1 (Nat.le_refl _) _ _)⟩
  rw [← Hsz.out]
  exact results_arr_int rfl _ _ w.heap.size 72 Tryd.zeroCells72 (0, 0) _ rfl (setCells_whole hz (by rw [Array.length_toList, zero_size, List.length_map, zeros_len])) Tryd.underlying72 rfl hsize2 _ rfl

theorem setCells_cell {w : World} {b o rb : Nat} {v : Value} (h : w.cell? ⟨b, o, none⟩ = some v) (hne : b ≠ rb) (cs : List Value) (p : Nat) : (w.setCells rb p cs).cell? ⟨b, o, none⟩ = some v :=
  (World.cell?_of_block (w := w) (setCells_other rb cs p w b hne)).trans h
theorem setCells_range {w : World} {g o rb : Nat} {vs : List Value} (h : w.rangeAt g o vs) (hne : g ≠ rb) (cs : List Value) (p : Nat) : (w.setCells rb p cs).rangeAt g o vs := fun j v hj => setCells_cell (h j v hj) hne cs p
theorem setCells_only {F : Nat → Prop} (w : World) {rb : Nat} (h : F rb) (cs : List Value) (p : Nat) : Only F w (w.setCells rb p cs) :=
  ⟨(setCells_misc rb cs p w).1, (setCells_misc rb cs p w).2.1, (setCells_misc rb cs p w).2.2, by rw [setCells_size]; exact Nat.le_refl _, fun k _ hn => setCells_other rb cs p w k (fun e => hn (e ▸ h))⟩
theorem reads_set {w : World} {b1 o1 b2 o2 g o rb : Nat} {v1 v2 : Value} {cs ds : List Value} (h : w.cell? ⟨b1, o1, none⟩ = some v1 ∧ w.cell? ⟨b2, o2, none⟩ = some v2 ∧ w.rangeAt g o cs ∧ w.there rb 0 128) (h1 : b1 ≠ rb) (h2 : b2 ≠ rb) (h3 : g ≠ rb) :
    (w.setCells rb 0 ds).cell? ⟨b1, o1, none⟩ = some v1 ∧ (w.setCells rb 0 ds).cell? ⟨b2, o2, none⟩ = some v2 ∧ (w.setCells rb 0 ds).rangeAt g o cs ∧ (w.setCells rb 0 ds).there rb 0 128 :=
  ⟨setCells_cell h.1 h1 _ _, setCells_cell h.2.1 h2 _ _, setCells_range h.2.2.1 h3 _ _, World.there_setCells h.2.2.2 _ _ _⟩

section
variable (F : Nat → Prop) (w : World) (b : Nat) (S : DS) (h : PD F w b S)
include h
theorem dread_off (n : Int) (ho : S.off = true) : Calls Tryd.prog 81 #[.pointer (some ⟨b, 0, none⟩), .int .i64 n] w fun e w' => e = .returned (.tuple #[.agg (u8s zeros128).toArray, .int .i64 50]) ∧ Only Nothing w w' :=
  dread_err F w b S h n 50 (by omega) (fun w' h' => dreach_off F w' b S h' n ho)
theorem dread_out (n : Int) (ho : S.off = false) (hn : n < 0 ∨ (S.kept.length : Int) ≤ n) : Calls Tryd.prog 81 #[.pointer (some ⟨b, 0, none⟩), .int .i64 n] w fun e w' => e = .returned (.tuple #[.agg (u8s zeros128).toArray, .int .i64 51]) ∧ Only Nothing w w' :=
  dread_err F w b S h n 51 (by omega) (fun w' h' => dreach_out F w' b S h' n ho hn)

set_option maxRecDepth 100000 in
set_option maxHeartbeats 3200000 in
theorem dread_in (n : Nat) (ho : S.off = false) (hn : n < S.kept.length) : Calls Tryd.prog 81 #[.pointer (some ⟨b, 0, none⟩), .int .i64 (n : Int)] w fun e w' => e = .returned (.tuple #[.agg (u8s (S.at_ n)).toArray, .int .i64 0]) ∧ PD (More F w w') w' b (S.count 0) ∧ Only F w w' := by
  obtain ⟨w1, hw1⟩ : ∃ w1, w1 = w.alloc (.cells Tryd.zeroCells72 72) := ⟨_, rfl⟩
  have hz : Blk w1 w.heap.size 72 (u8s zeros128) := by rw [hw1]; exact zero_new w
  have hb1 : Below w.heap.size w w1 := by rw [hw1]; exact below_alloc _ _
  have hsz1 : w.heap.size < w1.heap.size := hz.lt
  have h1 := h.only (Only.of_below (F := Nothing) hb1) (fun _ _ hk => hk)
  have hr1 := dreach_in F w1 b S h1 n ho hn
  have hnF : ∀ k, F k → k < w.heap.size := fun k hk => h.fin hk
  clear h
  obtain ⟨hwf, hFb, hfin, sb, mb, vs, vw, c, L, h⟩ := h1
  have hcnt := dcount_is F w1 b S 0 S.waits sb mb vs vw c L hwf h 0 (by omega) 1 rfl
  have hc5 := h.head.cell (i := 5) rfl
  have hmF := hnF mb h.fm
  have Hw1 := Lib.hid hw1
  have Hh := Lib.hid h
  have Hwf := Lib.hid hwf
  have Hfin := Lib.hid hfin
  have hat := at_byte hwf hn
  obtain ⟨bs, hbs⟩ : ∃ bs, bs = S.at_ n := ⟨_, rfl⟩
  rw [← hbs] at hat ⊢
  have Hbs := Lib.hid hbs
  have Hn := Lib.hid hn
  have hl1 : bs.length = 128 := hat.1
  have hsizeL : (Tryd.prog.info? 72).map (·.size) = some (u8s bs).length := by rw [size_arr, List.length_map, hl1]
  have hsizeA : (Tryd.prog.info? 72).map (·.size) = some (u8s bs).toArray.size := by rw [size_arr, List.size_toArray, List.length_map, hl1]
  clear hw1 h hwf hfin hbs ho hn hat
  go_enter Tryd.func81, Tryd.ntmps81
  go_wp2_with fail
  rw [← Hw1.out]
  clear Hw1
  refine hr1.mono ?_
  rintro e w2 ⟨rfl, hw⟩
  obtain rfl := hw.symm
  go_wp2_with fail
  refine hcnt.mono ?_
  rintro e w2 ⟨rfl, ⟨L', h2⟩, hg2⟩
  have hz2 : Blk w2 w.heap.size 72 (u8s zeros128) := hz.kept (hg2.block _ hsz1 (fun e => by have := Option.some.inj e; omega))
  have hc0 := h2.head.cell (i := 0) rfl
  have hc1 := h2.head.cell (i := 1) rfl
  obtain ⟨K, hK⟩ : ∃ K, K = S.kept.length := ⟨_, rfl⟩
  have hc0 : w2.cell? ⟨b, 0, none⟩ = some (.slice (some ⟨sb, 0, none⟩) K K) := by rw [hK]; exact hc0
  have hnK : (n : Int) < (K : Int) := by rw [hK]; have := Hn.out; omega
  have hlc := h2.sect.cell (h2.secs.last n Hn.out)
  have Hthere := Lib.hid (hz2.there (n := (u8s bs).toArray.size) (by rw [List.size_toArray, List.length_map, List.length_map, hl1, zeros_len]; omega))
  have Hback := Lib.hid (count_back (w := w1) Hwf.out hFb Hfin.out h2 hg2)
  obtain ⟨l, hl⟩ : ∃ l, l = lastOf (S.count 0).waits 0 n := ⟨_, rfl⟩
  rw [← hl] at hlc
  have hlK : l ≤ S.waits.length := by rw [hl]; have := lastOf_le S.waits 0 n; rw [Nat.zero_add] at this; exact this
  have Hl := Lib.hid (show l = lastOf S.waits 0 n from hl)
  have Hend := Lib.hid (show ∀ w3, Only (fun k => k = w.heap.size) w2 w3 → PD (More F w w3) w3 b (S.count 0) ∧ Only F w w3 from fun w3 hO => by
    obtain ⟨hp, ho2⟩ := Hback.out
    have hp3 := hp.only hO (fun k hk e => by have := hnF k hk; omega)
    exact ⟨More.refl hp3, ((Only.of_below (F := F) hb1).trans ho2 (fun _ _ h => h)).trans hO (fun k hk e => by omega)⟩)
  clear hl hK
  by_cases h0 : l = 0
  · subst h0
    have Hkept := Lib.hid (show w2.rangeAt sb (n * 130) (u8s bs) by
      have hf : S.waits.any (fun p => p.1 == (n : Int)) = false := (lastOf_zero S.waits 0 n).1 Hl.out.symm
      have e : bs = S.kept.getD n [] := by
        rw [Hbs.out]; unfold DS.at_; rw [find_none_of _ hf]
      have e2 : S.kept[n]? = some bs := by rw [e]; simp [List.getD, List.getElem?_eq_getElem Hn.out]
      intro j v hj
      rw [List.getElem?_map] at hj
      obtain ⟨u, hu, rfl⟩ := Option.map_eq_some_iff.1 hj
      exact h2.sect.cell (h2.secs.kept n bs e2 j u hu))
    have hd : decide (0 < ((0 : Nat) : Int)) = false := rfl
    clear Hl Hbs h2 hlK
    go_wp2_with (first
      | (refine wpList_load_mid rfl 72 (.tmp 45) rfl sb (n * 130) rfl (u8s bs) _ Hkept.out Tryd.underlying72 rfl hsizeL ?_)
      | (refine wpList_store_mid rfl 72 (.tmp 4) (.tmp 46) rfl w.heap.size 0 (u8s bs).toArray rfl rfl Hthere.out hsizeA (all_oneCell_toArray (one_u8s _)) ?_))
    have hO3 : Only (fun k => k = w.heap.size) w2 (w2.setCells w.heap.size 0 (u8s bs).toArray.toList) := setCells_only (F := fun k => k = w.heap.size) w2 (rb := w.heap.size) rfl _ _
    refine bodyPost_ret (v := .tuple #[.agg (u8s bs).toArray, .int .i64 0]) ?_ rfl ⟨rfl, Hend.out _ ?_⟩
    · exact results_arr_int rfl _ _ w.heap.size 72 _ (0, 0) _ rfl (setCells_whole hz2 (by simp [hl1, zeros_len])) Tryd.underlying72 rfl hsizeA _ rfl
    · exact hO3
  · obtain ⟨p, hp, hp1, hpf⟩ := lastOf_find S.waits 0 n (by rw [← Hl.out]; exact h0)
    have e : bs = p.2 := by
      rw [Hbs.out]; unfold DS.at_; rw [hpf]
    obtain ⟨A, cA, rfl, hmw, hrow⟩ := h2.wait.form
    obtain ⟨g, rfl, hFg, hl2, _, Hr, _⟩ := hrow _ p hp
    rw [← Hl.out, Nat.zero_add, ← e] at Hr
    obtain ⟨l', rfl⟩ : ∃ l', l = l' + 1 := ⟨l - 1, by omega⟩
    rw [Nat.add_sub_cancel] at Hr
    obtain ⟨m, hm⟩ : ∃ m, m = S.waits.length := ⟨_, rfl⟩
    rw [← hm] at hc1 hmw hlK
    have hd : decide (0 < ((l' + 1 : Nat) : Int)) = true := decide_eq_true (by omega)
    have hsub : ((l' + 1 : Nat) : Int) - 1 = (l' : Int) := by omega
    have hwr2 : IntKind.i64.wrap (l' : Int) = (l' : Int) := by rw [wrap_i64]; exact IntWalk.wrap64_in _ ⟨by omega, by omega⟩
    have hl0 : (0 : Int) ≤ (l' : Int) := by omega
    have hwr : IntKind.i64.wrap ((l' : Int) + 1 - 1) = (l' : Int) := by rw [wrap_i64, show (l' : Int) + 1 - 1 = (l' : Int) by omega]; exact IntWalk.wrap64_in _ ⟨by omega, by omega⟩
    have hlm : (l' : Int) < (m : Int) := by omega
    have hlc : w2.cell? ⟨sb, n * 130 + 129, none⟩ = some (.int .i64 ((l' : Int) + 1)) := hlc
    have hS2 := (show w2.cell? ⟨b, 1, none⟩ = some (.slice (some ⟨g, 0, none⟩) m cA) ∧ w2.cell? ⟨sb, n * 130 + 129, none⟩ = some (.int .i64 ((l' : Int) + 1)) ∧ w2.rangeAt g (l' * 129 + 1) (u8s bs) ∧ w2.there w.heap.size 0 (u8s bs).toArray.size from ⟨hc1, hlc, Hr, Hthere.out⟩)
    clear Hl Hbs h2 hm hrow hp hp1 hpf e hlK h0
    have hu52 := Tryd.underlying72
    have hne1 : b ≠ w.heap.size := by have := hnF b hFb; omega
    have hne2 : sb ≠ w.heap.size := by have := hnF sb Hh.out.fs; omega
    have hne3 : g ≠ w.heap.size := by have := hnF g hFg; omega
    have hone8 : ∀ v ∈ u8s bs, v.oneCell' = true := one_u8s bs
    have hlen8 : (u8s bs).length = 128 := by rw [List.length_map, hl1]
    have hS2 : w2.cell? ⟨b, 1, none⟩ = some (.slice (some ⟨g, 0, none⟩) m cA) ∧ w2.cell? ⟨sb, n * 130 + 129, none⟩ = some (.int .i64 ((l' : Int) + 1)) ∧ w2.rangeAt g (l' * 129 + 1) (u8s bs) ∧ w2.there w.heap.size 0 128 := ⟨hS2.1, hS2.2.1, hS2.2.2.1, hz2.there (by rw [List.length_map, zeros_len]; omega)⟩
    go_upto_region 7 with fail
    go_region_held3 (fun w' => w'.cell? ⟨b, 1, none⟩ = some (.slice (some ⟨g, 0, none⟩) m cA) ∧ w'.cell? ⟨sb, n * 130 + 129, none⟩ = some (.int .i64 ((l' : Int) + 1)) ∧ w'.rangeAt g (l' * 129 + 1) (u8s bs) ∧ w'.there w.heap.size 0 128) (first | (exact reads_set (by assumption) hne1 hne2 hne3) | (go_keep_ranges)) (fail)
    go_wp2
    refine bodyPost_ret (v := .tuple #[.agg (u8s bs).toArray, .int .i64 0]) ?_ rfl ⟨rfl, Hend.out _ ?_⟩
    · exact results_arr_int rfl _ _ w.heap.size 72 (u8s bs).toArray (0, 0) _ rfl (setCells_whole hz2.drew (by simp [hl1, zeros_len])) Tryd.underlying72 rfl hsizeA _ rfl
    · have := setCells_only (F := fun k => k = w.heap.size) w2.drew (rb := w.heap.size) rfl (u8s bs) 0
      exact ⟨this.os, this.tape, this.output, this.size, this.block⟩
end
end Go.Proofs.YteliebinhdphlaaDoor

/- The program's disk: how a piece is made. -/
namespace Go.Proofs.YteliebinhdphlaaDoor
set_option maxRecDepth 100000
open Go.RowKit Go.Deep
set_option linter.unusedSimpArgs false
set_option linter.unusedVariables false

theorem foldl_put (off : Nat) : ∀ (cs : List Value) (k : Nat) (A : Array Value), off + k + cs.length ≤ A.size →
    ((cs.zipIdx k).foldl (fun (A : Array Value) (x : Value × Nat) => A.setIfInBounds (off + x.2) x.1) A).toList = A.toList.take (off + k) ++ cs ++ A.toList.drop (off + k + cs.length)
  | [], k, A, _ => by simp
  | v :: r, k, A, h => by
    have hl : off + k + (r.length + 1) ≤ A.size := h
    rw [List.zipIdx_cons, List.foldl_cons, foldl_put off r (k + 1) _ (by rw [Array.size_setIfInBounds]; omega)]
    have e : (A.setIfInBounds (off + k) v).toList = A.toList.set (off + k) v := by simp
    show List.take (off + (k + 1)) (A.setIfInBounds (off + k) v).toList ++ r ++ _ = _
    rw [e]
    exact set_parts A.toList r (off + k) v (by rw [Array.length_toList]; omega)
theorem fill_part {place : Nat → Option (Nat × Nat)} {A : Array Value} {i off size : Nat} {v : Value} {cs : List Value} {rest : List (Nat × Value)} (hp : place i = some (off, size)) (hv : v.cells = cs.toArray) (hs : cs.length = size) (hA : off + size ≤ A.size) :
    Instr.fill place A ((i, v) :: rest) = Instr.fill place (A.toList.take off ++ cs ++ A.toList.drop (off + size)).toArray rest := by
  unfold Instr.fill
  simp only [hp, hv]
  have h1 : cs.toArray.size = size := by simp [hs]
  have h2 : ¬ (cs.toArray.size ≠ size) := by omega
  rw [if_neg (by simp [h1]; omega)]
  have e : (cs.toArray.zipIdx.foldl (fun (A : Array Value) (x : Value × Nat) => A.setIfInBounds (off + x.2) x.1) A) = (A.toList.take off ++ cs ++ A.toList.drop (off + size)).toArray := by
    apply Array.toList_inj.1
    have := foldl_put off cs 0 A (by omega)
    rw [Nat.add_zero, hs] at this
    rw [← this]
    rw [← Array.foldl_toList]
    simp
  rw [show (cs.toArray.zipIdx.foldl (fun A x => match x with | (c, j) => A.setIfInBounds (off + j) c) A) = _ from e]
  cases rest with
  | nil => rfl
  | cons q r => rfl

/-- The zero of a piece. -/
def zeroPiece : Array Value := (.int .i64 0 :: u8s zeros128).toArray
theorem zeroPiece_size : zeroPiece.size = 129 := by kernel_rfl
theorem info_pc : (Tryd.prog.info? 138).map (fun i => (i.zero, i.size, i.bytes)) = some (some (.agg zeroPiece), 129, 136) := by kernel_rfl
theorem zeroPiece_ne : ¬ zeroPiece = #[] := by intro h; have := zeroPiece_size; rw [h] at this; simp at this
theorem zeroPiece_val (w : World) : (zeroValue 138).run Tryd.prog w = .ok (.agg zeroPiece) w := by kernel_rfl
theorem zeroPiece_one : zeroPiece.all (·.oneCell') = true := by kernel_rfl
theorem size_pc : (Tryd.prog.info? 138).map (·.size) = some 129 := by kernel_rfl
theorem built_pc (L : List (Nat × Value)) : Tryd.prog.built 138 L = Instr.fill ((#[(0, 1), (1, 128)] : Array (Nat × Nat))[·]?) zeroPiece L := by kernel_rfl

theorem piece_built (n : Int) (bs : List Int) (h : bs.length = 128) : Tryd.prog.built 138 [(0, .int .i64 n), (1, .agg (u8s bs).toArray)] = some (pieceCells (n, bs)).toArray := by
  rw [built_pc, fill_part (off := 0) (size := 1) (cs := [.int .i64 n]) rfl rfl rfl (by rw [zeroPiece_size]; omega), fill_part (off := 1) (size := 128) (cs := u8s bs) rfl rfl (by simp [h]) (by simp [zeroPiece, zeros128])]
  unfold Instr.fill
  simp [zeroPiece, pieceCells, zeros128]
theorem piece_run (w : World) (n : Int) (bs : List Int) (h : bs.length = 128) : (Instr.build 138 #[(0, .int .i64 n), (1, .agg (u8s bs).toArray)]).run Tryd.prog w = .ok (.agg (pieceCells (n, bs)).toArray) w :=
  run_build w _ _ _ (piece_built n bs h)
/-- One piece as a new slice. -/
theorem piece_slice (p : Int × List Int) (h : p.2.length = 128) (ie : TypeInfo) (z : Value) (hs : ie.size = 129) (hz : z.cells.size = 129) :
    Instr.fill (fun i => some (i * ie.size, ie.size)) ((Array.range (1 * ie.size)).map (z.cells[· % z.cells.size]!)) [(0, .agg (pieceCells p).toArray)] = some (pieceCells p).toArray := by
  rw [fill_part (off := 0) (size := 129) (cs := pieceCells p) (by rw [hs]) rfl (pieceCells_len h) (by simp [hs])]
  unfold Instr.fill
  simp [hs]

theorem count_at {K i : Nat} {f g : Nat → Bool} (hi : i < K) (h : ∀ j, j < K → j ≠ i → f j = g j) : (List.range K).countP f + (if g i then 1 else 0) = (List.range K).countP g + (if f i then 1 else 0) := by
  induction K with
  | zero => omega
  | succ K ih =>
    rw [List.range_succ, List.countP_append, List.countP_append]
    simp only [List.countP_cons, List.countP_nil, Nat.zero_add]
    by_cases hK : i = K
    · subst hK
      have e : (List.range i).countP f = (List.range i).countP g := List.countP_congr (fun j hj => by
        have := List.mem_range.1 hj
        rw [h j (by omega) (by omega)])
      rw [e]; omega
    · have := ih (by omega) (fun j hj => h j (by omega))
      rw [h K (by omega) (fun e => hK e.symm)]; omega
theorem used_at {S T : DS} {i : Nat} (hl : T.kept.length = S.kept.length) (hi : i < S.kept.length) (h : ∀ j : Nat, j < S.kept.length → j ≠ i → T.isUse (j : Int) = S.isUse (j : Int)) :
    T.used + (if S.isUse (i : Int) then 1 else 0) = S.used + (if T.isUse (i : Int) then 1 else 0) := by
  unfold DS.used usedTo
  rw [hl]
  exact count_at (f := fun (j : Nat) => T.isUse (j : Int)) (g := fun (j : Nat) => S.isUse (j : Int)) hi h
theorem put_used (S : DS) (n : Nat) (bs : List Int) (hn : n < S.kept.length) : (S.put n bs).used = if S.isUse (n : Int) then S.used else S.used + 1 := by
  have h1 : (S.put n bs).isUse (n : Int) = true := by
    unfold DS.isUse DS.waitsFor DS.put
    simp
  have := used_at (S := S) (T := S.put n bs) rfl hn (fun j _ hj => by
    unfold DS.isUse DS.waitsFor DS.put
    have : ((n : Int) == (j : Int)) = false := by simpa using (show ¬ (n : Int) = (j : Int) by omega)
    simp [this])
  rw [h1] at this
  cases e : S.isUse (n : Int)
  · rw [e] at this; simpa using this
  · rw [e] at this; simpa using this

theorem PRow.ownF {F : Nat → Prop} {w : World} {v : Value} {ps : List (Int × List Int)} (h : PRow F w v ps) {k : Nat} (hk : v.ownBlock = some k) : F k ∧ ∃ vs, Blk w k 138 vs := by
  rcases h with ⟨rfl, _⟩ | ⟨g, cap, sp, rfl, h2, _, _, h5, _⟩
  · cases hk
  · cases hk; exact ⟨h2, _, h5⟩

/-- Behind Write's append and its two stores: the disk with the piece that waits. -/
theorem pput_end {F : Nat → Prop} {w1 wA w3 : World} {b : Nat} {S : DS} {sb mb : Nat} {vs : List Value} {vw v2 : Value} {c : Int} {L : List Int} {n : Nat} {bs : List Int} {left : Int} {o : Obj} (hwf : DWf S) (hn : n < S.kept.length) (hbs : Byte128 bs)
    (h : PDAt F w1 b S 0 S.waits sb mb vs vw c L) (hfin : ∀ k, F k → k < w1.heap.size)
    (hleft : left = S.room - ((S.put n bs).used : Int)) (huse : ((S.put n bs).used : Int) ≤ S.room)
    (hA : Blk wA b 101 [.slice (some ⟨sb, 0, none⟩) S.kept.length S.kept.length, vw, .int .i64 left, .int .i64 c, .bool S.off, .pointer (some ⟨mb, 0, none⟩)])
    (hO : Only F w1 wA) (hsA : ∀ k, k < w1.heap.size → k ≠ b → wA.heap[k]? = w1.heap[k]?)
    (hg : (wA.alloc o).grownBy w3 vw.ownBlock) (hown : w3.ownsRow 0 138 129 v2 (S.waits.length + 1) (flatP S.waits ++ pieceCells ((n : Int), bs))) (hat : ∀ k, v2.ownBlock = some k → (vw.ownBlock = some k ∨ w1.heap.size ≤ k)) :
    Only F w1 w3 ∧ Blk w3 b 101 [.slice (some ⟨sb, 0, none⟩) S.kept.length S.kept.length, vw, .int .i64 left, .int .i64 c, .bool S.off, .pointer (some ⟨mb, 0, none⟩)] ∧ Blk w3 sb 103 vs ∧
    PDAt (More F w1 w3) ((w3.setCell ⟨b, 1, none⟩ v2).setCell ⟨sb, n * 130 + 129, none⟩ (.int .i64 ((S.waits.length : Int) + 1))) b (S.put n bs) 0 (S.put n bs).waits sb mb (vs.set (n * 130 + 129) (.int .i64 ((S.waits.length : Int) + 1))) v2 c L := by
  have hgo : ∀ k, k < w1.heap.size → k ≠ b → some k ≠ vw.ownBlock → w3.heap[k]? = w1.heap[k]? := by
    intro k hk hne hno
    have hkA : k < wA.heap.size := Nat.lt_of_lt_of_le hk hO.size
    rw [hg.block k (by rw [nblk_alloc]; omega) hno, blk_alloc_lt _ _ _ hkA]
    exact hsA k hk hne
  have hwn : ∀ {k : Nat} {t : TypeId} {ws : List Value}, Blk w1 k t ws → t ≠ 138 → some k ≠ vw.ownBlock := by
    intro k t ws hb ht e
    obtain ⟨_, vs', hv⟩ := h.wait.ownF e.symm
    exact hb.ne hv ht rfl
  have hb3 := hA.kept (w' := w3) (by
    rw [hg.block b (by rw [nblk_alloc]; have := hA.lt; omega) (hwn h.head (by decide)), blk_alloc_lt _ _ _ hA.lt])
  have hsb : sb ≠ b := h.sect.ne h.head (by decide)
  obtain ⟨vm, hvm⟩ := h.met.blk
  have hmb : mb ≠ b := hvm.ne h.head (by decide)
  have hms : mb ≠ sb := hvm.ne h.sect (by decide)
  have hs3 := h.sect.kept (w' := w3) (hgo sb h.sect.lt hsb (hwn h.sect (by decide)))
  have hsz : w1.heap.size ≤ w3.heap.size := by have := hg.size; rw [nblk_alloc] at this; have := hO.size; omega
  have hO3 : Only F w1 w3 := ⟨hg.os.trans hO.os, hg.tape.trans hO.tape, hg.output.trans hO.output, hsz, fun k hk hF => by
    by_cases hkb : k = b
    · exact absurd (hkb ▸ h.fb) hF
    · refine hgo k hk hkb (fun e => hF (h.wait.ownF e.symm).1)⟩
  refine ⟨hO3, hb3, hs3, ?_⟩
  have hlen := h.secs.len
  have hlt : n * 130 + 129 < vs.length := by rw [hlen]; omega
  have hm3 : PMet w3 mb L := h.met.kept (hgo mb h.met.lt hmb (hwn hvm (by decide)))
  refine ⟨Or.inl h.fb, Or.inl h.fs, Or.inl h.fm, ?_, ?_, ?_, ?_, rfl, huse, h.cut0, h.cut1, h.cut, ?_, h.ops⟩
  · have h1 := (hb3.set 1 v2).setOther (a := ⟨sb, n * 130 + 129, none⟩) (fun e => hsb e.symm) (.int .i64 ((S.waits.length : Int) + 1))
    rw [hleft] at h1; exact h1
  · exact (hs3.setOther (a := ⟨b, 1, none⟩) hsb v2).set (n * 130 + 129) (.int .i64 ((S.waits.length : Int) + 1))
  · refine ⟨by rw [List.length_set]; exact hlen, ?_, ?_, ?_⟩
    · intro i r hi j u hj
      have hr := (hwf.rows r (List.mem_of_getElem? hi)).1
      have hj1 := (List.getElem?_eq_some_iff.1 hj).1
      rw [set_at _ _ _ _ hlt, if_neg (by omega)]
      exact h.secs.kept i r hi j u hj
    · intro i u hi
      rw [set_at _ _ _ _ hlt, if_neg (by omega)]
      exact h.secs.used i u hi
    · intro i hi
      rw [set_at _ _ _ _ hlt]
      show _ = some (Value.int .i64 ((lastOf (S.waits ++ [((n : Int), bs)]) 0 i : Nat) : Int))
      rw [lastOf_snoc]
      by_cases e : i = n
      · subst e
        rw [if_pos rfl, if_pos rfl, Nat.zero_add]; rfl
      · rw [if_neg (by omega), if_neg (by show ¬ (n : Int) = (i : Int); omega)]
        exact h.secs.last i hi
  · have h1 : PRow (More F w1 w3) w3 v2 (S.put n bs).waits := by
      refine PRow.of_own (n := S.waits.length + 1) (by show w3.ownsRow 0 _ 129 v2 _ (flatP (S.waits ++ [((n : Int), bs)])); rw [flatP_snoc]; exact hown) ?_ ?_
      · intro p hp
        rcases List.mem_append.1 hp with hp | hp
        · exact (hwf.wts p hp).2.2.1
        · simp at hp; subst hp; exact hbs.1
      · intro k hk
        rcases hat k hk with h1 | h1
        · exact Or.inl (h.wait.ownF h1).1
        · exact Or.inr ⟨h1, (hown.lt k hk).2⟩
    refine h1.kept (fun g _ hv => ?_)
    obtain ⟨vs', hv⟩ := hv
    rw [blk_setCell_other _ _ _ _ (show g ≠ sb from fun e => (hv.ne hs3 (by decide)) e), blk_setCell_other _ _ _ _ (show g ≠ b from fun e => (hv.ne hb3 (by decide)) e)]
  · refine hm3.kept ?_
    rw [blk_setCell_other _ _ _ _ (show mb ≠ sb from hms), blk_setCell_other _ _ _ _ (show mb ≠ b from hmb)]
attribute [simp] zeroPiece_val zeroPiece_ne
attribute [irreducible] zeroPiece
theorem zeroPiece_eq : Tryd.zeroCells138 = zeroPiece := by kernel_rfl
attribute [simp] zeroPiece_eq
end Go.Proofs.YteliebinhdphlaaDoor

/- The program's disk: Write. -/
namespace Go.Proofs.YteliebinhdphlaaDoor
set_option maxRecDepth 100000
open Go.RowKit Go.Deep
set_option linter.unusedSimpArgs false
set_option linter.unusedVariables false

theorem run_load_op {P : Program} {op : Oper} {a : Act} {w : World} (ty : TypeId) (x : Operand) (ho : op.op = .load ty x) (b o : Nat) (hx : a.eval x = .pointer (some ⟨b, o, none⟩)) (cs : List Value) (d : TypeDesc) (hS : w.rangeAt b o cs)
    (hu : P.underlying ty = some d) (hd : d.isRow = true) (hi : (P.info? ty).map (·.size) = some cs.length) : (execOp a.eval op).run P w = .ok (.value (.agg cs.toArray)) w := by
  unfold execOp
  simp only [ho, hx, Instr.loadAt, Instr.sureAddr, Sem.run_bind, Sem.run_pure, Result.andThen_ok, run_loadVar_mid w b o ty cs d hS hu hd hi]
theorem run_build_op {P : Program} {op : Oper} {a : Act} {w : World} (ty : TypeId) (parts : Array (Nat × Operand)) (ho : op.op = .build ty parts) (v : Value) (h : (Instr.build ty (parts.map fun (i, x) => (i, a.eval x))).run P w = .ok v w) : (execOp a.eval op).run P w = .ok (.value v) w := by
  unfold execOp
  simp only [ho, Sem.run_bind, Sem.run_pure, Result.andThen_ok, h]
theorem one_piece (p : Int × List Int) : ∀ u ∈ pieceCells p, u.oneCell' = true := by
  intro u hu
  rcases List.mem_cons.1 hu with rfl | hu
  · rfl
  · exact one_u8s _ u hu
/-- An array of 128 bytes, boxed. -/
theorem box_new (w : World) (bs : List Int) : Blk (w.alloc (.cells (u8s bs).toArray 72)) w.heap.size 72 (u8s bs) := Blk.new w 72 (u8s bs)

set_option maxHeartbeats 800000 in
theorem dwrite_err (F : Nat → Prop) (w : World) (b : Nat) (S : DS) (h : PD F w b S) (n er : Int) (bs : List Int) (hne : er ≠ 0) (hr : ∀ w', PD F w' b S → Calls Tryd.prog 89 #[.pointer (some ⟨b, 0, none⟩), .int .i64 n] w' fun e w2 => e = .returned (.int .i64 er) ∧ w2 = w') :
    Calls Tryd.prog 75 #[.pointer (some ⟨b, 0, none⟩), .int .i64 n, .agg (u8s bs).toArray] w fun e w' => e = .returned (.int .i64 er) ∧ Only Nothing w w' := by
  obtain ⟨w1, hw1⟩ : ∃ w1, w1 = w.alloc (.cells (u8s bs).toArray 72) := ⟨_, rfl⟩
  have hb1 : Below w.heap.size w w1 := by rw [hw1]; exact below_alloc _ _
  have h1 := h.only (Only.of_below (F := Nothing) hb1) (fun _ _ hk => hk)
  have hr1 := hr w1 h1
  have hd : (er != 0) = true := by simpa using hne
  have Hw1 := Lib.hid hw1
  clear hw1 h1 h hr hne
  go_enter Tryd.func75, Tryd.ntmps75
  go_wp2_with fail
  rw [← Hw1.out]
  clear Hw1
  refine hr1.mono ?_
  rintro e w2 ⟨rfl, hw⟩
  obtain rfl := hw.symm
  go_wp2
  go_ret
  exact ⟨rfl, Only.of_below hb1⟩

section
variable (F : Nat → Prop) (w : World) (b : Nat) (S : DS) (h : PD F w b S)
include h
theorem dwrite_off (n : Int) (bs : List Int) (hb : Byte128 bs) (ho : S.off = true) : Calls Tryd.prog 75 #[.pointer (some ⟨b, 0, none⟩), .int .i64 n, .agg (u8s bs).toArray] w fun e w' => e = .returned (.int .i64 50) ∧ Only Nothing w w' :=
  dwrite_err F w b S h n 50 bs (by omega) (fun w' h' => dreach_off F w' b S h' n ho)
theorem dwrite_out (n : Int) (bs : List Int) (hb : Byte128 bs) (ho : S.off = false) (hn : n < 0 ∨ (S.kept.length : Int) ≤ n) : Calls Tryd.prog 75 #[.pointer (some ⟨b, 0, none⟩), .int .i64 n, .agg (u8s bs).toArray] w fun e w' => e = .returned (.int .i64 51) ∧ Only Nothing w w' :=
  dwrite_err F w b S h n 51 bs (by omega) (fun w' h' => dreach_out F w' b S h' n ho hn)

set_option maxRecDepth 100000 in
set_option maxHeartbeats 1600000 in
theorem dwrite_full (n : Nat) (bs : List Int) (hb : Byte128 bs) (ho : S.off = false) (hn : n < S.kept.length) (hu : S.isUse n = false) (hf : S.room ≤ (S.used : Int)) : Calls Tryd.prog 75 #[.pointer (some ⟨b, 0, none⟩), .int .i64 (n : Int), .agg (u8s bs).toArray] w fun e w' => e = .returned (.int .i64 52) ∧ Only Nothing w w' := by
  obtain ⟨w1, hw1⟩ : ∃ w1, w1 = w.alloc (.cells (u8s bs).toArray 72) := ⟨_, rfl⟩
  have hb1 : Below w.heap.size w w1 := by rw [hw1]; exact below_alloc _ _
  have h1 := h.only (Only.of_below (F := Nothing) hb1) (fun _ _ hk => hk)
  have hr1 := dreach_in F w1 b S h1 n ho hn
  clear h
  obtain ⟨hwf, hFb, hfin, sb, mb, vs, vw, c, L, h⟩ := h1
  have hiu := dinuse_is F w1 b S sb mb vs vw c L hwf h n hn
  rw [hu] at hiu
  have hc0 := h.head.cell (i := 0) rfl
  have hc2 := h.head.cell (i := 2) rfl
  have huse := h.use
  obtain ⟨K, hK⟩ : ∃ K, K = S.kept.length := ⟨_, rfl⟩
  have hnK : (n : Int) < (K : Int) := by omega
  rw [← hK] at hc0
  obtain ⟨l, hl⟩ : ∃ l, l = S.room - (S.used : Int) := ⟨_, rfl⟩
  rw [← hl] at hc2
  have hl0 : l = 0 := by omega
  subst hl0
  have Hw1 := Lib.hid hw1
  clear hw1 h hwf hfin hu hf hl hK ho huse hn
  go_enter Tryd.func75, Tryd.ntmps75
  go_wp2_with fail
  rw [← Hw1.out]
  clear Hw1
  refine hr1.mono ?_
  rintro e w2 ⟨rfl, hw⟩
  obtain rfl := hw.symm
  go_wp2_with fail
  refine hiu.mono ?_
  rintro e w2 ⟨rfl, hw⟩
  obtain rfl := hw.symm
  go_wp2
  go_ret
  exact ⟨rfl, Only.of_below hb1⟩

set_option maxRecDepth 100000 in
set_option maxHeartbeats 6400000 in
theorem dwrite_in (n : Nat) (bs : List Int) (hb : Byte128 bs) (ho : S.off = false) (hn : n < S.kept.length) (hu : S.isUse n = true ∨ (S.used : Int) < S.room) (hmany : S.waits.length ≤ 1000000) : Calls Tryd.prog 75 #[.pointer (some ⟨b, 0, none⟩), .int .i64 (n : Int), .agg (u8s bs).toArray] w fun e w' => e = .returned (.int .i64 (goneErr ((S.put n bs).goes 1).2)) ∧ PD (More F w w') w' b ((S.put n bs).goes 1).1 ∧ Only F w w' := by
  obtain ⟨w1, hw1⟩ : ∃ w1, w1 = w.alloc (.cells (u8s bs).toArray 72) := ⟨_, rfl⟩
  have hbx : Blk w1 w.heap.size 72 (u8s bs) := by rw [hw1]; exact box_new w bs
  have hb1 : Below w.heap.size w w1 := by rw [hw1]; exact below_alloc _ _
  have hF0 : ∀ k, F k → k < w.heap.size := fun k hk => h.fin hk
  have h1 := h.only (Only.of_below (F := Nothing) hb1) (fun _ _ hk => hk)
  have hr1 := dreach_in F w1 b S h1 n ho hn
  clear h
  obtain ⟨hwf, hFb, hfin, sb, mb, vs, vw, c, L, h⟩ := h1
  have hiu := dinuse_is F w1 b S sb mb vs vw c L hwf h n hn
  have hc0 := h.head.cell (i := 0) rfl
  have hc2 := h.head.cell (i := 2) rfl
  have hf2 := h.head.frozen 2
  have huse := h.use
  have hpu := put_used S n bs hn
  have hwfr := hwf.room1
  obtain ⟨K, hK⟩ : ∃ K, K = S.kept.length := ⟨_, rfl⟩
  have hnK : (n : Int) < (K : Int) := by omega
  rw [← hK] at hc0
  obtain ⟨l, hl⟩ : ∃ l, l = S.room - (S.used : Int) := ⟨_, rfl⟩
  rw [← hl] at hc2
  have hl1 : bs.length = 128 := hb.1
  have hsizeL : (Tryd.prog.info? 72).map (·.size) = some (u8s bs).length := by rw [size_arr, List.length_map, hl1]
  have Hbuild := Lib.hid (fun w => piece_run w (n : Int) bs hl1)
  obtain ⟨A, cA, hvw, hmw, _⟩ := h.wait.form
  have Hvw := Lib.hid hvw
  have Ho := Lib.hid ho
  have Hl := Lib.hid hl
  have Hw1 := Lib.hid hw1
  have Hh := Lib.hid h
  have Hwf := Lib.hid hwf
  have Hfin := Lib.hid hfin
  have Hn := Lib.hid hn
  have Hb := Lib.hid hb
  have HK := Lib.hid hK
  obtain ⟨ip, hip, hzp, hsp, hbp⟩ := info_parts' info_pc
  cases hiuse : S.isUse (n : Int)
  case false =>
    rw [hiuse] at hiu hpu hu
    have hpu : (S.put n bs).used = S.used + 1 := hpu
    have hlt : 0 < l := by
      rcases hu with h1 | h1
      · cases h1
      · omega
    have hl4 : l ≤ 4096 := by omega
    obtain ⟨lf, hlf⟩ : ∃ lf, lf = l - 1 := ⟨_, rfl⟩
    have Hleft := Lib.hid (show lf = S.room - ((S.put n bs).used : Int) ∧ ((S.put n bs).used : Int) ≤ S.room by rw [hpu]; omega)
    have Hlf := Lib.hid hlf
    have hd : decide (l = 0) = false := decide_eq_false (by omega)
    have hlb : (l == 0) = false := by simp; omega
    clear hw1 h hwf hfin hu hl hK ho huse hn hpu hvw hiuse hlf
    go_enter Tryd.func75, Tryd.ntmps75
    go_wp2_with fail
    rw [← Hw1.out]
    clear Hw1
    refine hr1.mono ?_
    rintro e w2 ⟨rfl, hw⟩
    obtain rfl := hw.symm
    go_wp2_with fail
    refine hiu.mono ?_
    rintro e w2 ⟨rfl, hw⟩
    obtain rfl := hw.symm
    go_upto_region 9 with fail
    obtain ⟨wA, hwA⟩ : ∃ wA, wA = w1.setCell ⟨b, 2, none⟩ (.int .i64 (l - 1)) := ⟨_, rfl⟩
    have hA : Blk wA b 101 [.slice (some ⟨sb, 0, none⟩) S.kept.length S.kept.length, vw, .int .i64 lf, .int .i64 c, .bool S.off, .pointer (some ⟨mb, 0, none⟩)] := by rw [hwA, Hlf.out]; exact Hh.out.head.set 2 _
    have hOA : Only F w1 wA := by rw [hwA]; exact set_only hFb _
    have hsA : ∀ k, k < w1.heap.size → k ≠ b → wA.heap[k]? = w1.heap[k]? := by rw [hwA]; exact fun k _ hne => blk_setCell_other _ _ _ _ hne
    rw [← hwA]
    clear hwA hlt hl4 hd hlb Hlf
    have hc1A : wA.drew.cell? ⟨b, 1, none⟩ = some vw := hA.cell (i := 1) rfl
    have hc1B : ((wA.drew).alloc (.cells (pieceCells ((n : Int), bs)).toArray 138)).cell? ⟨b, 1, none⟩ = some vw := (hA.alloc _).cell (i := 1) rfl
    have hc1C : (wA.alloc (.cells (pieceCells ((n : Int), bs)).toArray 138)).cell? ⟨b, 1, none⟩ = some vw := (hA.alloc _).cell (i := 1) rfl
    have Hrb := Lib.hid (show wA.drew.rangeAt w.heap.size 0 (u8s bs) from fun j v hj => by
      rw [Nat.zero_add]
      exact (hbx.kept (hsA _ hbx.lt (fun e => by have := hF0 b hFb; omega))).cell hj)
    have Hwt := Lib.hid (show ((wA.drew).alloc (.cells (pieceCells ((n : Int), bs)).toArray 138)).ownsRow 0 138 129 vw S.waits.length (flatP S.waits) from
      (Hh.out.wait.kept (w' := (wA.drew).alloc (.cells (pieceCells ((n : Int), bs)).toArray 138)) (fun g hg hv => by
        obtain ⟨vs', hv⟩ := hv
        rw [blk_alloc_lt _ _ _ (show g < wA.drew.heap.size from Nat.lt_of_lt_of_le hv.lt hOA.size)]
        exact hsA g hv.lt (hv.ne Hh.out.head (by decide)))).own)
    have hbne : some b ≠ vw.ownBlock := fun e => by
      obtain ⟨_, vs', hv⟩ := Hh.out.wait.ownF e.symm
      exact (Hh.out.head.ne hv (by decide)) rfl
    have Hend := Lib.hid (fun (o : Obj) (w3 : World) (hg : ((wA.drew).alloc o).grownBy w3 vw.ownBlock) => show Blk w3 b 101 [.slice (some ⟨sb, 0, none⟩) S.kept.length S.kept.length, vw, .int .i64 lf, .int .i64 c, .bool S.off, .pointer (some ⟨mb, 0, none⟩)] from
      hA.kept (by rw [hg.block b (by rw [nblk_alloc]; exact Nat.lt_succ_of_lt hA.lt) hbne]; exact blk_alloc_lt wA.drew o b hA.lt))
    have HA := Lib.hid hA
    have HsA := Lib.hid hsA
    have HOA := Lib.hid hOA
    clear hA hsA hOA
    go_cut [] from 36 to 47 (fun wc => ∃ g2 cap2 w3 o, w3.ownsRow 0 138 129 (.slice (some ⟨g2, 0, none⟩) (S.waits.length + 1) cap2) (S.waits.length + 1) (flatP S.waits ++ pieceCells ((n : Int), bs)) ∧ ((wA.drew).alloc o).grownBy w3 vw.ownBlock ∧ (vw.ownBlock = some g2 ∨ g2 = ((wA.drew).alloc o).heap.size) ∧ wc = w3.setCell ⟨b, 1, none⟩ (.slice (some ⟨g2, 0, none⟩) (S.waits.length + 1) cap2))
    case first =>
      refine wp_region_any (by kernel_rfl) ?_
      try (change wpAny _ _ _ _ _ _ _ (World.drew _))
      refine wpAny_take (i := 0) (oi := ?oiy1) (v := ?vy1) ?hiy1 ?hay1 ?hby1 ?hcy1 ?hqy1 ?hyy1 ?resty1
      case hiy1 => (simp only [List.getElem?_toArray, List.getElem?_cons_zero, List.getElem?_cons_succ]; rfl)
      case hay1 => kernel_rfl
      case hby1 => kernel_rfl
      case hcy1 => kernel_rfl
      case hyy1 => exact Or.inl ⟨by rfl, by (intro w; go_simp; (try with_reducible rfl))⟩
      case hqy1 => exact fun _ _ _ h => h
      try simp only [Act.put, List.setIfInBounds_toArray, List.set_cons_zero, List.set_cons_succ]
      refine wpAny_take (i := 1) (oi := ?oiy2) (v := ?vy2) ?hiy2 ?hay2 ?hby2 ?hcy2 ?hqy2 ?hyy2 ?resty2
      case hiy2 => (simp only [List.getElem?_toArray, List.getElem?_cons_zero, List.getElem?_cons_succ]; rfl)
      case hay2 => kernel_rfl
      case hby2 => kernel_rfl
      case hcy2 => kernel_rfl
      case hyy2 => exact Or.inl ⟨by rfl, by (intro w; go_simp; (try with_reducible rfl))⟩
      case hqy2 => exact fun _ _ _ h => h
      try simp only [Act.put, List.setIfInBounds_toArray, List.set_cons_zero, List.set_cons_succ]
      refine wpAny_take (i := 2) (oi := ?oiy3) (v := ?vy3) ?hiy3 ?hay3 ?hby3 ?hcy3 ?hqy3 ?hyy3 ?resty3
      case hiy3 => (simp only [List.getElem?_toArray, List.getElem?_cons_zero, List.getElem?_cons_succ]; rfl)
      case hay3 => kernel_rfl
      case hby3 => kernel_rfl
      case hcy3 => kernel_rfl
      case hyy3 => exact Or.inl ⟨by rfl, by (intro w; go_simp; (try with_reducible rfl))⟩
      case hqy3 => exact fun _ _ _ h => h
      try simp only [Act.put, List.setIfInBounds_toArray, List.set_cons_zero, List.set_cons_succ]
      refine wpAny_take (i := 3) (oi := ?oiy4) (v := ?vy4) ?hiy4 ?hay4 ?hby4 ?hcy4 ?hqy4 ?hyy4 ?resty4
      case hiy4 => (simp only [List.getElem?_toArray, List.getElem?_cons_zero, List.getElem?_cons_succ]; rfl)
      case hay4 => kernel_rfl
      case hby4 => kernel_rfl
      case hcy4 => kernel_rfl
      case hyy4 => exact Or.inl ⟨by rfl, by (intro w; go_simp; (try with_reducible rfl))⟩
      case hqy4 => exact fun _ _ _ h => h
      try simp only [Act.put, List.setIfInBounds_toArray, List.set_cons_zero, List.set_cons_succ]
      refine wpAny_take (i := 5) (oi := ?oiy5) (v := ?vy5) ?hiy5 ?hay5 ?hby5 ?hcy5 ?hqy5 ?hyy5 ?resty5
      case hiy5 => (simp only [List.getElem?_toArray, List.getElem?_cons_zero, List.getElem?_cons_succ]; rfl)
      case hay5 => kernel_rfl
      case hby5 => kernel_rfl
      case hcy5 => kernel_rfl
      case hyy5 => exact Or.inl ⟨by rfl, by (intro w; go_simp; (try with_reducible rfl))⟩
      case hqy5 => exact fun _ _ _ h => h
      try simp only [Act.put, List.setIfInBounds_toArray, List.set_cons_zero, List.set_cons_succ]
      refine wpAny_ready (rs := [4, 6]) (by kernel_rfl) (by simp) ?_
      refine AllReady.cons (o := ?oiy6f0) ?hiy6f0 (fun K hK => ?stepy6f0) ?morey6f0
      case hiy6f0 => (simp only [List.getElem?_toArray, List.getElem?_cons_zero, List.getElem?_cons_succ]; rfl)
      case stepy6f0 =>
        go_simp
        refine hK _ _ ?_
        clear hK K
        try simp only [Act.put, List.setIfInBounds_toArray, List.set_cons_zero, List.set_cons_succ]
        refine wpAny_ready (rs := [6]) (by kernel_rfl) (by simp) ?_
        refine AllReady.cons (o := ?oiy7f0) ?hiy7f0 (fun K hK => ?stepy7f0) ?morey7f0
        case hiy7f0 => (simp only [List.getElem?_toArray, List.getElem?_cons_zero, List.getElem?_cons_succ]; rfl)
        case stepy7f0 =>
          rw [if_pos (by rfl)]
          refine wp_load_mid 72 (.tmp 5) rfl w.heap.size 0 rfl (u8s bs) _ Hrb.out Tryd.underlying72 rfl hsizeL ?_
          refine hK _ _ ?_
          clear hK K
          try simp only [Act.put, List.setIfInBounds_toArray, List.set_cons_zero, List.set_cons_succ]
          refine wpAny_take (i := 7) (oi := ?oiy8) (v := .agg (pieceCells ((n : Int), bs)).toArray) ?hiy8 ?hay8 ?hby8 ?hcy8 ?hqy8 ?hyy8 ?resty8
          case hiy8 => (simp only [List.getElem?_toArray, List.getElem?_cons_zero, List.getElem?_cons_succ]; rfl)
          case hay8 => kernel_rfl
          case hby8 => kernel_rfl
          case hcy8 => kernel_rfl
          case hyy8 => exact Or.inl ⟨by rfl, fun w' => run_build_op 138 _ rfl _ (by simp only [List.map_toArray, List.map_cons, List.map_nil]; exact Hbuild.out w')⟩
          case hqy8 => exact fun _ _ _ h => h
          try simp only [Act.put, List.setIfInBounds_toArray, List.set_cons_zero, List.set_cons_succ]
          refine wpAny_ready (rs := [8]) (by kernel_rfl) (by simp) ?_
          refine AllReady.cons (o := ?oiy9f0) ?hiy9f0 (fun K hK => ?stepy9f0) ?morey9f0
          case hiy9f0 => (simp only [List.getElem?_toArray, List.getElem?_cons_zero, List.getElem?_cons_succ]; rfl)
          case stepy9f0 =>
            rw [if_pos (by rfl)]
            refine wp_buildSlice 99 138 1 _ rfl (pieceCells ((n : Int), bs)).toArray ip (.agg zeroPiece) Tryd.underlying99 hip hzp (by rw [hsp]; decide) (by rw [hsp]; decide) (by simp only [List.map_toArray, List.map_cons, List.map_nil]; exact piece_slice ((n : Int), bs) hl1 ip (.agg zeroPiece) hsp zeroPiece_size) ?_
            refine hK _ _ ?_
            clear hK K
            try simp only [Act.put, List.setIfInBounds_toArray, List.set_cons_zero, List.set_cons_succ]
            refine wpAny_ready (rs := [9]) (by kernel_rfl) (by simp) ?_
            refine AllReady.cons (o := ?oiy10f0) ?hiy10f0 (fun K hK => ?stepy10f0) ?morey10f0
            case hiy10f0 => (simp only [List.getElem?_toArray, List.getElem?_cons_zero, List.getElem?_cons_succ]; rfl)
            case stepy10f0 =>
              refine step_append_lies _ rfl (.tmp 40) (.tmp 44) 99 rfl 0 138 ip (.agg zeroPiece) 129 136 Tryd.underlying99 hip hzp hsp hbp zeroPiece_size (by decide) vw S.waits.length (flatP S.waits) (by simp [Act.eval]) Hwt.out ⟨wA.heap.size, 0, none⟩ 1 1 (pieceCells ((n : Int), bs)) (by simp [Act.eval]) (pieceCells_len hl1) (World.news_of_block (heap_alloc_new wA _)) (one_piece _) (by omega) (by simp only [maxLen]; omega) (by omega) (Nat.zero_le _) _ rfl ?_
              intro g2 cap2 w3 hown2 hg2 hat2 hlt2
              have Hown2 := Lib.hid hown2
              have Hg2 := Lib.hid hg2
              have Hat2 := Lib.hid hat2
              have hcw3 : w3.cell? ⟨b, 1, none⟩ = some vw := (Hend.out _ _ hg2).cell (i := 1) rfl
              have hfw3 : w3.frozen? ⟨b, 1, none⟩ = false := (Hend.out _ _ hg2).frozen 1
              clear hown2 hg2 hat2 hlt2
              refine hK _ _ ?_
              clear hK K
              try simp only [Act.put, List.setIfInBounds_toArray, List.set_cons_zero, List.set_cons_succ]
              refine wpAny_take (i := 10) (oi := ?oiy11) (v := ?vy11) ?hiy11 ?hay11 ?hby11 ?hcy11 ?hqy11 ?hyy11 ?resty11
              case hiy11 => (simp only [List.getElem?_toArray, List.getElem?_cons_zero, List.getElem?_cons_succ]; rfl)
              case hay11 => kernel_rfl
              case hby11 => kernel_rfl
              case hcy11 => kernel_rfl
              case hyy11 => exact Or.inl ⟨by rfl, by (intro w; go_simp; (try with_reducible rfl))⟩
              case hqy11 => exact fun _ _ _ h => h
              try simp only [Act.put, List.setIfInBounds_toArray, List.set_cons_zero, List.set_cons_succ]
              refine wpAny_take (i := 11) (oi := ?oiy12) (v := ?vy12) ?hiy12 ?hay12 ?hby12 ?hcy12 ?hqy12 ?hyy12 ?resty12
              case hiy12 => (simp only [List.getElem?_toArray, List.getElem?_cons_zero, List.getElem?_cons_succ]; rfl)
              case hay12 => kernel_rfl
              case hby12 => kernel_rfl
              case hcy12 => kernel_rfl
              case hyy12 => exact Or.inl ⟨by rfl, by (intro w; go_simp; (try with_reducible rfl))⟩
              case hqy12 => exact fun _ _ _ h => h
              try simp only [Act.put, List.setIfInBounds_toArray, List.set_cons_zero, List.set_cons_succ]
              refine wpAny_ready (rs := [12]) (by kernel_rfl) (by simp) ?_
              refine AllReady.cons (o := ?oiy13f0) ?hiy13f0 (fun K hK => ?stepy13f0) ?morey13f0
              case hiy13f0 => (simp only [List.getElem?_toArray, List.getElem?_cons_zero, List.getElem?_cons_succ]; rfl)
              case stepy13f0 =>
                go_simp
                refine hK _ _ ?_
                clear hK K
                try simp only [Act.put, List.setIfInBounds_toArray, List.set_cons_zero, List.set_cons_succ]
                clear hcw3 hfw3
                refine wpAny_done (by kernel_rfl) ?_ _
                go_wp2_with fail
                go_meet
                exact ⟨g2, cap2, w3, _, Hown2.out, Hg2.out, Hat2.out, rfl⟩
              case morey13f0 => exact AllReady.nil
            case morey10f0 => exact AllReady.nil
          case morey9f0 => exact AllReady.nil
        case morey7f0 => exact AllReady.nil
      case morey6f0 =>
        refine AllReady.cons (o := ?oiy6f1) ?hiy6f1 (fun K hK => ?stepy6f1) ?morey6f1
        case hiy6f1 => (simp only [List.getElem?_toArray, List.getElem?_cons_zero, List.getElem?_cons_succ]; rfl)
        case stepy6f1 =>
          rw [if_pos (by rfl)]
          refine wp_load_mid 72 (.tmp 5) rfl w.heap.size 0 rfl (u8s bs) _ Hrb.out Tryd.underlying72 rfl hsizeL ?_
          refine hK _ _ ?_
          clear hK K
          try simp only [Act.put, List.setIfInBounds_toArray, List.set_cons_zero, List.set_cons_succ]
          refine wpAny_take (i := 7) (oi := ?oiy15) (v := .agg (pieceCells ((n : Int), bs)).toArray) ?hiy15 ?hay15 ?hby15 ?hcy15 ?hqy15 ?hyy15 ?resty15
          case hiy15 => (simp only [List.getElem?_toArray, List.getElem?_cons_zero, List.getElem?_cons_succ]; rfl)
          case hay15 => kernel_rfl
          case hby15 => kernel_rfl
          case hcy15 => kernel_rfl
          case hyy15 => exact Or.inl ⟨by rfl, fun w' => run_build_op 138 _ rfl _ (by simp only [List.map_toArray, List.map_cons, List.map_nil]; exact Hbuild.out w')⟩
          case hqy15 => exact fun _ _ _ h => h
          try simp only [Act.put, List.setIfInBounds_toArray, List.set_cons_zero, List.set_cons_succ]
          refine wpAny_ready (rs := [4, 8]) (by kernel_rfl) (by simp) ?_
          refine AllReady.cons (o := ?oiy16f0) ?hiy16f0 (fun K hK => ?stepy16f0) ?morey16f0
          case hiy16f0 => (simp only [List.getElem?_toArray, List.getElem?_cons_zero, List.getElem?_cons_succ]; rfl)
          case stepy16f0 =>
            go_simp
            refine hK _ _ ?_
            clear hK K
            try simp only [Act.put, List.setIfInBounds_toArray, List.set_cons_zero, List.set_cons_succ]
            refine wpAny_ready (rs := [8]) (by kernel_rfl) (by simp) ?_
            refine AllReady.cons (o := ?oiy17f0) ?hiy17f0 (fun K hK => ?stepy17f0) ?morey17f0
            case hiy17f0 => (simp only [List.getElem?_toArray, List.getElem?_cons_zero, List.getElem?_cons_succ]; rfl)
            case stepy17f0 =>
              rw [if_pos (by rfl)]
              refine wp_buildSlice 99 138 1 _ rfl (pieceCells ((n : Int), bs)).toArray ip (.agg zeroPiece) Tryd.underlying99 hip hzp (by rw [hsp]; decide) (by rw [hsp]; decide) (by simp only [List.map_toArray, List.map_cons, List.map_nil]; exact piece_slice ((n : Int), bs) hl1 ip (.agg zeroPiece) hsp zeroPiece_size) ?_
              refine hK _ _ ?_
              clear hK K
              try simp only [Act.put, List.setIfInBounds_toArray, List.set_cons_zero, List.set_cons_succ]
              refine wpAny_ready (rs := [9]) (by kernel_rfl) (by simp) ?_
              refine AllReady.cons (o := ?oiy18f0) ?hiy18f0 (fun K hK => ?stepy18f0) ?morey18f0
              case hiy18f0 => (simp only [List.getElem?_toArray, List.getElem?_cons_zero, List.getElem?_cons_succ]; rfl)
              case stepy18f0 =>
                refine step_append_lies _ rfl (.tmp 40) (.tmp 44) 99 rfl 0 138 ip (.agg zeroPiece) 129 136 Tryd.underlying99 hip hzp hsp hbp zeroPiece_size (by decide) vw S.waits.length (flatP S.waits) (by simp [Act.eval]) Hwt.out ⟨wA.heap.size, 0, none⟩ 1 1 (pieceCells ((n : Int), bs)) (by simp [Act.eval]) (pieceCells_len hl1) (World.news_of_block (heap_alloc_new wA _)) (one_piece _) (by omega) (by simp only [maxLen]; omega) (by omega) (Nat.zero_le _) _ rfl ?_
                intro g2 cap2 w3 hown2 hg2 hat2 hlt2
                have Hown2 := Lib.hid hown2
                have Hg2 := Lib.hid hg2
                have Hat2 := Lib.hid hat2
                have hcw3 : w3.cell? ⟨b, 1, none⟩ = some vw := (Hend.out _ _ hg2).cell (i := 1) rfl
                have hfw3 : w3.frozen? ⟨b, 1, none⟩ = false := (Hend.out _ _ hg2).frozen 1
                clear hown2 hg2 hat2 hlt2
                refine hK _ _ ?_
                clear hK K
                try simp only [Act.put, List.setIfInBounds_toArray, List.set_cons_zero, List.set_cons_succ]
                refine wpAny_take (i := 10) (oi := ?oiy19) (v := ?vy19) ?hiy19 ?hay19 ?hby19 ?hcy19 ?hqy19 ?hyy19 ?resty19
                case hiy19 => (simp only [List.getElem?_toArray, List.getElem?_cons_zero, List.getElem?_cons_succ]; rfl)
                case hay19 => kernel_rfl
                case hby19 => kernel_rfl
                case hcy19 => kernel_rfl
                case hyy19 => exact Or.inl ⟨by rfl, by (intro w; go_simp; (try with_reducible rfl))⟩
                case hqy19 => exact fun _ _ _ h => h
                try simp only [Act.put, List.setIfInBounds_toArray, List.set_cons_zero, List.set_cons_succ]
                refine wpAny_take (i := 11) (oi := ?oiy20) (v := ?vy20) ?hiy20 ?hay20 ?hby20 ?hcy20 ?hqy20 ?hyy20 ?resty20
                case hiy20 => (simp only [List.getElem?_toArray, List.getElem?_cons_zero, List.getElem?_cons_succ]; rfl)
                case hay20 => kernel_rfl
                case hby20 => kernel_rfl
                case hcy20 => kernel_rfl
                case hyy20 => exact Or.inl ⟨by rfl, by (intro w; go_simp; (try with_reducible rfl))⟩
                case hqy20 => exact fun _ _ _ h => h
                try simp only [Act.put, List.setIfInBounds_toArray, List.set_cons_zero, List.set_cons_succ]
                refine wpAny_ready (rs := [12]) (by kernel_rfl) (by simp) ?_
                refine AllReady.cons (o := ?oiy21f0) ?hiy21f0 (fun K hK => ?stepy21f0) ?morey21f0
                case hiy21f0 => (simp only [List.getElem?_toArray, List.getElem?_cons_zero, List.getElem?_cons_succ]; rfl)
                case stepy21f0 =>
                  go_simp
                  refine hK _ _ ?_
                  clear hK K
                  try simp only [Act.put, List.setIfInBounds_toArray, List.set_cons_zero, List.set_cons_succ]
                  clear hcw3 hfw3
                  refine wpAny_done (by kernel_rfl) ?_ _
                  go_wp2_with fail
                  go_meet
                  exact ⟨g2, cap2, w3, _, Hown2.out, Hg2.out, Hat2.out, rfl⟩
                case morey21f0 => exact AllReady.nil
              case morey18f0 => exact AllReady.nil
            case morey17f0 => exact AllReady.nil
          case morey16f0 =>
            refine AllReady.cons (o := ?oiy16f1) ?hiy16f1 (fun K hK => ?stepy16f1) ?morey16f1
            case hiy16f1 => (simp only [List.getElem?_toArray, List.getElem?_cons_zero, List.getElem?_cons_succ]; rfl)
            case stepy16f1 =>
              rw [if_pos (by rfl)]
              refine wp_buildSlice 99 138 1 _ rfl (pieceCells ((n : Int), bs)).toArray ip (.agg zeroPiece) Tryd.underlying99 hip hzp (by rw [hsp]; decide) (by rw [hsp]; decide) (by simp only [List.map_toArray, List.map_cons, List.map_nil]; exact piece_slice ((n : Int), bs) hl1 ip (.agg zeroPiece) hsp zeroPiece_size) ?_
              refine hK _ _ ?_
              clear hK K
              try simp only [Act.put, List.setIfInBounds_toArray, List.set_cons_zero, List.set_cons_succ]
              refine wpAny_ready (rs := [4]) (by kernel_rfl) (by simp) ?_
              refine AllReady.cons (o := ?oiy23f0) ?hiy23f0 (fun K hK => ?stepy23f0) ?morey23f0
              case hiy23f0 => (simp only [List.getElem?_toArray, List.getElem?_cons_zero, List.getElem?_cons_succ]; rfl)
              case stepy23f0 =>
                go_simp
                refine hK _ _ ?_
                clear hK K
                try simp only [Act.put, List.setIfInBounds_toArray, List.set_cons_zero, List.set_cons_succ]
                refine wpAny_ready (rs := [9]) (by kernel_rfl) (by simp) ?_
                refine AllReady.cons (o := ?oiy24f0) ?hiy24f0 (fun K hK => ?stepy24f0) ?morey24f0
                case hiy24f0 => (simp only [List.getElem?_toArray, List.getElem?_cons_zero, List.getElem?_cons_succ]; rfl)
                case stepy24f0 =>
                  refine step_append_lies _ rfl (.tmp 40) (.tmp 44) 99 rfl 0 138 ip (.agg zeroPiece) 129 136 Tryd.underlying99 hip hzp hsp hbp zeroPiece_size (by decide) vw S.waits.length (flatP S.waits) (by simp [Act.eval]) Hwt.out ⟨wA.heap.size, 0, none⟩ 1 1 (pieceCells ((n : Int), bs)) (by simp [Act.eval]) (pieceCells_len hl1) (World.news_of_block (heap_alloc_new wA _)) (one_piece _) (by omega) (by simp only [maxLen]; omega) (by omega) (Nat.zero_le _) _ rfl ?_
                  intro g2 cap2 w3 hown2 hg2 hat2 hlt2
                  have Hown2 := Lib.hid hown2
                  have Hg2 := Lib.hid hg2
                  have Hat2 := Lib.hid hat2
                  have hcw3 : w3.cell? ⟨b, 1, none⟩ = some vw := (Hend.out _ _ hg2).cell (i := 1) rfl
                  have hfw3 : w3.frozen? ⟨b, 1, none⟩ = false := (Hend.out _ _ hg2).frozen 1
                  clear hown2 hg2 hat2 hlt2
                  refine hK _ _ ?_
                  clear hK K
                  try simp only [Act.put, List.setIfInBounds_toArray, List.set_cons_zero, List.set_cons_succ]
                  refine wpAny_take (i := 10) (oi := ?oiy25) (v := ?vy25) ?hiy25 ?hay25 ?hby25 ?hcy25 ?hqy25 ?hyy25 ?resty25
                  case hiy25 => (simp only [List.getElem?_toArray, List.getElem?_cons_zero, List.getElem?_cons_succ]; rfl)
                  case hay25 => kernel_rfl
                  case hby25 => kernel_rfl
                  case hcy25 => kernel_rfl
                  case hyy25 => exact Or.inl ⟨by rfl, by (intro w; go_simp; (try with_reducible rfl))⟩
                  case hqy25 => exact fun _ _ _ h => h
                  try simp only [Act.put, List.setIfInBounds_toArray, List.set_cons_zero, List.set_cons_succ]
                  refine wpAny_take (i := 11) (oi := ?oiy26) (v := ?vy26) ?hiy26 ?hay26 ?hby26 ?hcy26 ?hqy26 ?hyy26 ?resty26
                  case hiy26 => (simp only [List.getElem?_toArray, List.getElem?_cons_zero, List.getElem?_cons_succ]; rfl)
                  case hay26 => kernel_rfl
                  case hby26 => kernel_rfl
                  case hcy26 => kernel_rfl
                  case hyy26 => exact Or.inl ⟨by rfl, by (intro w; go_simp; (try with_reducible rfl))⟩
                  case hqy26 => exact fun _ _ _ h => h
                  try simp only [Act.put, List.setIfInBounds_toArray, List.set_cons_zero, List.set_cons_succ]
                  refine wpAny_ready (rs := [12]) (by kernel_rfl) (by simp) ?_
                  refine AllReady.cons (o := ?oiy27f0) ?hiy27f0 (fun K hK => ?stepy27f0) ?morey27f0
                  case hiy27f0 => (simp only [List.getElem?_toArray, List.getElem?_cons_zero, List.getElem?_cons_succ]; rfl)
                  case stepy27f0 =>
                    go_simp
                    refine hK _ _ ?_
                    clear hK K
                    try simp only [Act.put, List.setIfInBounds_toArray, List.set_cons_zero, List.set_cons_succ]
                    clear hcw3 hfw3
                    refine wpAny_done (by kernel_rfl) ?_ _
                    go_wp2_with fail
                    go_meet
                    exact ⟨g2, cap2, w3, _, Hown2.out, Hg2.out, Hat2.out, rfl⟩
                  case morey27f0 => exact AllReady.nil
                case morey24f0 => exact AllReady.nil
              case morey23f0 => exact AllReady.nil
            case morey16f1 => exact AllReady.nil
        case morey6f1 => exact AllReady.nil
    case rest =>
      obtain ⟨g2, cap2, w3, o, hown2, hg2, hat2, rfl⟩ := hcut
      obtain ⟨hO3, hb3, hs3, hend⟩ := pput_end (left := lf) (o := o) (w3 := w3) Hwf.out Hn.out Hb.out Hh.out Hfin.out Hleft.out.1 Hleft.out.2 HA.out HOA.out HsA.out ⟨hg2.os, hg2.tape, hg2.output, hg2.size, hg2.block⟩ hown2 (fun k hk => by
        cases hk
        rcases hat2 with e | e
        · exact Or.inl e
        · right; rw [e, nblk_alloc]; exact Nat.le_succ_of_le HOA.out.size)
      have hsb : sb ≠ b := hs3.ne hb3 (by decide)
      obtain ⟨m, hm⟩ : ∃ m, m = S.waits.length := ⟨_, rfl⟩
      obtain ⟨w4, hw4⟩ : ∃ w4, w4 = w3.setCell ⟨b, 1, none⟩ (.slice (some ⟨g2, 0, none⟩) (S.waits.length + 1) cap2) := ⟨_, rfl⟩
      have hb4 := hb3.set 1 (.slice (some ⟨g2, 0, none⟩) (S.waits.length + 1) cap2)
      have hs4 := hs3.setOther (a := ⟨b, 1, none⟩) hsb (.slice (some ⟨g2, 0, none⟩) (S.waits.length + 1) cap2)
      rw [← hw4] at hb4 hs4 hend ⊢
      have hc41 : w4.cell? ⟨b, 1, none⟩ = some (.slice (some ⟨g2, 0, none⟩) (m + 1) cap2) := by rw [hm]; exact hb4.cell (i := 1) rfl
      have hcs := hs4.cell (Hh.out.secs.last n Hn.out)
      have hfs := hs4.frozen (n * 130 + 129)
      have hO4 : Only F w1 w4 := by rw [hw4]; exact hO3.set (Or.inr hFb) _
      have hz4 : w4.heap.size = w3.heap.size := by rw [hw4, nblk_setCell]
      rw [← hm] at hend hmany
      obtain ⟨w5, hw5⟩ : ∃ w5, w5 = w4.setCell ⟨sb, n * 130 + 129, none⟩ (.int .i64 ((m : Int) + 1)) := ⟨_, rfl⟩
      have hc55 : (w4.setCell ⟨sb, n * 130 + 129, none⟩ (.int .i64 ((m : Int) + 1))).cell? ⟨b, 5, none⟩ = some (.pointer (some ⟨mb, 0, none⟩)) := hend.head.cell (i := 5) rfl
      rw [← hw5] at hend
      have hO5 : Only F w1 w5 := by rw [hw5]; exact hO4.set (Or.inr Hh.out.fs) _
      have hz5 : w5.heap.size = w3.heap.size := by rw [hw5, nblk_setCell, hz4]
      have hwf5 := Hwf.out.put Hn.out Hb.out
      have Hw5 := Lib.hid hw5
      have hcnt := dcount_is (More F w1 w3) w5 b (S.put n bs) 0 (S.put n bs).waits sb mb _ _ c L hwf5 hend 1 (by omega) 2 rfl
      have Hcl := Lib.hid (show ∀ k, More F w1 w3 k → k < w5.heap.size by
        intro k hk
        rw [hz5]
        rcases hk with hk | hk
        · exact Nat.lt_of_lt_of_le (Hfin.out k hk) hO3.size
        · exact hk.2)
      have Hoff := Lib.hid (show ((S.put n bs).count 1).off = false from Ho.out)
      have Hz5 := Lib.hid hz5
      have Hwf5 := Lib.hid hwf5
      have Hm := Lib.hid hm
      have HO5 := Lib.hid hO5
      have Hend5 := Lib.hid hend
      clear hend hwf5 hw5 hz5 hw4 hz4 hO5 hO4 hm hb3 hs3 hb4 hs4 hown2 hg2 hat2 hc1A hc1B hc1C Hrb Hwt Hend HA HsA HOA hO3
      go_wp2_with fail
      rw [← Hw5.out]
      refine hcnt.mono ?_
      rintro e w6 ⟨rfl, ⟨L', h6⟩, hg6⟩
      obtain ⟨hp6, hO6⟩ := count_back Hwf5.out (Or.inl hFb) Hcl.out h6 hg6
      go_wp2_with fail
      refine (dspend_is _ _ _ _ hp6 Hoff.out).mono ?_
      rintro e w7 ⟨rfl, hp7, hO7⟩
      go_wp2
      go_ret
      refine ⟨rfl, hp7.mono' (fun k hk => ?_) (fun k hk => ?_), ?_⟩
      · rcases hk with hk | hk
        · exact Or.inl hk
        · refine Or.inr ⟨Nat.le_trans hb1.size hk.1, ?_⟩
          have := hO6.size; have := hO7.size; have := Hz5.out; omega
      · rcases hk with hk | hk
        · have := hF0 k hk; have := hb1.size; have := HO5.out.size; have := hO6.size; have := hO7.size; omega
        · exact hk.2
      · have e1 : Only F w w5 := (Only.of_below (F := F) hb1).trans HO5.out (fun _ _ h => h)
        have drop : ∀ k, k < w.heap.size → More F w1 w3 k → F k := fun k hk hm => by
          rcases hm with hm | hm
          · exact hm
          · have := hb1.size; omega
        exact (e1.trans hO6 drop).trans hO7 drop
  case true =>
    rw [hiuse] at hiu hpu
    have hpu : (S.put n bs).used = S.used := hpu
    obtain ⟨lf, hlf⟩ : ∃ lf, lf = l := ⟨_, rfl⟩
    have Hleft := Lib.hid (show lf = S.room - ((S.put n bs).used : Int) ∧ ((S.put n bs).used : Int) ≤ S.room by rw [hpu, hlf]; exact ⟨hl, huse⟩)
    have Hlf := Lib.hid hlf
    clear hw1 h hwf hfin hu hl hK ho huse hn hpu hvw hiuse hlf
    go_enter Tryd.func75, Tryd.ntmps75
    go_wp2_with fail
    rw [← Hw1.out]
    clear Hw1
    refine hr1.mono ?_
    rintro e w2 ⟨rfl, hw⟩
    obtain rfl := hw.symm
    go_wp2_with fail
    refine hiu.mono ?_
    rintro e w2 ⟨rfl, hw⟩
    obtain rfl := hw.symm
    go_upto_region 9 with fail
    obtain ⟨wA, hwA⟩ : ∃ wA, wA = w1 := ⟨_, rfl⟩
    have hA : Blk wA b 101 [.slice (some ⟨sb, 0, none⟩) S.kept.length S.kept.length, vw, .int .i64 lf, .int .i64 c, .bool S.off, .pointer (some ⟨mb, 0, none⟩)] := by rw [hwA, Hlf.out, Hl.out]; exact Hh.out.head
    have hOA : Only F w1 wA := by rw [hwA]; exact Only.refl _ _
    have hsA : ∀ k, k < w1.heap.size → k ≠ b → wA.heap[k]? = w1.heap[k]? := by rw [hwA]; exact fun _ _ _ => rfl
    rw [← hwA]
    clear hwA Hlf
    have hc1A : wA.drew.cell? ⟨b, 1, none⟩ = some vw := hA.cell (i := 1) rfl
    have hc1B : ((wA.drew).alloc (.cells (pieceCells ((n : Int), bs)).toArray 138)).cell? ⟨b, 1, none⟩ = some vw := (hA.alloc _).cell (i := 1) rfl
    have hc1C : (wA.alloc (.cells (pieceCells ((n : Int), bs)).toArray 138)).cell? ⟨b, 1, none⟩ = some vw := (hA.alloc _).cell (i := 1) rfl
    have Hrb := Lib.hid (show wA.drew.rangeAt w.heap.size 0 (u8s bs) from fun j v hj => by
      rw [Nat.zero_add]
      exact (hbx.kept (hsA _ hbx.lt (fun e => by have := hF0 b hFb; omega))).cell hj)
    have Hwt := Lib.hid (show ((wA.drew).alloc (.cells (pieceCells ((n : Int), bs)).toArray 138)).ownsRow 0 138 129 vw S.waits.length (flatP S.waits) from
      (Hh.out.wait.kept (w' := (wA.drew).alloc (.cells (pieceCells ((n : Int), bs)).toArray 138)) (fun g hg hv => by
        obtain ⟨vs', hv⟩ := hv
        rw [blk_alloc_lt _ _ _ (show g < wA.drew.heap.size from Nat.lt_of_lt_of_le hv.lt hOA.size)]
        exact hsA g hv.lt (hv.ne Hh.out.head (by decide)))).own)
    have hbne : some b ≠ vw.ownBlock := fun e => by
      obtain ⟨_, vs', hv⟩ := Hh.out.wait.ownF e.symm
      exact (Hh.out.head.ne hv (by decide)) rfl
    have Hend := Lib.hid (fun (o : Obj) (w3 : World) (hg : ((wA.drew).alloc o).grownBy w3 vw.ownBlock) => show Blk w3 b 101 [.slice (some ⟨sb, 0, none⟩) S.kept.length S.kept.length, vw, .int .i64 lf, .int .i64 c, .bool S.off, .pointer (some ⟨mb, 0, none⟩)] from
      hA.kept (by rw [hg.block b (by rw [nblk_alloc]; exact Nat.lt_succ_of_lt hA.lt) hbne]; exact blk_alloc_lt wA.drew o b hA.lt))
    have HA := Lib.hid hA
    have HsA := Lib.hid hsA
    have HOA := Lib.hid hOA
    clear hA hsA hOA
    go_cut [] from 36 to 47 (fun wc => ∃ g2 cap2 w3 o, w3.ownsRow 0 138 129 (.slice (some ⟨g2, 0, none⟩) (S.waits.length + 1) cap2) (S.waits.length + 1) (flatP S.waits ++ pieceCells ((n : Int), bs)) ∧ ((wA.drew).alloc o).grownBy w3 vw.ownBlock ∧ (vw.ownBlock = some g2 ∨ g2 = ((wA.drew).alloc o).heap.size) ∧ wc = w3.setCell ⟨b, 1, none⟩ (.slice (some ⟨g2, 0, none⟩) (S.waits.length + 1) cap2))
    case first =>
      refine wp_region_any (by kernel_rfl) ?_
      try (change wpAny _ _ _ _ _ _ _ (World.drew _))
      refine wpAny_take (i := 0) (oi := ?oiy29) (v := ?vy29) ?hiy29 ?hay29 ?hby29 ?hcy29 ?hqy29 ?hyy29 ?resty29
      case hiy29 => (simp only [List.getElem?_toArray, List.getElem?_cons_zero, List.getElem?_cons_succ]; rfl)
      case hay29 => kernel_rfl
      case hby29 => kernel_rfl
      case hcy29 => kernel_rfl
      case hyy29 => exact Or.inl ⟨by rfl, by (intro w; go_simp; (try with_reducible rfl))⟩
      case hqy29 => exact fun _ _ _ h => h
      try simp only [Act.put, List.setIfInBounds_toArray, List.set_cons_zero, List.set_cons_succ]
      refine wpAny_take (i := 1) (oi := ?oiy30) (v := ?vy30) ?hiy30 ?hay30 ?hby30 ?hcy30 ?hqy30 ?hyy30 ?resty30
      case hiy30 => (simp only [List.getElem?_toArray, List.getElem?_cons_zero, List.getElem?_cons_succ]; rfl)
      case hay30 => kernel_rfl
      case hby30 => kernel_rfl
      case hcy30 => kernel_rfl
      case hyy30 => exact Or.inl ⟨by rfl, by (intro w; go_simp; (try with_reducible rfl))⟩
      case hqy30 => exact fun _ _ _ h => h
      try simp only [Act.put, List.setIfInBounds_toArray, List.set_cons_zero, List.set_cons_succ]
      refine wpAny_take (i := 2) (oi := ?oiy31) (v := ?vy31) ?hiy31 ?hay31 ?hby31 ?hcy31 ?hqy31 ?hyy31 ?resty31
      case hiy31 => (simp only [List.getElem?_toArray, List.getElem?_cons_zero, List.getElem?_cons_succ]; rfl)
      case hay31 => kernel_rfl
      case hby31 => kernel_rfl
      case hcy31 => kernel_rfl
      case hyy31 => exact Or.inl ⟨by rfl, by (intro w; go_simp; (try with_reducible rfl))⟩
      case hqy31 => exact fun _ _ _ h => h
      try simp only [Act.put, List.setIfInBounds_toArray, List.set_cons_zero, List.set_cons_succ]
      refine wpAny_take (i := 3) (oi := ?oiy32) (v := ?vy32) ?hiy32 ?hay32 ?hby32 ?hcy32 ?hqy32 ?hyy32 ?resty32
      case hiy32 => (simp only [List.getElem?_toArray, List.getElem?_cons_zero, List.getElem?_cons_succ]; rfl)
      case hay32 => kernel_rfl
      case hby32 => kernel_rfl
      case hcy32 => kernel_rfl
      case hyy32 => exact Or.inl ⟨by rfl, by (intro w; go_simp; (try with_reducible rfl))⟩
      case hqy32 => exact fun _ _ _ h => h
      try simp only [Act.put, List.setIfInBounds_toArray, List.set_cons_zero, List.set_cons_succ]
      refine wpAny_take (i := 5) (oi := ?oiy33) (v := ?vy33) ?hiy33 ?hay33 ?hby33 ?hcy33 ?hqy33 ?hyy33 ?resty33
      case hiy33 => (simp only [List.getElem?_toArray, List.getElem?_cons_zero, List.getElem?_cons_succ]; rfl)
      case hay33 => kernel_rfl
      case hby33 => kernel_rfl
      case hcy33 => kernel_rfl
      case hyy33 => exact Or.inl ⟨by rfl, by (intro w; go_simp; (try with_reducible rfl))⟩
      case hqy33 => exact fun _ _ _ h => h
      try simp only [Act.put, List.setIfInBounds_toArray, List.set_cons_zero, List.set_cons_succ]
      refine wpAny_ready (rs := [4, 6]) (by kernel_rfl) (by simp) ?_
      refine AllReady.cons (o := ?oiy34f0) ?hiy34f0 (fun K hK => ?stepy34f0) ?morey34f0
      case hiy34f0 => (simp only [List.getElem?_toArray, List.getElem?_cons_zero, List.getElem?_cons_succ]; rfl)
      case stepy34f0 =>
        go_simp
        refine hK _ _ ?_
        clear hK K
        try simp only [Act.put, List.setIfInBounds_toArray, List.set_cons_zero, List.set_cons_succ]
        refine wpAny_ready (rs := [6]) (by kernel_rfl) (by simp) ?_
        refine AllReady.cons (o := ?oiy35f0) ?hiy35f0 (fun K hK => ?stepy35f0) ?morey35f0
        case hiy35f0 => (simp only [List.getElem?_toArray, List.getElem?_cons_zero, List.getElem?_cons_succ]; rfl)
        case stepy35f0 =>
          rw [if_pos (by rfl)]
          refine wp_load_mid 72 (.tmp 5) rfl w.heap.size 0 rfl (u8s bs) _ Hrb.out Tryd.underlying72 rfl hsizeL ?_
          refine hK _ _ ?_
          clear hK K
          try simp only [Act.put, List.setIfInBounds_toArray, List.set_cons_zero, List.set_cons_succ]
          refine wpAny_take (i := 7) (oi := ?oiy36) (v := .agg (pieceCells ((n : Int), bs)).toArray) ?hiy36 ?hay36 ?hby36 ?hcy36 ?hqy36 ?hyy36 ?resty36
          case hiy36 => (simp only [List.getElem?_toArray, List.getElem?_cons_zero, List.getElem?_cons_succ]; rfl)
          case hay36 => kernel_rfl
          case hby36 => kernel_rfl
          case hcy36 => kernel_rfl
          case hyy36 => exact Or.inl ⟨by rfl, fun w' => run_build_op 138 _ rfl _ (by simp only [List.map_toArray, List.map_cons, List.map_nil]; exact Hbuild.out w')⟩
          case hqy36 => exact fun _ _ _ h => h
          try simp only [Act.put, List.setIfInBounds_toArray, List.set_cons_zero, List.set_cons_succ]
          refine wpAny_ready (rs := [8]) (by kernel_rfl) (by simp) ?_
          refine AllReady.cons (o := ?oiy37f0) ?hiy37f0 (fun K hK => ?stepy37f0) ?morey37f0
          case hiy37f0 => (simp only [List.getElem?_toArray, List.getElem?_cons_zero, List.getElem?_cons_succ]; rfl)
          case stepy37f0 =>
            rw [if_pos (by rfl)]
            refine wp_buildSlice 99 138 1 _ rfl (pieceCells ((n : Int), bs)).toArray ip (.agg zeroPiece) Tryd.underlying99 hip hzp (by rw [hsp]; decide) (by rw [hsp]; decide) (by simp only [List.map_toArray, List.map_cons, List.map_nil]; exact piece_slice ((n : Int), bs) hl1 ip (.agg zeroPiece) hsp zeroPiece_size) ?_
            refine hK _ _ ?_
            clear hK K
            try simp only [Act.put, List.setIfInBounds_toArray, List.set_cons_zero, List.set_cons_succ]
            refine wpAny_ready (rs := [9]) (by kernel_rfl) (by simp) ?_
            refine AllReady.cons (o := ?oiy38f0) ?hiy38f0 (fun K hK => ?stepy38f0) ?morey38f0
            case hiy38f0 => (simp only [List.getElem?_toArray, List.getElem?_cons_zero, List.getElem?_cons_succ]; rfl)
            case stepy38f0 =>
              refine step_append_lies _ rfl (.tmp 40) (.tmp 44) 99 rfl 0 138 ip (.agg zeroPiece) 129 136 Tryd.underlying99 hip hzp hsp hbp zeroPiece_size (by decide) vw S.waits.length (flatP S.waits) (by simp [Act.eval]) Hwt.out ⟨wA.heap.size, 0, none⟩ 1 1 (pieceCells ((n : Int), bs)) (by simp [Act.eval]) (pieceCells_len hl1) (World.news_of_block (heap_alloc_new wA _)) (one_piece _) (by omega) (by simp only [maxLen]; omega) (by omega) (Nat.zero_le _) _ rfl ?_
              intro g2 cap2 w3 hown2 hg2 hat2 hlt2
              have Hown2 := Lib.hid hown2
              have Hg2 := Lib.hid hg2
              have Hat2 := Lib.hid hat2
              have hcw3 : w3.cell? ⟨b, 1, none⟩ = some vw := (Hend.out _ _ hg2).cell (i := 1) rfl
              have hfw3 : w3.frozen? ⟨b, 1, none⟩ = false := (Hend.out _ _ hg2).frozen 1
              clear hown2 hg2 hat2 hlt2
              refine hK _ _ ?_
              clear hK K
              try simp only [Act.put, List.setIfInBounds_toArray, List.set_cons_zero, List.set_cons_succ]
              refine wpAny_take (i := 10) (oi := ?oiy39) (v := ?vy39) ?hiy39 ?hay39 ?hby39 ?hcy39 ?hqy39 ?hyy39 ?resty39
              case hiy39 => (simp only [List.getElem?_toArray, List.getElem?_cons_zero, List.getElem?_cons_succ]; rfl)
              case hay39 => kernel_rfl
              case hby39 => kernel_rfl
              case hcy39 => kernel_rfl
              case hyy39 => exact Or.inl ⟨by rfl, by (intro w; go_simp; (try with_reducible rfl))⟩
              case hqy39 => exact fun _ _ _ h => h
              try simp only [Act.put, List.setIfInBounds_toArray, List.set_cons_zero, List.set_cons_succ]
              refine wpAny_take (i := 11) (oi := ?oiy40) (v := ?vy40) ?hiy40 ?hay40 ?hby40 ?hcy40 ?hqy40 ?hyy40 ?resty40
              case hiy40 => (simp only [List.getElem?_toArray, List.getElem?_cons_zero, List.getElem?_cons_succ]; rfl)
              case hay40 => kernel_rfl
              case hby40 => kernel_rfl
              case hcy40 => kernel_rfl
              case hyy40 => exact Or.inl ⟨by rfl, by (intro w; go_simp; (try with_reducible rfl))⟩
              case hqy40 => exact fun _ _ _ h => h
              try simp only [Act.put, List.setIfInBounds_toArray, List.set_cons_zero, List.set_cons_succ]
              refine wpAny_ready (rs := [12]) (by kernel_rfl) (by simp) ?_
              refine AllReady.cons (o := ?oiy41f0) ?hiy41f0 (fun K hK => ?stepy41f0) ?morey41f0
              case hiy41f0 => (simp only [List.getElem?_toArray, List.getElem?_cons_zero, List.getElem?_cons_succ]; rfl)
              case stepy41f0 =>
                go_simp
                refine hK _ _ ?_
                clear hK K
                try simp only [Act.put, List.setIfInBounds_toArray, List.set_cons_zero, List.set_cons_succ]
                clear hcw3 hfw3
                refine wpAny_done (by kernel_rfl) ?_ _
                go_wp2_with fail
                go_meet
                exact ⟨g2, cap2, w3, _, Hown2.out, Hg2.out, Hat2.out, rfl⟩
              case morey41f0 => exact AllReady.nil
            case morey38f0 => exact AllReady.nil
          case morey37f0 => exact AllReady.nil
        case morey35f0 => exact AllReady.nil
      case morey34f0 =>
        refine AllReady.cons (o := ?oiy34f1) ?hiy34f1 (fun K hK => ?stepy34f1) ?morey34f1
        case hiy34f1 => (simp only [List.getElem?_toArray, List.getElem?_cons_zero, List.getElem?_cons_succ]; rfl)
        case stepy34f1 =>
          rw [if_pos (by rfl)]
          refine wp_load_mid 72 (.tmp 5) rfl w.heap.size 0 rfl (u8s bs) _ Hrb.out Tryd.underlying72 rfl hsizeL ?_
          refine hK _ _ ?_
          clear hK K
          try simp only [Act.put, List.setIfInBounds_toArray, List.set_cons_zero, List.set_cons_succ]
          refine wpAny_take (i := 7) (oi := ?oiy43) (v := .agg (pieceCells ((n : Int), bs)).toArray) ?hiy43 ?hay43 ?hby43 ?hcy43 ?hqy43 ?hyy43 ?resty43
          case hiy43 => (simp only [List.getElem?_toArray, List.getElem?_cons_zero, List.getElem?_cons_succ]; rfl)
          case hay43 => kernel_rfl
          case hby43 => kernel_rfl
          case hcy43 => kernel_rfl
          case hyy43 => exact Or.inl ⟨by rfl, fun w' => run_build_op 138 _ rfl _ (by simp only [List.map_toArray, List.map_cons, List.map_nil]; exact Hbuild.out w')⟩
          case hqy43 => exact fun _ _ _ h => h
          try simp only [Act.put, List.setIfInBounds_toArray, List.set_cons_zero, List.set_cons_succ]
          refine wpAny_ready (rs := [4, 8]) (by kernel_rfl) (by simp) ?_
          refine AllReady.cons (o := ?oiy44f0) ?hiy44f0 (fun K hK => ?stepy44f0) ?morey44f0
          case hiy44f0 => (simp only [List.getElem?_toArray, List.getElem?_cons_zero, List.getElem?_cons_succ]; rfl)
          case stepy44f0 =>
            go_simp
            refine hK _ _ ?_
            clear hK K
            try simp only [Act.put, List.setIfInBounds_toArray, List.set_cons_zero, List.set_cons_succ]
            refine wpAny_ready (rs := [8]) (by kernel_rfl) (by simp) ?_
            refine AllReady.cons (o := ?oiy45f0) ?hiy45f0 (fun K hK => ?stepy45f0) ?morey45f0
            case hiy45f0 => (simp only [List.getElem?_toArray, List.getElem?_cons_zero, List.getElem?_cons_succ]; rfl)
            case stepy45f0 =>
              rw [if_pos (by rfl)]
              refine wp_buildSlice 99 138 1 _ rfl (pieceCells ((n : Int), bs)).toArray ip (.agg zeroPiece) Tryd.underlying99 hip hzp (by rw [hsp]; decide) (by rw [hsp]; decide) (by simp only [List.map_toArray, List.map_cons, List.map_nil]; exact piece_slice ((n : Int), bs) hl1 ip (.agg zeroPiece) hsp zeroPiece_size) ?_
              refine hK _ _ ?_
              clear hK K
              try simp only [Act.put, List.setIfInBounds_toArray, List.set_cons_zero, List.set_cons_succ]
              refine wpAny_ready (rs := [9]) (by kernel_rfl) (by simp) ?_
              refine AllReady.cons (o := ?oiy46f0) ?hiy46f0 (fun K hK => ?stepy46f0) ?morey46f0
              case hiy46f0 => (simp only [List.getElem?_toArray, List.getElem?_cons_zero, List.getElem?_cons_succ]; rfl)
              case stepy46f0 =>
                refine step_append_lies _ rfl (.tmp 40) (.tmp 44) 99 rfl 0 138 ip (.agg zeroPiece) 129 136 Tryd.underlying99 hip hzp hsp hbp zeroPiece_size (by decide) vw S.waits.length (flatP S.waits) (by simp [Act.eval]) Hwt.out ⟨wA.heap.size, 0, none⟩ 1 1 (pieceCells ((n : Int), bs)) (by simp [Act.eval]) (pieceCells_len hl1) (World.news_of_block (heap_alloc_new wA _)) (one_piece _) (by omega) (by simp only [maxLen]; omega) (by omega) (Nat.zero_le _) _ rfl ?_
                intro g2 cap2 w3 hown2 hg2 hat2 hlt2
                have Hown2 := Lib.hid hown2
                have Hg2 := Lib.hid hg2
                have Hat2 := Lib.hid hat2
                have hcw3 : w3.cell? ⟨b, 1, none⟩ = some vw := (Hend.out _ _ hg2).cell (i := 1) rfl
                have hfw3 : w3.frozen? ⟨b, 1, none⟩ = false := (Hend.out _ _ hg2).frozen 1
                clear hown2 hg2 hat2 hlt2
                refine hK _ _ ?_
                clear hK K
                try simp only [Act.put, List.setIfInBounds_toArray, List.set_cons_zero, List.set_cons_succ]
                refine wpAny_take (i := 10) (oi := ?oiy47) (v := ?vy47) ?hiy47 ?hay47 ?hby47 ?hcy47 ?hqy47 ?hyy47 ?resty47
                case hiy47 => (simp only [List.getElem?_toArray, List.getElem?_cons_zero, List.getElem?_cons_succ]; rfl)
                case hay47 => kernel_rfl
                case hby47 => kernel_rfl
                case hcy47 => kernel_rfl
                case hyy47 => exact Or.inl ⟨by rfl, by (intro w; go_simp; (try with_reducible rfl))⟩
                case hqy47 => exact fun _ _ _ h => h
                try simp only [Act.put, List.setIfInBounds_toArray, List.set_cons_zero, List.set_cons_succ]
                refine wpAny_take (i := 11) (oi := ?oiy48) (v := ?vy48) ?hiy48 ?hay48 ?hby48 ?hcy48 ?hqy48 ?hyy48 ?resty48
                case hiy48 => (simp only [List.getElem?_toArray, List.getElem?_cons_zero, List.getElem?_cons_succ]; rfl)
                case hay48 => kernel_rfl
                case hby48 => kernel_rfl
                case hcy48 => kernel_rfl
                case hyy48 => exact Or.inl ⟨by rfl, by (intro w; go_simp; (try with_reducible rfl))⟩
                case hqy48 => exact fun _ _ _ h => h
                try simp only [Act.put, List.setIfInBounds_toArray, List.set_cons_zero, List.set_cons_succ]
                refine wpAny_ready (rs := [12]) (by kernel_rfl) (by simp) ?_
                refine AllReady.cons (o := ?oiy49f0) ?hiy49f0 (fun K hK => ?stepy49f0) ?morey49f0
                case hiy49f0 => (simp only [List.getElem?_toArray, List.getElem?_cons_zero, List.getElem?_cons_succ]; rfl)
                case stepy49f0 =>
                  go_simp
                  refine hK _ _ ?_
                  clear hK K
                  try simp only [Act.put, List.setIfInBounds_toArray, List.set_cons_zero, List.set_cons_succ]
                  clear hcw3 hfw3
                  refine wpAny_done (by kernel_rfl) ?_ _
                  go_wp2_with fail
                  go_meet
                  exact ⟨g2, cap2, w3, _, Hown2.out, Hg2.out, Hat2.out, rfl⟩
                case morey49f0 => exact AllReady.nil
              case morey46f0 => exact AllReady.nil
            case morey45f0 => exact AllReady.nil
          case morey44f0 =>
            refine AllReady.cons (o := ?oiy44f1) ?hiy44f1 (fun K hK => ?stepy44f1) ?morey44f1
            case hiy44f1 => (simp only [List.getElem?_toArray, List.getElem?_cons_zero, List.getElem?_cons_succ]; rfl)
            case stepy44f1 =>
              rw [if_pos (by rfl)]
              refine wp_buildSlice 99 138 1 _ rfl (pieceCells ((n : Int), bs)).toArray ip (.agg zeroPiece) Tryd.underlying99 hip hzp (by rw [hsp]; decide) (by rw [hsp]; decide) (by simp only [List.map_toArray, List.map_cons, List.map_nil]; exact piece_slice ((n : Int), bs) hl1 ip (.agg zeroPiece) hsp zeroPiece_size) ?_
              refine hK _ _ ?_
              clear hK K
              try simp only [Act.put, List.setIfInBounds_toArray, List.set_cons_zero, List.set_cons_succ]
              refine wpAny_ready (rs := [4]) (by kernel_rfl) (by simp) ?_
              refine AllReady.cons (o := ?oiy51f0) ?hiy51f0 (fun K hK => ?stepy51f0) ?morey51f0
              case hiy51f0 => (simp only [List.getElem?_toArray, List.getElem?_cons_zero, List.getElem?_cons_succ]; rfl)
              case stepy51f0 =>
                go_simp
                refine hK _ _ ?_
                clear hK K
                try simp only [Act.put, List.setIfInBounds_toArray, List.set_cons_zero, List.set_cons_succ]
                refine wpAny_ready (rs := [9]) (by kernel_rfl) (by simp) ?_
                refine AllReady.cons (o := ?oiy52f0) ?hiy52f0 (fun K hK => ?stepy52f0) ?morey52f0
                case hiy52f0 => (simp only [List.getElem?_toArray, List.getElem?_cons_zero, List.getElem?_cons_succ]; rfl)
                case stepy52f0 =>
                  refine step_append_lies _ rfl (.tmp 40) (.tmp 44) 99 rfl 0 138 ip (.agg zeroPiece) 129 136 Tryd.underlying99 hip hzp hsp hbp zeroPiece_size (by decide) vw S.waits.length (flatP S.waits) (by simp [Act.eval]) Hwt.out ⟨wA.heap.size, 0, none⟩ 1 1 (pieceCells ((n : Int), bs)) (by simp [Act.eval]) (pieceCells_len hl1) (World.news_of_block (heap_alloc_new wA _)) (one_piece _) (by omega) (by simp only [maxLen]; omega) (by omega) (Nat.zero_le _) _ rfl ?_
                  intro g2 cap2 w3 hown2 hg2 hat2 hlt2
                  have Hown2 := Lib.hid hown2
                  have Hg2 := Lib.hid hg2
                  have Hat2 := Lib.hid hat2
                  have hcw3 : w3.cell? ⟨b, 1, none⟩ = some vw := (Hend.out _ _ hg2).cell (i := 1) rfl
                  have hfw3 : w3.frozen? ⟨b, 1, none⟩ = false := (Hend.out _ _ hg2).frozen 1
                  clear hown2 hg2 hat2 hlt2
                  refine hK _ _ ?_
                  clear hK K
                  try simp only [Act.put, List.setIfInBounds_toArray, List.set_cons_zero, List.set_cons_succ]
                  refine wpAny_take (i := 10) (oi := ?oiy53) (v := ?vy53) ?hiy53 ?hay53 ?hby53 ?hcy53 ?hqy53 ?hyy53 ?resty53
                  case hiy53 => (simp only [List.getElem?_toArray, List.getElem?_cons_zero, List.getElem?_cons_succ]; rfl)
                  case hay53 => kernel_rfl
                  case hby53 => kernel_rfl
                  case hcy53 => kernel_rfl
                  case hyy53 => exact Or.inl ⟨by rfl, by (intro w; go_simp; (try with_reducible rfl))⟩
                  case hqy53 => exact fun _ _ _ h => h
                  try simp only [Act.put, List.setIfInBounds_toArray, List.set_cons_zero, List.set_cons_succ]
                  refine wpAny_take (i := 11) (oi := ?oiy54) (v := ?vy54) ?hiy54 ?hay54 ?hby54 ?hcy54 ?hqy54 ?hyy54 ?resty54
                  case hiy54 => (simp only [List.getElem?_toArray, List.getElem?_cons_zero, List.getElem?_cons_succ]; rfl)
                  case hay54 => kernel_rfl
                  case hby54 => kernel_rfl
                  case hcy54 => kernel_rfl
                  case hyy54 => exact Or.inl ⟨by rfl, by (intro w; go_simp; (try with_reducible rfl))⟩
                  case hqy54 => exact fun _ _ _ h => h
                  try simp only [Act.put, List.setIfInBounds_toArray, List.set_cons_zero, List.set_cons_succ]
                  refine wpAny_ready (rs := [12]) (by kernel_rfl) (by simp) ?_
                  refine AllReady.cons (o := ?oiy55f0) ?hiy55f0 (fun K hK => ?stepy55f0) ?morey55f0
                  case hiy55f0 => (simp only [List.getElem?_toArray, List.getElem?_cons_zero, List.getElem?_cons_succ]; rfl)
                  case stepy55f0 =>
                    go_simp
                    refine hK _ _ ?_
                    clear hK K
                    try simp only [Act.put, List.setIfInBounds_toArray, List.set_cons_zero, List.set_cons_succ]
                    clear hcw3 hfw3
                    refine wpAny_done (by kernel_rfl) ?_ _
                    go_wp2_with fail
                    go_meet
                    exact ⟨g2, cap2, w3, _, Hown2.out, Hg2.out, Hat2.out, rfl⟩
                  case morey55f0 => exact AllReady.nil
                case morey52f0 => exact AllReady.nil
              case morey51f0 => exact AllReady.nil
            case morey44f1 => exact AllReady.nil
        case morey34f1 => exact AllReady.nil
    case rest =>
      obtain ⟨g2, cap2, w3, o, hown2, hg2, hat2, rfl⟩ := hcut
      obtain ⟨hO3, hb3, hs3, hend⟩ := pput_end (left := lf) (o := o) (w3 := w3) Hwf.out Hn.out Hb.out Hh.out Hfin.out Hleft.out.1 Hleft.out.2 HA.out HOA.out HsA.out ⟨hg2.os, hg2.tape, hg2.output, hg2.size, hg2.block⟩ hown2 (fun k hk => by
        cases hk
        rcases hat2 with e | e
        · exact Or.inl e
        · right; rw [e, nblk_alloc]; exact Nat.le_succ_of_le HOA.out.size)
      have hsb : sb ≠ b := hs3.ne hb3 (by decide)
      obtain ⟨m, hm⟩ : ∃ m, m = S.waits.length := ⟨_, rfl⟩
      obtain ⟨w4, hw4⟩ : ∃ w4, w4 = w3.setCell ⟨b, 1, none⟩ (.slice (some ⟨g2, 0, none⟩) (S.waits.length + 1) cap2) := ⟨_, rfl⟩
      have hb4 := hb3.set 1 (.slice (some ⟨g2, 0, none⟩) (S.waits.length + 1) cap2)
      have hs4 := hs3.setOther (a := ⟨b, 1, none⟩) hsb (.slice (some ⟨g2, 0, none⟩) (S.waits.length + 1) cap2)
      rw [← hw4] at hb4 hs4 hend ⊢
      have hc41 : w4.cell? ⟨b, 1, none⟩ = some (.slice (some ⟨g2, 0, none⟩) (m + 1) cap2) := by rw [hm]; exact hb4.cell (i := 1) rfl
      have hcs := hs4.cell (Hh.out.secs.last n Hn.out)
      have hfs := hs4.frozen (n * 130 + 129)
      have hO4 : Only F w1 w4 := by rw [hw4]; exact hO3.set (Or.inr hFb) _
      have hz4 : w4.heap.size = w3.heap.size := by rw [hw4, nblk_setCell]
      rw [← hm] at hend hmany
      obtain ⟨w5, hw5⟩ : ∃ w5, w5 = w4.setCell ⟨sb, n * 130 + 129, none⟩ (.int .i64 ((m : Int) + 1)) := ⟨_, rfl⟩
      have hc55 : (w4.setCell ⟨sb, n * 130 + 129, none⟩ (.int .i64 ((m : Int) + 1))).cell? ⟨b, 5, none⟩ = some (.pointer (some ⟨mb, 0, none⟩)) := hend.head.cell (i := 5) rfl
      rw [← hw5] at hend
      have hO5 : Only F w1 w5 := by rw [hw5]; exact hO4.set (Or.inr Hh.out.fs) _
      have hz5 : w5.heap.size = w3.heap.size := by rw [hw5, nblk_setCell, hz4]
      have hwf5 := Hwf.out.put Hn.out Hb.out
      have Hw5 := Lib.hid hw5
      have hcnt := dcount_is (More F w1 w3) w5 b (S.put n bs) 0 (S.put n bs).waits sb mb _ _ c L hwf5 hend 1 (by omega) 2 rfl
      have Hcl := Lib.hid (show ∀ k, More F w1 w3 k → k < w5.heap.size by
        intro k hk
        rw [hz5]
        rcases hk with hk | hk
        · exact Nat.lt_of_lt_of_le (Hfin.out k hk) hO3.size
        · exact hk.2)
      have Hoff := Lib.hid (show ((S.put n bs).count 1).off = false from Ho.out)
      have Hz5 := Lib.hid hz5
      have Hwf5 := Lib.hid hwf5
      have Hm := Lib.hid hm
      have HO5 := Lib.hid hO5
      have Hend5 := Lib.hid hend
      clear hend hwf5 hw5 hz5 hw4 hz4 hO5 hO4 hm hb3 hs3 hb4 hs4 hown2 hg2 hat2 hc1A hc1B hc1C Hrb Hwt Hend HA HsA HOA hO3
      go_wp2_with fail
      rw [← Hw5.out]
      refine hcnt.mono ?_
      rintro e w6 ⟨rfl, ⟨L', h6⟩, hg6⟩
      obtain ⟨hp6, hO6⟩ := count_back Hwf5.out (Or.inl hFb) Hcl.out h6 hg6
      go_wp2_with fail
      refine (dspend_is _ _ _ _ hp6 Hoff.out).mono ?_
      rintro e w7 ⟨rfl, hp7, hO7⟩
      go_wp2
      go_ret
      refine ⟨rfl, hp7.mono' (fun k hk => ?_) (fun k hk => ?_), ?_⟩
      · rcases hk with hk | hk
        · exact Or.inl hk
        · refine Or.inr ⟨Nat.le_trans hb1.size hk.1, ?_⟩
          have := hO6.size; have := hO7.size; have := Hz5.out; omega
      · rcases hk with hk | hk
        · have := hF0 k hk; have := hb1.size; have := HO5.out.size; have := hO6.size; have := hO7.size; omega
        · exact hk.2
      · have e1 : Only F w w5 := (Only.of_below (F := F) hb1).trans HO5.out (fun _ _ h => h)
        have drop : ∀ k, k < w.heap.size → More F w1 w3 k → F k := fun k hk hm => by
          rcases hm with hm | hm
          · exact hm
          · have := hb1.size; omega
        exact (e1.trans hO6 drop).trans hO7 drop
end
end Go.Proofs.YteliebinhdphlaaDoor

/- The program's disk: what is kept of a piece. -/
namespace Go.Proofs.YteliebinhdphlaaDoor
set_option maxRecDepth 100000
open Go.RowKit Go.Deep
set_option linter.unusedSimpArgs false
set_option linter.unusedVariables false

/-- A sector's cells with a new row, in use. -/
def keptIn (vs : List Value) (n : Nat) (new : List Int) : List Value := (vs.take (n * 130) ++ u8s new ++ vs.drop (n * 130 + 128)).set (n * 130 + 128) (.bool true)
theorem keptIn_len {vs : List Value} {n : Nat} {new : List Int} (h : n * 130 + 130 ≤ vs.length) (hn : new.length = 128) : (keptIn vs n new).length = vs.length := by
  unfold keptIn
  rw [List.length_set, List.length_append, List.length_append, List.length_take, List.length_drop, List.length_map, hn]
  omega
theorem keptIn_at {vs : List Value} {n : Nat} {new : List Int} (h : n * 130 + 130 ≤ vs.length) (hn : new.length = 128) (x : Nat) :
    (keptIn vs n new)[x]? = if x = n * 130 + 128 then some (.bool true) else if n * 130 ≤ x ∧ x < n * 130 + 128 then (u8s new)[x - n * 130]? else vs[x]? := by
  have hl : (u8s new).length = 128 := by rw [List.length_map, hn]
  unfold keptIn
  rw [set_at _ _ _ _ (by rw [List.length_append, List.length_append, List.length_take, List.length_drop, hl]; omega)]
  have := put_at vs (u8s new) (n * 130) x (by rw [hl]; omega)
  rw [hl] at this
  rw [this]

theorem keep_end {w : World} {sb n : Nat} {vs : List Value} {new : List Int} (hs : Blk w sb 103 vs) (h : n * 130 + 130 ≤ vs.length) (hn : new.length = 128) :
    Blk ((w.setCells sb (n * 130) (u8s new)).setCell ⟨sb, n * 130 + 128, none⟩ (.bool true)) sb 103 (keptIn vs n new) := by
  have h1 := setCells_blk (u8s new) (n * 130) w vs hs (by rw [List.length_map, hn]; omega)
  rw [show (u8s new).length = 128 by rw [List.length_map, hn]] at h1
  exact h1.set (n * 130 + 128) (.bool true)

/-- Nothing is kept. -/
theorem dkeep_none (w : World) (p : Addr) (bs : List Int) :
    Calls Tryd.prog 71 #[.pointer (some p), .agg (u8s bs).toArray, .int .i64 0] w fun e w' => e = .returned (.tuple #[]) ∧ Only Nothing w w' := by
  obtain ⟨w1, hw1⟩ : ∃ w1, w1 = w.alloc (.cells (u8s bs).toArray 72) := ⟨_, rfl⟩
  have hb1 : Below w.heap.size w w1 := by rw [hw1]; exact below_alloc _ _
  have Hw1 := Lib.hid hw1
  clear hw1
  go_enter Tryd.func71, Tryd.ntmps71
  go_wp2_with fail
  rw [← Hw1.out]
  go_wp2
  exact bodyPost_ret (results_none rfl _ _ _) rfl ⟨rfl, Only.of_below hb1⟩

set_option maxRecDepth 100000 in
set_option maxHeartbeats 1600000 in
/-- All is kept. -/
theorem dkeep_whole (w : World) (sb n m : Nat) (vs : List Value) (bs : List Int) (hs : Blk w sb 103 vs) (hv : n * 130 + 130 ≤ vs.length) (hb : bs.length = 128) (hm : 128 ≤ m) (hm2 : m < 256) :
    Calls Tryd.prog 71 #[.pointer (some ⟨sb, n * 130, none⟩), .agg (u8s bs).toArray, .int .i64 (m : Int)] w fun e w' => e = .returned (.tuple #[]) ∧ Blk w' sb 103 (keptIn vs n bs) ∧ Only (fun k => k = sb) w w' := by
  obtain ⟨w1, hw1⟩ : ∃ w1, w1 = w.alloc (.cells (u8s bs).toArray 72) := ⟨_, rfl⟩
  have hbx : Blk w1 w.heap.size 72 (u8s bs) := by rw [hw1]; exact box_new w bs
  have hb1 : Below w.heap.size w w1 := by rw [hw1]; exact below_alloc _ _
  have hs1 := hs.kept (hb1.block _ hs.lt)
  have Hw1 := Lib.hid hw1
  have hsizeL : (Tryd.prog.info? 72).map (·.size) = some (u8s bs).length := by rw [size_arr, List.length_map, hb]
  have hsizeA : (Tryd.prog.info? 72).map (·.size) = some (u8s bs).toArray.size := by rw [size_arr, List.size_toArray, List.length_map, hb]
  have Hthere := Lib.hid (show w1.there sb (n * 130) (u8s bs).toArray.size from fun j hj => by
    rw [List.size_toArray, List.length_map, hb] at hj
    exact ⟨by rw [hs1.cell (List.getElem?_eq_getElem (show n * 130 + j < vs.length by omega))]; rfl, hs1.frozen _⟩)
  have Hrange := Lib.hid hbx.range
  obtain ⟨w2, hw2⟩ : ∃ w2, w2 = w1.setCells sb (n * 130) (u8s bs) := ⟨_, rfl⟩
  have hs2 : Blk w2 sb 103 (vs.take (n * 130) ++ u8s bs ++ vs.drop (n * 130 + (u8s bs).length)) := by
    rw [hw2]; exact setCells_blk (u8s bs) (n * 130) w1 vs hs1 (by rw [List.length_map, hb]; omega)
  have hcu : ∃ u, w2.cell? ⟨sb, n * 130 + 128, none⟩ = some u := ⟨_, hs2.cell (List.getElem?_eq_getElem (by
    rw [List.length_append, List.length_append, List.length_take, List.length_drop, List.length_map, hb]; omega))⟩
  obtain ⟨u, hcu⟩ := hcu
  have hfu := hs2.frozen (n * 130 + 128)
  have Hfin := Lib.hid (show Blk (w2.setCell ⟨sb, n * 130 + 128, none⟩ (.bool true)) sb 103 (keptIn vs n bs) ∧ Only (fun k => k = sb) w (w2.setCell ⟨sb, n * 130 + 128, none⟩ (.bool true)) by
    rw [hw2]
    exact ⟨keep_end hs1 hv hb, ((Only.of_below hb1).trans (setCells_only (F := fun k => k = sb) w1 (rb := sb) rfl _ _) (fun _ _ h => h)).set (Or.inr rfl) _⟩)
  have Hw2 := Lib.hid hw2
  have hd : ((m : Int) == 0) = false := by simp; omega
  have hd1 : decide ((m : Int) = 0) = false := decide_eq_false (by omega)
  have hd2 : decide ((m : Int) < 128) = false := decide_eq_false (by omega)
  clear hw1 hs1 hw2 hs2 hbx hs hm hm2
  go_enter Tryd.func71, Tryd.ntmps71
  go_upto_region 1 with fail
  rw [← Hw1.out]
  go_wp2_with (first
    | (refine wpList_load_mid rfl 72 (.tmp 4) rfl w.heap.size 0 rfl (u8s bs) _ Hrange.out Tryd.underlying72 rfl hsizeL ?_)
    | (refine wpList_store_mid rfl 72 (.tmp 21) (.tmp 19) rfl sb (n * 130) (u8s bs).toArray rfl rfl Hthere.out hsizeA (all_oneCell_toArray (one_u8s _)) ?_; rw [show (u8s bs).toArray.toList = u8s bs from rfl, ← Hw2.out]))
  go_end0
  exact ⟨rfl, Hfin.out⟩

/-- Of a piece the first m bytes are kept. -/
def partOf (m : Nat) (bs old : List Int) : List Int := bs.take m ++ old.drop m
theorem partOf_len {m : Nat} {bs old : List Int} (hb : bs.length = 128) (ho : old.length = 128) (hm : m ≤ 128) : (partOf m bs old).length = 128 := by
  unfold partOf; rw [List.length_append, List.length_take, List.length_drop]; omega

set_option maxRecDepth 100000 in
set_option maxHeartbeats 3200000 in
/-- A part is kept. -/
theorem dkeep_part (w : World) (sb n m : Nat) (vs : List Value) (bs old : List Int) (hs : Blk w sb 103 vs) (hv : n * 130 + 130 ≤ vs.length) (hb : bs.length = 128) (hold : old.length = 128) (hrow : ∀ (j : Nat) (u : Int), old[j]? = some u → vs[n * 130 + j]? = some (.int .u8 u)) (hm0 : 0 < m) (hm : m < 128) :
    Calls Tryd.prog 71 #[.pointer (some ⟨sb, n * 130, none⟩), .agg (u8s bs).toArray, .int .i64 (m : Int)] w fun e w' => e = .returned (.tuple #[]) ∧ Blk w' sb 103 (keptIn vs n (partOf m bs old)) ∧ Only (fun k => k = sb) w w' := by
  obtain ⟨w1, hw1⟩ : ∃ w1, w1 = w.alloc (.cells (u8s bs).toArray 72) := ⟨_, rfl⟩
  have hbx : Blk w1 w.heap.size 72 (u8s bs) := by rw [hw1]; exact box_new w bs
  have hb1 : Below w.heap.size w w1 := by rw [hw1]; exact below_alloc _ _
  have hs1 := hs.kept (hb1.block _ hs.lt)
  have hne : sb ≠ w.heap.size := by have := hs.lt; omega
  have hpl := partOf_len hb hold (show m ≤ 128 by omega)
  obtain ⟨ns, hns⟩ : ∃ ns, ns = partOf m bs old := ⟨_, rfl⟩
  rw [← hns] at hpl ⊢
  -- what is copied
  have hcl : (u8s (old.drop m)).length = 128 - m := by rw [List.length_map, List.length_drop, hold]
  have hcopy : (Builtin.copy_ #[22, 22] 3 #[.slice (some ⟨w.heap.size, m, none⟩) (128 - m) (128 - m), .slice (some ⟨sb, n * 130 + m, none⟩) (128 - m) (128 - m)]).run Tryd.prog w1.drew = .ok (goInt (u8s (old.drop m)).length) (w1.drew.setCells w.heap.size m (u8s (old.drop m))) := by
    refine run_copy_cells w1.drew _ _ _ 5 _ _ _ _ _ _ _ _ Tryd.underlying22 (by kernel_rfl) (by rw [hcl]; simp) ?_ ?_ (fun j _ => hbx.frozen _) (one_u8s _)
    · intro j v hj
      rw [List.getElem?_map, List.getElem?_drop] at hj
      obtain ⟨u, hu, rfl⟩ := Option.map_eq_some_iff.1 hj
      rw [Addr.add_mid, show n * 130 + m + j = n * 130 + (m + j) by omega]
      exact hs1.cell (hrow _ _ hu)
    · intro j hj
      rw [hcl] at hj
      rw [show w1.drew.cell? ⟨w.heap.size, m + j, none⟩ = some _ from hbx.cell (List.getElem?_eq_getElem (show m + j < (u8s bs).length by rw [List.length_map, hb]; omega))]; rfl
  obtain ⟨w2, hw2⟩ : ∃ w2, w2 = w1.drew.setCells w.heap.size m (u8s (old.drop m)) := ⟨_, rfl⟩
  have hbx2 : Blk w2 w.heap.size 72 (u8s ns) := by
    have := setCells_blk (u8s (old.drop m)) m w1.drew (u8s bs) hbx (by rw [hcl, List.length_map, hb]; omega)
    rw [show List.drop (m + (u8s (List.drop m old)).length) (u8s bs) = [] from List.drop_of_length_le (by rw [hcl, List.length_map, hb]; omega), List.append_nil] at this
    rw [hw2, hns]
    unfold partOf
    show Blk _ _ _ ((bs.take m ++ old.drop m).map (Value.int .u8))
    rw [List.map_append, List.map_take]; exact this
  have hs2 : Blk w2 sb 103 vs := by
    rw [hw2]; exact hs1.kept (setCells_other _ _ _ _ _ hne)
  have hO2 : Only (fun k => k = sb) w w2 := by
    have h1 := setCells_only (F := fun k => k = w.heap.size) w1.drew (rb := w.heap.size) rfl (u8s (old.drop m)) m
    rw [← hw2] at h1
    exact (Only.of_below (F := fun k => k = sb) hb1).trans (w' := w1) ⟨h1.os, h1.tape, h1.output, h1.size, h1.block⟩ (fun k hk e => by omega)
  rw [← hw2] at hcopy
  have hsizeL : (Tryd.prog.info? 72).map (·.size) = some (u8s ns).length := by rw [size_arr, List.length_map, hpl]
  have hsizeA : (Tryd.prog.info? 72).map (·.size) = some (u8s ns).toArray.size := by rw [size_arr, List.size_toArray, List.length_map, hpl]
  have Hthere := Lib.hid (show w2.there sb (n * 130) (u8s ns).toArray.size from fun j hj => by
    rw [List.size_toArray, List.length_map, hpl] at hj
    exact ⟨by rw [hs2.cell (List.getElem?_eq_getElem (show n * 130 + j < vs.length by omega))]; rfl, hs2.frozen _⟩)
  have Hrange := Lib.hid hbx2.range
  obtain ⟨w3, hw3⟩ : ∃ w3, w3 = w2.setCells sb (n * 130) (u8s ns) := ⟨_, rfl⟩
  have hs3 : Blk w3 sb 103 (vs.take (n * 130) ++ u8s ns ++ vs.drop (n * 130 + (u8s ns).length)) := by
    rw [hw3]; exact setCells_blk (u8s ns) (n * 130) w2 vs hs2 (by rw [List.length_map, hpl]; omega)
  obtain ⟨u, hcu⟩ : ∃ u, w3.cell? ⟨sb, n * 130 + 128, none⟩ = some u := ⟨_, hs3.cell (List.getElem?_eq_getElem (by
    rw [List.length_append, List.length_append, List.length_take, List.length_drop, List.length_map, hpl]; omega))⟩
  have hfu := hs3.frozen (n * 130 + 128)
  have Hfin := Lib.hid (show Blk (w3.setCell ⟨sb, n * 130 + 128, none⟩ (.bool true)) sb 103 (keptIn vs n ns) ∧ Only (fun k => k = sb) w (w3.setCell ⟨sb, n * 130 + 128, none⟩ (.bool true)) by
    rw [hw3]
    exact ⟨keep_end hs2 hv hpl, (hO2.trans (setCells_only (F := fun k => k = sb) w2 (rb := sb) rfl _ _) (fun _ _ h => h)).set (Or.inr rfl) _⟩)
  have Hw1 := Lib.hid hw1
  have Hw2 := Lib.hid hw2
  have Hw3 := Lib.hid hw3
  have Hcopy := Lib.hid hcopy
  have hd : ((m : Int) == 0) = false := by simp; omega
  have hd1 : decide ((m : Int) = 0) = false := decide_eq_false (by omega)
  have hd2 : decide ((m : Int) < 128) = true := decide_eq_true (by omega)
  have hmI0 : (0 : Int) ≤ (m : Int) := by omega
  have hmI1 : (m : Int) ≤ 128 := by omega
  have hmne : ¬ 128 = m := by omega
  clear hw1 hs1 hw2 hs2 hs3 hbx hbx2 hs hw3 hcopy hO2 hcl hns
  go_enter Tryd.func71, Tryd.ntmps71
  go_wp2_with fail
  rw [← Hw1.out]
  go_upto_region 3 with fail
  refine wp_region_any (by kernel_rfl) ?_
  try (change wpAny _ _ _ _ _ _ _ (World.drew _))
  refine wpAny_take (i := 0) (oi := ?oiy1) (v := ?vy1) ?hiy1 ?hay1 ?hby1 ?hcy1 ?hqy1 ?hyy1 ?resty1
  case hiy1 => (simp only [List.getElem?_toArray, List.getElem?_cons_zero, List.getElem?_cons_succ]; rfl)
  case hay1 => kernel_rfl
  case hby1 => kernel_rfl
  case hcy1 => kernel_rfl
  case hyy1 => exact Or.inl ⟨by rfl, by (intro w; go_simp; (try with_reducible rfl))⟩
  case hqy1 => exact fun _ _ _ h => h
  try simp only [Act.put, List.setIfInBounds_toArray, List.set_cons_zero, List.set_cons_succ]
  refine wpAny_take (i := 1) (oi := ?oiy2) (v := ?vy2) ?hiy2 ?hay2 ?hby2 ?hcy2 ?hqy2 ?hyy2 ?resty2
  case hiy2 => (simp only [List.getElem?_toArray, List.getElem?_cons_zero, List.getElem?_cons_succ]; rfl)
  case hay2 => kernel_rfl
  case hby2 => kernel_rfl
  case hcy2 => kernel_rfl
  case hyy2 => exact Or.inl ⟨by rfl, by (intro w; go_simp; (try with_reducible rfl))⟩
  case hqy2 => exact fun _ _ _ h => h
  try simp only [Act.put, List.setIfInBounds_toArray, List.set_cons_zero, List.set_cons_succ]
  refine wpAny_take (i := 2) (oi := ?oiy3) (v := ?vy3) ?hiy3 ?hay3 ?hby3 ?hcy3 ?hqy3 ?hyy3 ?resty3
  case hiy3 => (simp only [List.getElem?_toArray, List.getElem?_cons_zero, List.getElem?_cons_succ]; rfl)
  case hay3 => kernel_rfl
  case hby3 => kernel_rfl
  case hcy3 => kernel_rfl
  case hyy3 => exact Or.inl ⟨by rfl, by (intro w; go_simp; (try with_reducible rfl))⟩
  case hqy3 => exact fun _ _ _ h => h
  try simp only [Act.put, List.setIfInBounds_toArray, List.set_cons_zero, List.set_cons_succ]
  refine wpAny_take (i := 3) (oi := ?oiy4) (v := ?vy4) ?hiy4 ?hay4 ?hby4 ?hcy4 ?hqy4 ?hyy4 ?resty4
  case hiy4 => (simp only [List.getElem?_toArray, List.getElem?_cons_zero, List.getElem?_cons_succ]; rfl)
  case hay4 => kernel_rfl
  case hby4 => kernel_rfl
  case hcy4 => kernel_rfl
  case hyy4 => exact Or.inl ⟨by rfl, by (intro w; go_simp; (try with_reducible rfl))⟩
  case hqy4 => exact fun _ _ _ h => h
  try simp only [Act.put, List.setIfInBounds_toArray, List.set_cons_zero, List.set_cons_succ]
  refine wpAny_take (i := 4) (oi := ?oiy5) (v := ?vy5) ?hiy5 ?hay5 ?hby5 ?hcy5 ?hqy5 ?hyy5 ?resty5
  case hiy5 => (simp only [List.getElem?_toArray, List.getElem?_cons_zero, List.getElem?_cons_succ]; rfl)
  case hay5 => kernel_rfl
  case hby5 => kernel_rfl
  case hcy5 => kernel_rfl
  case hyy5 => exact Or.inl ⟨by rfl, by (intro w; go_simp; (try with_reducible rfl))⟩
  case hqy5 => exact fun _ _ _ h => h
  try simp only [Act.put, List.setIfInBounds_toArray, List.set_cons_zero, List.set_cons_succ]
  refine wpAny_take (i := 5) (oi := ?oiy6) (v := ?vy6) ?hiy6 ?hay6 ?hby6 ?hcy6 ?hqy6 ?hyy6 ?resty6
  case hiy6 => (simp only [List.getElem?_toArray, List.getElem?_cons_zero, List.getElem?_cons_succ]; rfl)
  case hay6 => kernel_rfl
  case hby6 => kernel_rfl
  case hcy6 => kernel_rfl
  case hyy6 => exact Or.inl ⟨by rfl, by (intro w; go_simp; (try with_reducible rfl))⟩
  case hqy6 => exact fun _ _ _ h => h
  try simp only [Act.put, List.setIfInBounds_toArray, List.set_cons_zero, List.set_cons_succ]
  refine wpAny_take (i := 6) (oi := ?oiy7) (v := ?vy7) ?hiy7 ?hay7 ?hby7 ?hcy7 ?hqy7 ?hyy7 ?resty7
  case hiy7 => (simp only [List.getElem?_toArray, List.getElem?_cons_zero, List.getElem?_cons_succ]; rfl)
  case hay7 => kernel_rfl
  case hby7 => kernel_rfl
  case hcy7 => kernel_rfl
  case hyy7 => exact Or.inl ⟨by rfl, by (intro w; go_simp; (try with_reducible rfl))⟩
  case hqy7 => exact fun _ _ _ h => h
  try simp only [Act.put, List.setIfInBounds_toArray, List.set_cons_zero, List.set_cons_succ]
  refine wpAny_ready (rs := [7]) (by kernel_rfl) (by simp) ?_
  refine AllReady.cons (o := ?oiy8f0) ?hiy8f0 (fun K hK => ?stepy8f0) ?morey8f0
  case hiy8f0 => (simp only [List.getElem?_toArray, List.getElem?_cons_zero, List.getElem?_cons_succ]; rfl)
  case stepy8f0 =>
    refine step_copy rfl (.tmp 11) (.tmp 16) 22 22 rfl _ _ (by simp [Act.eval]) (by simp [Act.eval]) Hcopy.out ?_
    refine hK _ _ ?_
    clear hK K
    try simp only [Act.put, List.setIfInBounds_toArray, List.set_cons_zero, List.set_cons_succ]
    refine wpAny_done (by kernel_rfl) ?_ _
    go_wp2_with (first
      | (refine wpList_load_mid rfl 72 (.tmp 4) rfl w.heap.size 0 rfl (u8s ns) _ Hrange.out Tryd.underlying72 rfl hsizeL ?_)
      | (refine wpList_store_mid rfl 72 (.tmp 21) (.tmp 19) rfl sb (n * 130) (u8s ns).toArray rfl rfl Hthere.out hsizeA (all_oneCell_toArray (one_u8s _)) ?_; rw [show (u8s ns).toArray.toList = u8s ns from rfl, ← Hw3.out]))
    go_end0
    exact ⟨rfl, Hfin.out⟩
  case morey8f0 => exact AllReady.nil
end Go.Proofs.YteliebinhdphlaaDoor

/- The program's disk: what settles, piece by piece. -/
namespace Go.Proofs.YteliebinhdphlaaDoor
set_option maxRecDepth 100000
open Go.RowKit Go.Deep
set_option linter.unusedSimpArgs false
set_option linter.unusedVariables false

/-- The disk behind the first k of its pieces. -/
def DS.mid (S : DS) (cs : List Int) (k : Nat) : DS := { S.crashTo cs k with waits := S.waits.drop k }
theorem mid_zero (S : DS) (cs : List Int) : S.mid cs 0 = S := by cases S; rfl
theorem DWf.crashTo {S : DS} (h : DWf S) (cs : List Int) (k : Nat) : DWf (S.crashTo cs k) := by
  induction k with
  | zero => exact h
  | succ k ih =>
    unfold DS.crashTo
    split
    · next p hp =>
      exact ih.crash1 (by rw [(crashTo_same S cs k).1]; exact List.mem_of_getElem? hp) (cutAt_le _ _)
    · exact ih
theorem DWf.mid {S : DS} (h : DWf S) (cs : List Int) (k : Nat) : DWf (S.mid cs k) := by
  have h1 := h.crashTo cs k
  refine ⟨h1.n1, h1.n2, h1.ninn, h1.rows, fun p hp => h1.wts p ?_, h1.room0, h1.room1, h1.cut0, h1.cut1, h1.ops3, h1.opsr⟩
  rw [(crashTo_same S cs k).1]; exact List.mem_of_mem_drop hp
theorem crashTo_rest (S : DS) (cs : List Int) (k : Nat) : (S.crashTo cs k).room = S.room ∧ (S.crashTo cs k).ops = S.ops ∧ (S.crashTo cs k).cut = S.cut ∧ (S.crashTo cs k).off = S.off := by
  induction k with
  | zero => exact ⟨rfl, rfl, rfl, rfl⟩
  | succ k ih =>
    unfold DS.crashTo
    split
    · unfold DS.crash1; split <;> exact ih
    · exact ih
theorem mid_rest (S : DS) (cs : List Int) (k : Nat) : (S.mid cs k).room = S.room ∧ (S.mid cs k).ops = S.ops ∧ (S.mid cs k).cut = S.cut ∧ (S.mid cs k).off = S.off ∧ (S.mid cs k).kept.length = S.kept.length :=
  ⟨(crashTo_rest S cs k).1, (crashTo_rest S cs k).2.1, (crashTo_rest S cs k).2.2.1, (crashTo_rest S cs k).2.2.2, (crashTo_same S cs k).2⟩
theorem mid_kept {S : DS} {cs : List Int} {k i : Nat} {p : Int × List Int} (hp : S.waits[k]? = some p) (hi : p.1.toNat = i) :
    (S.mid cs (k + 1)).kept = if cutAt cs k = 0 then (S.mid cs k).kept else (S.mid cs k).kept.set i (partOf (cutAt cs k) p.2 ((S.mid cs k).kept.getD i [])) := by
  show (S.crashTo cs (k + 1)).kept = _
  rw [crashTo_succ hp]
  unfold DS.crash1
  split <;> (subst hi; rfl)
theorem mid_inn {S : DS} {cs : List Int} {k i : Nat} {p : Int × List Int} (hp : S.waits[k]? = some p) (hi : p.1.toNat = i) :
    (S.mid cs (k + 1)).inn = if cutAt cs k = 0 then (S.mid cs k).inn else (S.mid cs k).inn.set i true := by
  show (S.crashTo cs (k + 1)).inn = _
  rw [crashTo_succ hp]
  unfold DS.crash1
  split <;> (subst hi; rfl)
theorem drop_here {α : Type} {l : List α} {k : Nat} {p : α} (h : l[k]? = some p) : l.drop k = p :: l.drop (k + 1) := by
  have hk := (List.getElem?_eq_some_iff.1 h).1
  rw [List.drop_eq_getElem_cons hk]; congr 1
  exact Option.some.inj ((List.getElem?_eq_getElem hk).symm.trans h)

/-- A sector's cells behind a piece. -/
def keptOr (vs : List Value) (i c : Nat) (bs old : List Int) : List Value := if c = 0 then vs else keptIn vs i (partOf c bs old)
theorem keptOr_len {vs : List Value} {i c : Nat} {bs old : List Int} (hv : i * 130 + 130 ≤ vs.length) (hb : bs.length = 128) (ho : old.length = 128) (hc : c ≤ 128) : (keptOr vs i c bs old).length = vs.length := by
  unfold keptOr; split
  · rfl
  · exact keptIn_len hv (partOf_len hb ho hc)
theorem keptOr_far {vs : List Value} {i c x : Nat} {bs old : List Int} (hv : i * 130 + 130 ≤ vs.length) (hb : bs.length = 128) (ho : old.length = 128) (hc : c ≤ 128) (hx : x < i * 130 ∨ i * 130 + 129 ≤ x) : (keptOr vs i c bs old)[x]? = vs[x]? := by
  unfold keptOr; split
  · rfl
  · rw [keptIn_at hv (partOf_len hb ho hc), if_neg (by omega), if_neg (by omega)]

/-- What the sectors' cells are of behind one more piece, but for where its last piece is told. -/
theorem mid_secs {S : DS} {cs : List Int} {k i : Nat} {p : Int × List Int} {vs : List Value} (hwf : DWf S) (hp : S.waits[k]? = some p) (hi : p.1.toNat = i) (h : SecsOf vs (S.mid cs k) k) :
    (keptOr vs i (cutAt cs k) p.2 ((S.mid cs k).kept.getD i [])).length = (S.mid cs (k + 1)).kept.length * 130 ∧
    (∀ (j : Nat) (r : List Int), (S.mid cs (k + 1)).kept[j]? = some r → ∀ (t : Nat) (u : Int), r[t]? = some u → (keptOr vs i (cutAt cs k) p.2 ((S.mid cs k).kept.getD i []))[j * 130 + t]? = some (.int .u8 u)) ∧
    (∀ (j : Nat) (u : Bool), (S.mid cs (k + 1)).inn[j]? = some u → (keptOr vs i (cutAt cs k) p.2 ((S.mid cs k).kept.getD i []))[j * 130 + 128]? = some (.bool u)) := by
  have hpw := hwf.wts p (List.mem_of_getElem? hp)
  have hK := (mid_rest S cs k).2.2.2.2
  have hK' := (mid_rest S cs (k + 1)).2.2.2.2
  have hwm := hwf.mid cs k
  have hiK : i < S.kept.length := by omega
  have hlen := h.len
  rw [hK] at hlen
  obtain ⟨old, hold⟩ : ∃ old, (S.mid cs k).kept[i]? = some old := ⟨_, List.getElem?_eq_getElem (by rw [hK]; exact hiK)⟩
  have e : (S.mid cs k).kept.getD i [] = old := by simp [List.getD, hold]
  have hol : old.length = 128 := (hwm.rows old (List.mem_of_getElem? hold)).1
  have hcl := cutAt_le cs k
  have hv : i * 130 + 130 ≤ vs.length := by rw [hlen]; omega
  rw [e, mid_kept hp hi, mid_inn hp hi, e]
  refine ⟨by rw [keptOr_len hv hpw.2.2.1 hol hcl, hlen]; split <;> simp [hK], ?_, ?_⟩
  · intro j r hj t u ht
    unfold keptOr
    by_cases hc : cutAt cs k = 0
    · rw [if_pos hc] at hj ⊢
      exact h.kept j r hj t u ht
    · rw [if_neg hc] at hj ⊢
      have hn := partOf_len (m := cutAt cs k) hpw.2.2.1 hol hcl
      rw [keptIn_at hv hn]
      have ht1 := (List.getElem?_eq_some_iff.1 ht).1
      by_cases hji : j = i
      · subst hji
        rw [List.getElem?_set_self (by rw [hK]; exact hiK)] at hj
        cases hj
        rw [hn] at ht1
        rw [if_neg (by omega), if_pos (by omega), show j * 130 + t - j * 130 = t by omega, List.getElem?_map, ht]; rfl
      · rw [List.getElem?_set_ne (fun e => hji e.symm)] at hj
        have hr := (hwm.rows r (List.mem_of_getElem? hj)).1
        rw [if_neg (by omega), if_neg (by omega)]
        exact h.kept j r hj t u ht
  · intro j u hj
    unfold keptOr
    by_cases hc : cutAt cs k = 0
    · rw [if_pos hc] at hj ⊢
      exact h.used j u hj
    · rw [if_neg hc] at hj ⊢
      have hn := partOf_len (m := cutAt cs k) hpw.2.2.1 hol hcl
      rw [keptIn_at hv hn]
      by_cases hji : j = i
      · subst hji
        rw [List.getElem?_set_self (by rw [hwm.ninn, hK]; exact hiK)] at hj
        cases hj
        rw [if_pos rfl]
      · rw [List.getElem?_set_ne (fun e => hji e.symm)] at hj
        rw [if_neg (by omega), if_neg (by omega)]
        exact h.used j u hj

/-- The piece is not its sector's last one. -/
theorem secs_more {S : DS} {cs : List Int} {k i : Nat} {p : Int × List Int} {vs : List Value} (hwf : DWf S) (hp : S.waits[k]? = some p) (hi : p.1.toNat = i) (h : SecsOf vs (S.mid cs k) k) (hl : lastOf (S.waits.drop k) k i ≠ k + 1) :
    SecsOf (keptOr vs i (cutAt cs k) p.2 ((S.mid cs k).kept.getD i [])) (S.mid cs (k + 1)) (k + 1) ∧ (S.mid cs (k + 1)).used = (S.mid cs k).used := by
  obtain ⟨h1, h2, h3⟩ := mid_secs hwf hp hi h
  have hpw := hwf.wts p (List.mem_of_getElem? hp)
  have hK := (mid_rest S cs k).2.2.2.2
  have hK' := (mid_rest S cs (k + 1)).2.2.2.2
  have hwm := hwf.mid cs k
  have hiK : i < S.kept.length := by omega
  have hlen := h.len
  rw [hK] at hlen
  obtain ⟨old, hold⟩ : ∃ old, (S.mid cs k).kept[i]? = some old := ⟨_, List.getElem?_eq_getElem (by rw [hK]; exact hiK)⟩
  have e : (S.mid cs k).kept.getD i [] = old := by simp [List.getD, hold]
  have hol : old.length = 128 := (hwm.rows old (List.mem_of_getElem? hold)).1
  have hv : i * 130 + 130 ≤ vs.length := by rw [hlen]; omega
  have hpi : p.1 = (i : Int) := by omega
  have hhere := lastOf_here S.waits p k i hp hpi
  have hrest : lastOf (S.waits.drop k) k i = lastOf (S.waits.drop (k + 1)) (k + 1) i ∧ lastOf (S.waits.drop (k + 1)) (k + 1) i ≠ 0 := by
    rcases hhere with ⟨a, _⟩ | ⟨_, a, b⟩
    · exact absurd a hl
    · exact ⟨b, by rw [← b]; exact a⟩
  refine ⟨⟨h1, h2, h3, ?_⟩, ?_⟩
  · intro j hj
    rw [hK'] at hj
    rw [e, keptOr_far hv hpw.2.2.1 hol (cutAt_le _ _) (by by_cases hji : j = i; subst hji; omega; omega)]
    have := h.last j (by rw [hK]; exact hj)
    rw [this]
    show some (Value.int .i64 ((lastOf (S.waits.drop k) k j : Nat) : Int)) = some (.int .i64 ((lastOf (S.waits.drop (k + 1)) (k + 1) j : Nat) : Int))
    by_cases hji : j = i
    · subst hji; rw [hrest.1]
    · rw [lastOf_drop S.waits p k j hp (by omega)]
  · have hu := used_at (S := S.mid cs k) (T := S.mid cs (k + 1)) (i := i) (by rw [hK, hK']) (by rw [hK]; exact hiK) (fun j hj hji => by
      unfold DS.isUse DS.waitsFor
      show ((S.waits.drop (k + 1)).any _ || _) = ((S.waits.drop k).any _ || _)
      rw [drop_here hp, List.any_cons, show (p.1 == (j : Int)) = false by simp; omega, Bool.false_or, mid_inn hp hi]
      congr 1
      split
      · rfl
      · simp only [List.getD]
        rw [List.getElem?_set_ne (by show i ≠ ((j : Int)).toNat; omega)])
    have a1 : (S.mid cs k).isUse (i : Int) = true := by
      unfold DS.isUse DS.waitsFor
      show ((S.waits.drop k).any _ || _) = true
      rw [drop_here hp, List.any_cons, show (p.1 == (i : Int)) = true by simp; omega]; rfl
    have a2 : (S.mid cs (k + 1)).isUse (i : Int) = true := by
      unfold DS.isUse DS.waitsFor
      show ((S.waits.drop (k + 1)).any _ || _) = true
      cases ea : (S.waits.drop (k + 1)).any fun p => p.1 == (i : Int)
      · exact absurd ((lastOf_zero _ (k + 1) i).2 ea) hrest.2
      · rfl
    rw [a1, a2] at hu
    omega
/-- The piece is its sector's last one. -/
theorem secs_last {S : DS} {cs : List Int} {k i : Nat} {p : Int × List Int} {vs : List Value} (hwf : DWf S) (hp : S.waits[k]? = some p) (hi : p.1.toNat = i) (h : SecsOf vs (S.mid cs k) k) (hl : lastOf (S.waits.drop k) k i = k + 1) :
    SecsOf ((keptOr vs i (cutAt cs k) p.2 ((S.mid cs k).kept.getD i [])).set (i * 130 + 129) (.int .i64 0)) (S.mid cs (k + 1)) (k + 1) ∧
    ∃ u, (S.mid cs (k + 1)).inn[i]? = some u ∧ (S.mid cs k).used = (S.mid cs (k + 1)).used + (if u then 0 else 1) := by
  obtain ⟨h1, h2, h3⟩ := mid_secs hwf hp hi h
  have hpw := hwf.wts p (List.mem_of_getElem? hp)
  have hK := (mid_rest S cs k).2.2.2.2
  have hK' := (mid_rest S cs (k + 1)).2.2.2.2
  have hwm := hwf.mid cs k
  have hwm' := hwf.mid cs (k + 1)
  have hiK : i < S.kept.length := by omega
  have hlen := h.len
  rw [hK] at hlen
  obtain ⟨old, hold⟩ : ∃ old, (S.mid cs k).kept[i]? = some old := ⟨_, List.getElem?_eq_getElem (by rw [hK]; exact hiK)⟩
  have e : (S.mid cs k).kept.getD i [] = old := by simp [List.getD, hold]
  have hol : old.length = 128 := (hwm.rows old (List.mem_of_getElem? hold)).1
  have hv : i * 130 + 130 ≤ vs.length := by rw [hlen]; omega
  have hpi : p.1 = (i : Int) := by omega
  have hhere := lastOf_here S.waits p k i hp hpi
  have hrest : lastOf (S.waits.drop (k + 1)) (k + 1) i = 0 := by
    rcases hhere with ⟨_, a⟩ | ⟨a, _⟩
    · exact a
    · exact absurd hl a
  obtain ⟨u, hu⟩ : ∃ u, (S.mid cs (k + 1)).inn[i]? = some u := ⟨_, List.getElem?_eq_getElem (by rw [hwm'.ninn, hK']; exact hiK)⟩
  have hlt : i * 130 + 129 < (keptOr vs i (cutAt cs k) p.2 ((S.mid cs k).kept.getD i [])).length := by rw [h1, hK']; omega
  refine ⟨⟨by rw [List.length_set]; exact h1, ?_, ?_, ?_⟩, u, hu, ?_⟩
  · intro j r hj t x ht
    have hr := (hwm'.rows r (List.mem_of_getElem? hj)).1
    have ht1 := (List.getElem?_eq_some_iff.1 ht).1
    rw [set_at _ _ _ _ hlt, if_neg (by omega)]
    exact h2 j r hj t x ht
  · intro j x hj
    rw [set_at _ _ _ _ hlt, if_neg (by omega)]
    exact h3 j x hj
  · intro j hj
    rw [hK'] at hj
    rw [set_at _ _ _ _ hlt]
    show _ = some (Value.int .i64 ((lastOf (S.waits.drop (k + 1)) (k + 1) j : Nat) : Int))
    by_cases hji : j = i
    · subst hji; rw [if_pos rfl, hrest]; rfl
    · rw [if_neg (by omega), e, keptOr_far hv hpw.2.2.1 hol (cutAt_le _ _) (by omega)]
      have := h.last j (by rw [hK]; exact hj)
      rw [this]
      show some (Value.int .i64 ((lastOf (S.waits.drop k) k j : Nat) : Int)) = _
      rw [lastOf_drop S.waits p k j hp (by omega)]
  · have hus := used_at (S := S.mid cs k) (T := S.mid cs (k + 1)) (i := i) (by rw [hK, hK']) (by rw [hK]; exact hiK) (fun j hj hji => by
      unfold DS.isUse DS.waitsFor
      show ((S.waits.drop (k + 1)).any _ || _) = ((S.waits.drop k).any _ || _)
      rw [drop_here hp, List.any_cons, show (p.1 == (j : Int)) = false by simp; omega, Bool.false_or, mid_inn hp hi]
      congr 1
      split
      · rfl
      · simp only [List.getD]
        rw [List.getElem?_set_ne (by show i ≠ ((j : Int)).toNat; omega)])
    have a1 : (S.mid cs k).isUse (i : Int) = true := by
      unfold DS.isUse DS.waitsFor
      show ((S.waits.drop k).any _ || _) = true
      rw [drop_here hp, List.any_cons, show (p.1 == (i : Int)) = true by simp; omega]; rfl
    have a2 : (S.mid cs (k + 1)).isUse (i : Int) = u := by
      unfold DS.isUse DS.waitsFor
      show ((S.waits.drop (k + 1)).any _ || _) = u
      rw [(lastOf_zero _ (k + 1) i).1 hrest]
      simp [List.getD, hu]
    rw [a1, a2] at hus
    cases u
    · simpa using hus.symm
    · simpa using hus.symm
end Go.Proofs.YteliebinhdphlaaDoor

/- The program's disk: settle. -/
namespace Go.Proofs.YteliebinhdphlaaDoor
set_option maxRecDepth 100000
open Go.RowKit Go.Deep
set_option linter.unusedSimpArgs false
set_option linter.unusedVariables false

theorem PRow.at_ {F : Nat → Prop} {w : World} {A : Option Addr} {n c : Nat} {ps : List (Int × List Int)} (h : PRow F w (.slice A n c) ps) {i : Nat} {p : Int × List Int} (hi : ps[i]? = some p) :
    ∃ g, A = some ⟨g, 0, none⟩ ∧ F g ∧ w.rangeAt g (i * 129) (pieceCells p) := by
  obtain ⟨A', c', e, _, hr⟩ := h.form
  simp only [Value.slice.injEq] at e
  obtain ⟨rfl, _, _⟩ := e
  obtain ⟨g, h1, h2, _, h3, _⟩ := hr i p hi
  exact ⟨g, h1, h2, h3⟩

theorem dkeep_any (w : World) (sb n m c : Nat) (vs : List Value) (bs old : List Int) (hs : Blk w sb 103 vs) (hv : n * 130 + 130 ≤ vs.length) (hb : bs.length = 128) (hold : old.length = 128) (hrow : ∀ (j : Nat) (u : Int), old[j]? = some u → vs[n * 130 + j]? = some (.int .u8 u)) (hm : m < 256) (hc : min m 128 = c) :
    Calls Tryd.prog 71 #[.pointer (some ⟨sb, n * 130, none⟩), .agg (u8s bs).toArray, .int .i64 (m : Int)] w fun e w' => e = .returned (.tuple #[]) ∧ Blk w' sb 103 (keptOr vs n c bs old) ∧ Only (fun k => k = sb) w w' := by
  unfold keptOr
  by_cases h0 : m = 0
  · subst h0
    have hc0 : c = 0 := by rw [← hc]; rfl
    rw [if_pos hc0]
    refine (dkeep_none w ⟨sb, n * 130, none⟩ bs).mono ?_
    rintro e w' ⟨rfl, hO⟩
    exact ⟨rfl, hO.blk hs (fun h => h), hO.mono (fun _ _ h => h.elim)⟩
  · by_cases h1 : m < 128
    · have hcm : c = m := by omega
      rw [if_neg (by omega), hcm]
      exact dkeep_part w sb n m vs bs old hs hv hb hold hrow (by omega) h1
    · have hcm : c = 128 := by omega
      rw [if_neg (by omega), hcm]
      have e : partOf 128 bs old = bs := by
        unfold partOf
        rw [List.take_of_length_le (by omega), List.drop_of_length_le (by omega), List.append_nil]
      rw [e]
      exact dkeep_whole w sb n m vs bs hs hv hb (by omega) hm

theorem range_only {F : Nat → Prop} {w w' : World} {g o : Nat} {vs : List Value} (h : w.rangeAt g o vs) (hO : Only F w w') (hn : ¬ F g) : w'.rangeAt g o vs := fun j v hj => by
  have h1 := h j v hj
  exact (World.cell?_of_block (w := w) (hO.block g (World.block_lt_of_cell? w _ h1) hn)).trans h1
/-- One more piece has come to its end. -/
theorem mid_pd {F : Nat → Prop} {wr w' : World} {b : Nat} {S : DS} {cs : List Int} {k sb mb : Nat} {vs vs' : List Value} {vw : Value} {c : Int} {L : List Int} {left : Int} (h : PDAt F wr b (S.mid cs k) k S.waits sb mb vs vw c L)
    (hs : Blk w' sb 103 vs') (hsecs : SecsOf vs' (S.mid cs (k + 1)) (k + 1))
    (hb : Blk w' b 101 [.slice (some ⟨sb, 0, none⟩) S.kept.length S.kept.length, vw, .int .i64 left, .int .i64 c, .bool S.off, .pointer (some ⟨mb, 0, none⟩)])
    (hleft : left = S.room - ((S.mid cs (k + 1)).used : Int)) (huse : (S.mid cs (k + 1)).used ≤ (S.mid cs k).used)
    (hsame : ∀ j, j < wr.heap.size → j ≠ sb → j ≠ b → w'.heap[j]? = wr.heap[j]?) : PDAt F w' b (S.mid cs (k + 1)) (k + 1) S.waits sb mb vs' vw c L := by
  obtain ⟨r1, r2, r3, r4, r5⟩ := mid_rest S cs (k + 1)
  obtain ⟨q1, q2, q3, q4, q5⟩ := mid_rest S cs k
  obtain ⟨vm, hvm⟩ := h.met.blk
  have hu := h.use
  rw [q1] at hu
  refine ⟨h.fb, h.fs, h.fm, by rw [r5, r4, r1, ← hleft]; exact hb, hs, hsecs, h.wait.kept (fun g _ hv => ?_), rfl, by rw [r1]; omega, h.cut0, h.cut1, ?_, ?_, by rw [r2, ← q2]; exact h.ops⟩
  · obtain ⟨vs2, hv⟩ := hv
    exact hsame g hv.lt (hv.ne h.sect (by decide)) (hv.ne h.head (by decide))
  · intro ho
    rw [r3]
    have := h.cut (by rw [q4]; rw [r4] at ho; exact ho)
    rw [q3] at this; exact this
  · exact h.met.kept (hsame mb h.met.lt (hvm.ne h.sect (by decide)) (hvm.ne h.head (by decide)))

/-- All pieces have come to their end. -/
theorem mid_end {F : Nat → Prop} {wr w' : World} {b : Nat} {S : DS} {cs : List Int} {sb mb : Nat} {vs : List Value} {vw : Value} {c : Int} {L : List Int} (h : PDAt F wr b (S.mid cs S.waits.length) S.waits.length S.waits sb mb vs vw c L)
    (hw' : w' = wr.setCell ⟨b, 1, none⟩ (.slice none 0 0)) : PDAt F w' b { S.crashTo cs S.waits.length with waits := [] } 0 [] sb mb vs (.slice none 0 0) c L := by
  have e : S.mid cs S.waits.length = { S.crashTo cs S.waits.length with waits := [] } := by
    unfold DS.mid; rw [List.drop_of_length_le (Nat.le_refl _)]
  rw [e] at h
  obtain ⟨vm, hvm⟩ := h.met.blk
  have far : ∀ {g : Nat}, g ≠ b → w'.heap[g]? = wr.heap[g]? := fun hne => by rw [hw']; exact blk_setCell_other _ _ _ _ hne
  refine ⟨h.fb, h.fs, h.fm, by rw [hw']; exact h.head.set 1 _, h.sect.kept (far (h.sect.ne h.head (by decide))), ⟨h.secs.len, h.secs.kept, h.secs.used, h.secs.last⟩, Or.inl ⟨rfl, rfl⟩, rfl, h.use, h.cut0, h.cut1, h.cut, h.met.kept (far (hvm.ne h.head (by decide))), h.ops⟩

set_option maxRecDepth 100000 in
set_option maxHeartbeats 6400000 in
theorem dsettle_is (F : Nat → Prop) (w : World) (b : Nat) (S : DS) (cs : List Int) (h : PD F w b S) (g : Nat) (cap : Array Value) (hent : ∀ (args : Array Value) (w : World), (callFunc g args).run Tryd.prog w = .ok (.enter g args) w)
    (m : Nat → Nat) (hm : ∀ k, m k < 256 ∧ min (m k) 128 = cutAt cs k) (hstep : ∀ (k : Nat) (wr : World), k < S.waits.length → Only F w wr → Calls Tryd.prog g (#[.int .i64 (k : Int)] ++ cap) wr fun e w' => e = .returned (.int .i64 (m k : Int)) ∧ w' = wr) :
    Calls Tryd.prog 48 #[.pointer (some ⟨b, 0, none⟩), .func (.func g) #[] cap] w fun e w' => e = .returned (.tuple #[]) ∧ PD F w' b { S.crashTo cs S.waits.length with waits := [] } ∧ Only F w w' := by
  obtain ⟨hwf, hFb, hfin, sb, mb, vs0, vw, c, L, h⟩ := h
  obtain ⟨A, cA, rfl, hnr, _⟩ := h.wait.form
  have hc1 := h.head.cell (i := 1) rfl
  obtain ⟨n, hn⟩ : ∃ n, n = S.waits.length := ⟨_, rfl⟩
  obtain ⟨K, hK⟩ : ∃ K, K = S.kept.length := ⟨_, rfl⟩
  rw [← hn] at hc1 hnr
  have hK2 := hwf.n2
  rw [← hK] at hK2
  have Hn := Lib.hid hn
  have HK := Lib.hid hK
  have Hwf := Lib.hid hwf
  have Hfin := Lib.hid hfin
  have Hstep := Lib.hid hstep
  have Hm := Lib.hid hm
  have hsizeP : ∀ p : Int × List Int, p.2.length = 128 → (Tryd.prog.info? 138).map (·.size) = some (pieceCells p).length := fun p hp => by rw [size_pc, pieceCells_len hp]
  have hsizeQ : ∀ p : Int × List Int, p.2.length = 128 → (Tryd.prog.info? 138).map (·.size) = some (pieceCells p).toArray.size := fun p hp => by rw [size_pc, List.size_toArray, pieceCells_len hp]
  have HsizeP := Lib.hid hsizeP
  have HsizeQ := Lib.hid hsizeQ
  have hstart : ∃ vs, PDAt F w b (S.mid cs 0) 0 S.waits sb mb vs (.slice A n cA) c L := ⟨vs0, by rw [mid_zero, hn]; exact h⟩
  have Hstart := Lib.hid hstart
  clear h hwf hfin hstep hm hn hK hsizeP hsizeQ hstart
  go_enter Tryd.func48, Tryd.ntmps48
  go_wp2_with fail
  go_loopw [12] (fun i wr => ∃ k : Nat, k ≤ n ∧ i = .int .i64 k ∧ Hid (∃ vs, PDAt F wr b (S.mid cs k) k S.waits sb mb vs (.slice A n cA) c L) ∧ Only F w wr) (fun i _ => n - (intOf i).toNat)
  case atStart => exact ⟨0, by omega, rfl, Hstart, Only.refl _ _⟩
  case round =>
    clear Hstart hc1
    obtain ⟨k, hk, rfl, hst, hO⟩ := hrel
    by_cases hlt : k < n
    · obtain ⟨vs, hv⟩ := hst.out
      obtain ⟨p, hp⟩ : ∃ p, S.waits[k]? = some p := ⟨_, List.getElem?_eq_getElem (by rw [← Hn.out]; exact hlt)⟩
      obtain ⟨g0, rfl, hFg, Hr⟩ := hv.wait.at_ hp
      have hpw := Hwf.out.wts p (List.mem_of_getElem? hp)
      obtain ⟨i, hi⟩ : ∃ i, i = p.1.toNat := ⟨_, rfl⟩
      have hpi : p.1 = (i : Int) := by omega
      have hiK : i < K := by rw [HK.out]; omega
      have hpl : p.2.length = 128 := hpw.2.2.1
      have hiI : (i : Int) < (K : Int) := by omega
      have hi0 : (0 : Int) ≤ (i : Int) := by omega
      have hkI : (k : Int) < (n : Int) := by omega
      have hk0 : (0 : Int) ≤ (k : Int) := by omega
      have Hr := Lib.hid Hr
      obtain ⟨r1, r2, r3, r4, r5⟩ := mid_rest S cs k
      have hFr : ∀ j, F j → j < wr.heap.size := fun j hj => Nat.lt_of_lt_of_le (Hfin.out j hj) hO.size
      -- the piece, on its own
      obtain ⟨wB, hwB⟩ : ∃ wB, wB = (wr.alloc (.cells zeroPiece 138)).setCells wr.heap.size 0 (pieceCells p) := ⟨_, rfl⟩
      have hzB : Blk (wr.alloc (.cells zeroPiece 138)) wr.heap.size 138 zeroPiece.toList := by
        have := Blk.new wr 138 zeroPiece.toList
        exact this
      have HthP := Lib.hid (hzB.there (n := (pieceCells p).toArray.size) (by rw [List.size_toArray, pieceCells_len hpl, Array.length_toList, zeroPiece_size]; omega))
      have hPB : Blk wB wr.heap.size 138 (pieceCells p) := by rw [hwB]; exact setCells_whole hzB (by rw [pieceCells_len hpl, Array.length_toList, zeroPiece_size])
      have hB : Below wr.heap.size wr wB := by rw [hwB]; exact below_setCells (below_alloc _ _) (Nat.le_refl _) _ _
      have hvB := hv.keep (w' := wB) (fun j hj => hB.block j (hFr j hj))
      have hOB : Only F w wB := hO.trans (Only.of_below (F := F) hB) (fun _ _ h => h)
      have hc0 : wB.cell? ⟨b, 0, none⟩ = some (.slice (some ⟨sb, 0, none⟩) K K) := by have := hvB.head.cell (i := 0) rfl; rw [r5, ← HK.out] at this; exact this
      have hcp0 : wB.cell? ⟨wr.heap.size, 0, none⟩ = some (.int .i64 (i : Int)) := by have := hPB.cell (i := 0) rfl; rw [hpi] at this; exact this
      have HrB := Lib.hid (show wB.rangeAt wr.heap.size 1 (u8s p.2) from fun j v hj => by
        rw [Nat.add_comm 1 j]
        exact hPB.cell (by unfold pieceCells; rw [List.getElem?_cons_succ]; exact hj))
      have hsizeL : (Tryd.prog.info? 72).map (·.size) = some (u8s p.2).length := by rw [size_arr, List.length_map, hpl]
      have hsP := HsizeP.out p hpl
      have hsQ := HsizeQ.out p hpl
      have HwB := Lib.hid hwB
      have Hv := Lib.hid hv
      have HvB := Lib.hid hvB
      have HOB := Lib.hid hOB
      have HB := Lib.hid hB
      have HFr := Lib.hid hFr
      have Hp := Lib.hid hp
      have Hi := Lib.hid hi
      have Hpw := Lib.hid hpw
      have Hpi := Lib.hid hpi
      have HPB := Lib.hid hPB
      clear hv hvB hOB hB hFr hp hi hpw hpi hPB hzB hwB hst hk
      go_wp2_with (first
        | (refine wpList_load_mid rfl 138 (.tmp 15) rfl g0 (k * 129) rfl (pieceCells p) _ Hr.out Tryd.underlying138 rfl hsP ?_)
        | (refine wpList_store_mid rfl 138 (.tmp 5) (.tmp 16) rfl wr.heap.size 0 (pieceCells p).toArray rfl rfl HthP.out hsQ (all_oneCell_toArray (one_piece p)) ?_; rw [show (pieceCells p).toArray.toList = pieceCells p from rfl, ← HwB.out]))
      go_quiet (fail)
      go_wp2_with fail
      obtain ⟨wC, hwC⟩ : ∃ wC, wC = wB.drewN nq := ⟨_, rfl⟩
      have hvC := HvB.out.keep (w' := wC.drew) (fun j _ => by rw [hwC]; rfl)
      have hOC : Only F w wC.drew := by rw [hwC]; exact (HOB.out.drewN nq).drew
      have hBC : Below wr.heap.size wr wC.drew := by rw [hwC]; have := below_drewN HB.out nq; exact ⟨this.os, this.tape, this.output, this.size, this.block⟩
      have hS0 : wC.drew.rangeAt wr.heap.size 1 (u8s p.2) := by rw [hwC]; exact HrB.out
      rw [← hwC]
      obtain ⟨mk, hmk⟩ : ∃ mk, mk = m k := ⟨_, rfl⟩
      have hmk2 := Hm.out k
      have Hcall := Lib.hid (Hstep.out k wC.drew (by rw [← Hn.out]; exact hlt) hOC)
      rw [← hmk] at hmk2 Hcall
      have hwm := Hwf.out.mid cs k
      have hiK' : i < S.kept.length := by rw [← HK.out]; exact hiK
      obtain ⟨old, hold⟩ : ∃ old, (S.mid cs k).kept[i]? = some old := ⟨_, List.getElem?_eq_getElem (by rw [r5]; exact hiK')⟩
      have eold : (S.mid cs k).kept.getD i [] = old := by simp [List.getD, hold]
      have hol : old.length = 128 := (hwm.rows old (List.mem_of_getElem? hold)).1
      have hlen := hvC.secs.len
      rw [r5] at hlen
      have hvl : i * 130 + 130 ≤ vs.length := by rw [hlen]; omega
      have Hkeep := Lib.hid (dkeep_any wC.drew sb i mk (cutAt cs k) vs p.2 old hvC.sect hvl hpl hol (fun j u hj => hvC.secs.kept i old hold j u hj) hmk2.1 hmk2.2)
      obtain ⟨vs1, hvs1⟩ : ∃ vs1, vs1 = keptOr vs i (cutAt cs k) p.2 old := ⟨_, rfl⟩
      rw [← hvs1] at Hkeep
      have hfar : ∀ x, (x < i * 130 ∨ i * 130 + 129 ≤ x) → vs1[x]? = vs[x]? := fun x hx => by rw [hvs1]; exact keptOr_far hvl hpl hol (cutAt_le _ _) hx
      have Hfar := Lib.hid hfar
      have Hvs1 := Lib.hid (show vs1 = keptOr vs i (cutAt cs k) p.2 ((S.mid cs k).kept.getD i []) by rw [eold]; exact hvs1)
      have HvC := Lib.hid hvC
      have HOC := Lib.hid hOC
      have HBC := Lib.hid hBC
      clear hvC hOC hwC hmk hmk2 hwm hold eold hol hlen hvl hvs1 hfar hBC Hstep
      refine wp_region_held_drew (S := fun w' => w'.rangeAt wr.heap.size 1 (u8s p.2)) (by kernel_rfl) hS0 (fun hHeld => ?_)
      refine wpAnyH_take (i := 0) (oi := ?oiz1) (v := ?vz1) ?hiz1 ?haz1 ?hbz1 ?hcz1 ?hqz1 ?hyz1 (by assumption) ?restz1
      case hiz1 => (simp only [List.getElem?_toArray, List.getElem?_cons_zero, List.getElem?_cons_succ]; rfl)
      case haz1 => kernel_rfl
      case hbz1 => kernel_rfl
      case hcz1 => kernel_rfl
      case hyz1 => exact Or.inl ⟨by rfl, by (intro w hSw; (try dsimp only at hSw); go_split_ands; go_simp; (try with_reducible rfl))⟩
      case hqz1 => exact fun _ _ _ h => h
      try simp only [Act.put, List.setIfInBounds_toArray, List.set_cons_zero, List.set_cons_succ]
      refine wpAnyH_take (i := 1) (oi := ?oiz2) (v := ?vz2) ?hiz2 ?haz2 ?hbz2 ?hcz2 ?hqz2 ?hyz2 (by assumption) ?restz2
      case hiz2 => (simp only [List.getElem?_toArray, List.getElem?_cons_zero, List.getElem?_cons_succ]; rfl)
      case haz2 => kernel_rfl
      case hbz2 => kernel_rfl
      case hcz2 => kernel_rfl
      case hyz2 => exact Or.inl ⟨by rfl, by (intro w hSw; (try dsimp only at hSw); go_split_ands; go_simp; (try with_reducible rfl))⟩
      case hqz2 => exact fun _ _ _ h => h
      try simp only [Act.put, List.setIfInBounds_toArray, List.set_cons_zero, List.set_cons_succ]
      refine wpAnyH_take (i := 2) (oi := ?oiz3) (v := .agg (u8s p.2).toArray) ?hiz3 ?haz3 ?hbz3 ?hcz3 ?hqz3 ?hyz3 (by assumption) ?restz3
      case hiz3 => (simp only [List.getElem?_toArray, List.getElem?_cons_zero, List.getElem?_cons_succ]; rfl)
      case haz3 => kernel_rfl
      case hbz3 => kernel_rfl
      case hcz3 => kernel_rfl
      case hyz3 => exact Or.inl ⟨by rfl, fun w' hSw => run_load_op 72 (.tmp 25) rfl wr.heap.size 1 rfl (u8s p.2) _ hSw Tryd.underlying72 rfl hsizeL⟩
      case hqz3 => exact fun _ _ _ h => h
      try simp only [Act.put, List.setIfInBounds_toArray, List.set_cons_zero, List.set_cons_succ]
      refine wpAnyH_take (i := 3) (oi := ?oiz4) (v := ?vz4) ?hiz4 ?haz4 ?hbz4 ?hcz4 ?hqz4 ?hyz4 (by assumption) ?restz4
      case hiz4 => (simp only [List.getElem?_toArray, List.getElem?_cons_zero, List.getElem?_cons_succ]; rfl)
      case haz4 => kernel_rfl
      case hbz4 => kernel_rfl
      case hcz4 => kernel_rfl
      case hyz4 => exact Or.inl ⟨by rfl, by (intro w hSw; (try dsimp only at hSw); go_split_ands; go_simp; (try with_reducible rfl))⟩
      case hqz4 => exact fun _ _ _ h => h
      try simp only [Act.put, List.setIfInBounds_toArray, List.set_cons_zero, List.set_cons_succ]
      refine wpAnyH_take (i := 4) (oi := ?oiz5) (v := ?vz5) ?hiz5 ?haz5 ?hbz5 ?hcz5 ?hqz5 ?hyz5 (by assumption) ?restz5
      case hiz5 => (simp only [List.getElem?_toArray, List.getElem?_cons_zero, List.getElem?_cons_succ]; rfl)
      case haz5 => kernel_rfl
      case hbz5 => kernel_rfl
      case hcz5 => kernel_rfl
      case hyz5 => exact Or.inl ⟨by rfl, by (intro w hSw; (try dsimp only at hSw); go_split_ands; go_simp; (try with_reducible rfl))⟩
      case hqz5 => exact fun _ _ _ h => h
      try simp only [Act.put, List.setIfInBounds_toArray, List.set_cons_zero, List.set_cons_succ]
      refine wpAnyH_ready (rs := [5]) (by kernel_rfl) (by simp) ?_
      refine AllReadyH.cons (o := ?oiz6) ?hiz6 (fun K hK => ?stepz6) AllReadyH.nil
      case hiz6 => (simp only [List.getElem?_toArray, List.getElem?_cons_zero, List.getElem?_cons_succ]; rfl)
      go_simp
      refine Hcall.out.mono ?_
      rintro e wD ⟨rfl, hwD⟩
      obtain rfl := hwD.symm
      refine hK.out _ _ hS0 (fun hHeld => ?_)
      clear hK K
      try simp only [Act.put, List.setIfInBounds_toArray, List.set_cons_zero, List.set_cons_succ]
      refine wpAnyH_ready (rs := [6]) (by kernel_rfl) (by simp) ?_
      refine AllReadyH.cons (o := ?oiz7) ?hiz7 (fun K hK => ?stepz7) AllReadyH.nil
      case hiz7 => (simp only [List.getElem?_toArray, List.getElem?_cons_zero, List.getElem?_cons_succ]; rfl)
      go_simp
      refine Hkeep.out.mono ?_
      rintro e w5 ⟨rfl, hs5, hO5⟩
      have hS5 : w5.rangeAt wr.heap.size 1 (u8s p.2) := range_only hS0 hO5 (fun e => by have := HFr.out sb Hv.out.fs; omega)
      refine hK.out _ _ hS5 (fun hHeld => ?_)
      clear hK K
      try simp only [Act.put, List.setIfInBounds_toArray, List.set_cons_zero, List.set_cons_succ]
      refine wpAnyH_done (by kernel_rfl) ?_ _
      clear hHeld hS5 hS0 hwD Hcall Hkeep
      obtain ⟨l, hl⟩ : ∃ l, l = lastOf (S.waits.drop k) k i := ⟨_, rfl⟩
      have hcl : w5.cell? ⟨sb, i * 130 + 129, none⟩ = some (.int .i64 (l : Int)) := by
        refine hs5.cell ?_
        rw [Hfar.out _ (by omega), hl]
        exact HvC.out.secs.last i (by rw [r5]; exact hiK')
      have hfl := hs5.frozen (i * 130 + 129)
      have hll := lastOf_le (S.waits.drop k) k i
      rw [← hl, List.length_drop, ← Hn.out] at hll
      have hsbb : sb ≠ b := HvC.out.sect.ne HvC.out.head (by decide)
      obtain ⟨left, hleft⟩ : ∃ left, left = S.room - ((S.mid cs k).used : Int) := ⟨_, rfl⟩
      have hb5 : Blk w5 b 101 [.slice (some ⟨sb, 0, none⟩) S.kept.length S.kept.length, .slice (some ⟨g0, 0, none⟩) n cA, .int .i64 left, .int .i64 c, .bool S.off, .pointer (some ⟨mb, 0, none⟩)] := by
        have := hO5.blk HvC.out.head (fun e => hsbb e.symm)
        rw [r5, r1, ← hleft, r4] at this; exact this
      have hlr : 0 ≤ left ∧ left ≤ 4096 := by
        have h1 := HvC.out.use
        have h2 := Hwf.out.room1
        rw [r1] at h1; omega
      have hO5r : Only F w w5 := HOC.out.trans hO5 (fun j _ e => by rw [e]; exact HvC.out.fs)
      have hsame5 : ∀ j, j < wC.drew.heap.size → j ≠ sb → w5.heap[j]? = wC.drew.heap[j]? := fun j hj hne => hO5.block j hj hne
      by_cases hlk : l = k + 1
      · obtain ⟨hsec, u, hu, hused⟩ := secs_last Hwf.out Hp.out Hi.out.symm HvC.out.secs (by rw [← hl]; exact hlk)
        rw [← Hvs1.out] at hsec
        have hs6 := hs5.set (i * 130 + 129) (.int .i64 0)
        have hb6 := hb5.setOther (a := ⟨sb, i * 130 + 129, none⟩) (fun e => hsbb e.symm) (.int .i64 0)
        have hcu := hs6.cell (hsec.used i u hu)
        have hc2 := hb6.cell (i := 2) rfl
        have hf2 := hb6.frozen 2
        have hO6 : Only F w (w5.setCell ⟨sb, i * 130 + 129, none⟩ (.int .i64 0)) := hO5r.set (Or.inr HvC.out.fs) _
        have hsame6 : ∀ j, j < wC.drew.heap.size → j ≠ sb → (w5.setCell ⟨sb, i * 130 + 129, none⟩ (.int .i64 0)).heap[j]? = wC.drew.heap[j]? := fun j hj hne => (blk_setCell_other _ _ _ _ hne).trans (hsame5 j hj hne)
        subst hlk
        cases u
        · have Hnext := Lib.hid (show (∃ vs, PDAt F ((w5.setCell ⟨sb, i * 130 + 129, none⟩ (.int .i64 0)).setCell ⟨b, 2, none⟩ (.int .i64 (left + 1))) b (S.mid cs (k + 1)) (k + 1) S.waits sb mb vs (.slice (some ⟨g0, 0, none⟩) n cA) c L) ∧ Only F w ((w5.setCell ⟨sb, i * 130 + 129, none⟩ (.int .i64 0)).setCell ⟨b, 2, none⟩ (.int .i64 (left + 1))) from
            ⟨⟨_, mid_pd (left := left + 1) HvC.out (hs6.setOther (a := ⟨b, 2, none⟩) hsbb _) hsec (hb6.set 2 _) (by simp at hused; omega) (by omega) (fun j hj h1 h2 => (blk_setCell_other _ _ _ _ h2).trans (hsame6 j hj h1))⟩, hO6.set (Or.inr hFb) _⟩)
          clear hsec hu hused hs6 hb6 hO6 hsame6 hs5 hO5 hb5 hO5r hsame5 hl hleft HvC HvB Hv HwB HPB HBC HOC HB HOB Hfar Hvs1
          go_wp2_with fail
          go_roundw
          case rel => exact ⟨k + 1, by omega, by go_num, Lib.hid Hnext.out.1, Hnext.out.2⟩
          case measure => simp [intOf]; omega
        · have Hnext := Lib.hid (show (∃ vs, PDAt F (w5.setCell ⟨sb, i * 130 + 129, none⟩ (.int .i64 0)) b (S.mid cs (k + 1)) (k + 1) S.waits sb mb vs (.slice (some ⟨g0, 0, none⟩) n cA) c L) ∧ Only F w (w5.setCell ⟨sb, i * 130 + 129, none⟩ (.int .i64 0)) from
            ⟨⟨_, mid_pd (left := left) HvC.out hs6 hsec hb6 (by simp at hused; omega) (by omega) (fun j hj h1 _ => hsame6 j hj h1)⟩, hO6⟩)
          clear hsec hu hused hs6 hb6 hO6 hsame6 hs5 hO5 hb5 hO5r hsame5 hl hleft HvC HvB Hv HwB HPB HBC HOC HB HOB Hfar Hvs1
          go_wp2_with fail
          go_roundw
          case rel => exact ⟨k + 1, by omega, by go_num, Lib.hid Hnext.out.1, Hnext.out.2⟩
          case measure => simp [intOf]; omega
      · obtain ⟨hsec, hused⟩ := secs_more Hwf.out Hp.out Hi.out.symm HvC.out.secs (by rw [← hl]; exact hlk)
        rw [← Hvs1.out] at hsec
        have Hnext := Lib.hid (show (∃ vs, PDAt F w5 b (S.mid cs (k + 1)) (k + 1) S.waits sb mb vs (.slice (some ⟨g0, 0, none⟩) n cA) c L) ∧ Only F w w5 from
          ⟨⟨_, mid_pd (left := left) HvC.out hs5 hsec hb5 (by omega) (by omega) (fun j hj h1 _ => hsame5 j hj h1)⟩, hO5r⟩)
        have hne : ((l : Int) != (k : Int) + 1) = true := by simp; omega
        clear hsec hused hs5 hO5 hb5 hO5r hsame5 hl hleft HvC HvB Hv HwB HPB HBC HOC HB HOB Hfar Hvs1
        go_wp2_with fail
        go_roundw
        case rel => exact ⟨k + 1, by omega, by go_num, Lib.hid Hnext.out.1, Hnext.out.2⟩
        case measure => simp [intOf]; omega
    · obtain rfl : k = n := by omega
      obtain ⟨vs, hv⟩ := hst.out
      have hc1 := hv.head.cell (i := 1) rfl
      have hf1 := hv.head.frozen 1
      have Hend := Lib.hid (show PD F (wr.setCell ⟨b, 1, none⟩ (.slice none 0 0)) b { S.crashTo cs S.waits.length with waits := [] } ∧ Only F w (wr.setCell ⟨b, 1, none⟩ (.slice none 0 0)) by
        rw [Hn.out] at hv
        have h1 := mid_end hv rfl
        have h2 := Hwf.out.mid cs S.waits.length
        have e : S.mid cs S.waits.length = { S.crashTo cs S.waits.length with waits := [] } := by
          unfold DS.mid; rw [List.drop_of_length_le (Nat.le_refl _)]
        rw [e] at h2
        have hO2 := hO.set (a := ⟨b, 1, none⟩) (Or.inr hFb) (.slice none 0 0)
        exact ⟨⟨h2, hFb, fun k hk => Nat.lt_of_lt_of_le (Hfin.out k hk) hO2.size, sb, mb, vs, _, c, L, h1⟩, hO2⟩)
      clear hv hst
      go_wp2
      go_end0
      exact ⟨rfl, Hend.out⟩
end Go.Proofs.YteliebinhdphlaaDoor

/- The program's disk: Flush and Crash. -/
namespace Go.Proofs.YteliebinhdphlaaDoor
set_option maxRecDepth 100000
open Go.RowKit Go.Deep
set_option linter.unusedSimpArgs false
set_option linter.unusedVariables false

theorem flush1_is (w : World) (k : Nat) : Calls Tryd.prog 78 (#[.int .i64 (k : Int)] ++ #[]) w fun e w' => e = .returned (.int .i64 ((128 : Nat) : Int)) ∧ w' = w := by
  show Calls Tryd.prog 78 #[.int .i64 (k : Int)] w _
  go_enter Tryd.func78, Tryd.ntmps78
  go_wp2
  go_ret
  exact ⟨rfl, rfl⟩

theorem crash1_whole {S : DS} (hwf : DWf S) {p : Int × List Int} (h0 : 0 ≤ p.1) (h1 : p.1 < S.kept.length) (hp : p.2.length = 128) : S.crash1 p 128 = { S with kept := S.kept.set p.1.toNat p.2, inn := S.inn.set p.1.toNat true } := by
  have hl : p.1.toNat < S.kept.length := by omega
  rw [crash1_pos S p (by omega) rfl]
  have e : (S.kept.getD p.1.toNat []).length = 128 := by
    rw [show S.kept.getD p.1.toNat [] = S.kept[p.1.toNat] by simp [List.getD, hl]]
    exact (hwf.rows _ (List.getElem_mem hl)).1
  rw [List.take_of_length_le (by omega), List.drop_of_length_le (by omega), List.append_nil]
theorem crashTo_full {S : DS} (hwf : DWf S) (k : Nat) (hk : k ≤ S.waits.length) : S.crashTo (List.replicate S.waits.length 128) k = S.keepTo k := by
  induction k with
  | zero => rfl
  | succ k ih =>
    obtain ⟨p, hp⟩ : ∃ p, S.waits[k]? = some p := ⟨_, List.getElem?_eq_getElem (by omega)⟩
    have hc : cutAt (List.replicate S.waits.length 128) k = 128 := by
      unfold cutAt
      simp only [List.getD, List.getElem?_replicate]
      rw [if_pos (by omega)]; rfl
    have hw := hwf.wts p (List.mem_of_getElem? hp)
    have hk1 := hwf.crashTo (List.replicate S.waits.length 128) k
    rw [crashTo_succ hp, hc, keepTo_succ S hp, crash1_whole hk1 hw.1 (by rw [(crashTo_same S _ k).2]; exact hw.2.1) hw.2.2.1, ih (by omega)]
theorem settled_flushed {S : DS} (hwf : DWf S) : { S.crashTo (List.replicate S.waits.length 128) S.waits.length with waits := [] } = S.flushed := by
  rw [crashTo_full hwf _ (Nat.le_refl _)]; rfl

section
variable (F : Nat → Prop) (w : World) (b : Nat) (S : DS) (h : PD F w b S)
include h
theorem dflush_off (ho : S.off = true) : Calls Tryd.prog 55 #[.pointer (some ⟨b, 0, none⟩)] w fun e w' => e = .returned (.int .i64 50) ∧ Only Nothing w w' := by
  have hp := dpowered_is F w b S h
  rw [ho, if_pos rfl] at hp
  go_enter Tryd.func55, Tryd.ntmps55
  go_wp2_with fail
  refine hp.mono ?_
  rintro e w1 ⟨rfl, hw⟩
  obtain rfl := hw.symm
  go_wp2
  go_ret
  exact ⟨rfl, Only.none_ _⟩

set_option maxHeartbeats 800000 in
theorem dflush_gone (ho : S.off = false) (hg : (S.goes 2).2 = true) : Calls Tryd.prog 55 #[.pointer (some ⟨b, 0, none⟩)] w fun e w' => e = .returned (.int .i64 50) ∧ PD (More F w w') w' b (S.goes 2).1 ∧ Only F w w' := by
  have hp := dpowered_is F w b S h
  rw [ho, if_neg (by simp)] at hp
  obtain ⟨hwf, hFb, hfin, sb, mb, vs, vw, c, L, h⟩ := h
  have hcnt := dcount_is F w b S 0 S.waits sb mb vs vw c L hwf h 2 (by omega) 3 rfl
  have hc5 := h.head.cell (i := 5) rfl
  have Hwf := Lib.hid hwf
  have Hfin := Lib.hid hfin
  have Ho := Lib.hid ho
  have Hg := Lib.hid hg
  clear h hwf hfin ho hg
  go_enter Tryd.func55, Tryd.ntmps55
  go_wp2_with fail
  refine hp.mono ?_
  rintro e w1 ⟨rfl, hw⟩
  obtain rfl := hw.symm
  go_wp2_with fail
  refine hcnt.mono ?_
  rintro e w1 ⟨rfl, ⟨L', h1⟩, hg1⟩
  obtain ⟨hp1, hO1⟩ := count_back Hwf.out hFb Hfin.out h1 hg1
  go_wp2_with fail
  have hsp := dspend_is F w1 b (S.count 2) hp1 Ho.out
  rw [← goes_spent, Hg.out] at hsp
  refine hsp.mono ?_
  rintro e w2 ⟨rfl, hp2, hO2⟩
  rw [show goneErr true = 50 from rfl]
  go_wp2
  go_ret
  exact ⟨rfl, More.refl hp2, hO1.trans hO2 (fun _ _ h => h)⟩

set_option maxHeartbeats 800000 in
theorem dflush_in (ho : S.off = false) (hg : (S.goes 2).2 = false) : Calls Tryd.prog 55 #[.pointer (some ⟨b, 0, none⟩)] w fun e w' => e = .returned (.int .i64 0) ∧ PD (More F w w') w' b (S.goes 2).1.flushed ∧ Only F w w' := by
  have hp := dpowered_is F w b S h
  rw [ho, if_neg (by simp)] at hp
  obtain ⟨hwf, hFb, hfin, sb, mb, vs, vw, c, L, h⟩ := h
  have hcnt := dcount_is F w b S 0 S.waits sb mb vs vw c L hwf h 2 (by omega) 3 rfl
  have hc5 := h.head.cell (i := 5) rfl
  have Hwf := Lib.hid hwf
  have Hfin := Lib.hid hfin
  have Ho := Lib.hid ho
  have Hg := Lib.hid hg
  clear h hwf hfin ho hg
  go_enter Tryd.func55, Tryd.ntmps55
  go_wp2_with fail
  refine hp.mono ?_
  rintro e w1 ⟨rfl, hw⟩
  obtain rfl := hw.symm
  go_wp2_with fail
  refine hcnt.mono ?_
  rintro e w1 ⟨rfl, ⟨L', h1⟩, hg1⟩
  obtain ⟨hp1, hO1⟩ := count_back Hwf.out hFb Hfin.out h1 hg1
  go_wp2_with fail
  have hsp := dspend_is F w1 b (S.count 2) hp1 Ho.out
  rw [← goes_spent, Hg.out] at hsp
  refine hsp.mono ?_
  rintro e w2 ⟨rfl, hp2, hO2⟩
  rw [show goneErr false = 0 from rfl]
  obtain ⟨S', hS'⟩ : ∃ S', S' = (S.goes 2).1 := ⟨_, rfl⟩
  rw [← hS'] at hp2
  have hset := dsettle_is F w2 b S' (List.replicate S'.waits.length 128) hp2 78 #[] (ent_of Tryd.func78 (by kernel_rfl) rfl)
    (fun k => if k < S'.waits.length then 128 else 0) (fun k => by
      refine ⟨by split <;> omega, ?_⟩
      unfold cutAt
      simp only [List.getD, List.getElem?_replicate]
      split <;> rfl) (fun k wr hk _ => by rw [if_pos hk]; exact flush1_is wr k)
  rw [settled_flushed hp2.wf] at hset
  have HS' := Lib.hid hS'
  clear hS'
  go_wp2_with fail
  refine hset.mono ?_
  rintro e w3 ⟨rfl, hp3, hO3⟩
  go_wp2
  go_ret
  exact ⟨rfl, by rw [← HS'.out]; exact More.refl hp3, (hO1.trans hO2 (fun _ _ h => h)).trans hO3 (fun _ _ h => h)⟩

omit h in
theorem crash1_in (w : World) (k cb n c : Nat) (A : Option Addr) (cs : List Int) (hb : w.cell? ⟨cb, 0, none⟩ = some (.slice A n c)) (hx : Sl w A n (u8s cs)) (hn : n ≤ 9223372036854775807) (hcs : ∀ x ∈ cs, 0 ≤ x ∧ x < 256) :
    Calls Tryd.prog 49 (#[.int .i64 (k : Int)] ++ #[.pointer (some ⟨cb, 0, none⟩)]) w fun e w' => e = .returned (.int .i64 (((cs.getD k 0).toNat : Nat) : Int)) ∧ w' = w := by
  show Calls Tryd.prog 49 #[.int .i64 (k : Int), .pointer (some ⟨cb, 0, none⟩)] w _
  have hl : cs.length = n := by simpa using hx.1
  by_cases hk : k < n
  · obtain ⟨ad, u, rfl, hc, hu⟩ := hx.num hk
    have hur := hcs u (List.mem_of_getElem? hu)
    have e : (((cs.getD k 0).toNat : Nat) : Int) = u := by
      rw [show cs.getD k 0 = u by simp [List.getD, hu]]; omega
    rw [e]
    have hkI : (k : Int) < (n : Int) := by omega
    have hk0 : (0 : Int) ≤ (k : Int) := by omega
    obtain ⟨hu0, hu1⟩ := hur
    clear e hu hl
    go_enter Tryd.func49, Tryd.ntmps49
    go_wp2
    go_ret
    exact ⟨rfl, rfl⟩
  · have e : (((cs.getD k 0).toNat : Nat) : Int) = 0 := by
      rw [show cs.getD k 0 = 0 by simp only [List.getD]; rw [List.getElem?_eq_none (by omega)]; rfl]; rfl
    rw [e]
    have hd : decide ((k : Int) < (n : Int)) = false := decide_eq_false (by omega)
    clear e hl
    go_enter Tryd.func49, Tryd.ntmps49
    go_wp2
    go_ret
    exact ⟨rfl, rfl⟩

set_option maxHeartbeats 800000 in
theorem dcrash_is (A : Option Addr) (n c : Nat) (cs : List Int) (hx : Sl w A n (u8s cs)) (hcs : ∀ x ∈ cs, 0 ≤ x ∧ x < 256) (hn : n ≤ 9223372036854775807) (hxF : ∀ ad, A = some ad → 0 < n → ¬ F ad.block) :
    Calls Tryd.prog 22 #[.pointer (some ⟨b, 0, none⟩), .slice A n c] w fun e w' => e = .returned (.tuple #[]) ∧ PD (More F w w') w' b (S.crashed cs) ∧ Only F w w' := by
  have hF0 : ∀ k, F k → k < w.heap.size := fun k hk => h.fin hk
  obtain ⟨w1, hw1⟩ : ∃ w1, w1 = w.alloc (.cells #[.slice A n c] 22) := ⟨_, rfl⟩
  have hbx : Blk w1 w.heap.size 22 [.slice A n c] := by rw [hw1]; exact Blk.new w 22 [.slice A n c]
  have hb1 : Below w.heap.size w w1 := by rw [hw1]; exact below_alloc _ _
  have h1 := h.only (Only.of_below (F := Nothing) hb1) (fun _ _ hk => hk)
  have hno := dnone_is F w1 b S h1
  have hx1 := hx.below hb1
  have hset := dsettle_is F w1 b S cs h1 49 #[.pointer (some ⟨w.heap.size, 0, none⟩)] (ent_of Tryd.func49 (by kernel_rfl) rfl)
    (fun k => (cs.getD k 0).toNat) (fun k => ⟨by
      have : 0 ≤ cs.getD k 0 ∧ cs.getD k 0 < 256 := by
        simp only [List.getD]
        cases e : cs[k]? with
        | none => simp
        | some u => exact hcs u (List.mem_of_getElem? e)
      omega, rfl⟩) (fun k wr _ hO => crash1_in wr k w.heap.size n c A cs ((hO.blk hbx (fun hk => by have := hF0 _ hk; omega)).cell (i := 0) rfl) (hx1.only hO hxF) hn hcs)
  have Hw1 := Lib.hid hw1
  clear hw1 h1 hx1
  go_enter Tryd.func22, Tryd.ntmps22
  go_wp2_with fail
  rw [← Hw1.out]
  clear Hw1
  refine hno.mono ?_
  rintro e w2 ⟨rfl, hw⟩
  obtain rfl := hw.symm
  go_wp2_with fail
  refine hset.mono ?_
  rintro e w2 ⟨rfl, hp2, hO2⟩
  obtain ⟨hwf2, _, hfin2, sb, mb, vs, vw, cc, L, h2⟩ := hp2
  have hc4 := h2.head.cell (i := 4) rfl
  have hf4 := h2.head.frozen 4
  have hb3 := h2.head.set 4 (.bool false)
  have hc3 := hb3.cell (i := 3) rfl
  have hf3 := hb3.frozen 3
  have hb4 := hb3.set 3 (.int .i64 (-1))
  have hO4 : Only F w2 ((w2.setCell ⟨b, 4, none⟩ (.bool false)).setCell ⟨b, 3, none⟩ (.int .i64 (-1))) := ((Only.refl F w2).set (Or.inr h2.fb) _).set (Or.inr h2.fb) _
  have Hfin := Lib.hid (show PD F ((w2.setCell ⟨b, 4, none⟩ (.bool false)).setCell ⟨b, 3, none⟩ (.int .i64 (-1))) b (S.crashed cs) from
    ⟨hwf2.cutOff (-1) false (by omega) (by omega), h2.fb, fun k hk => Nat.lt_of_lt_of_le (hfin2 k hk) hO4.size, sb, mb, vs, vw, -1, L,
      h2.upHead (S.crashed cs) (-1) rfl rfl rfl rfl rfl (by omega) (by omega) (fun _ => rfl) hb4 (fun k _ hne => (blk_setCell_other _ _ _ _ hne).trans (blk_setCell_other _ _ _ _ hne))⟩)
  have HO := Lib.hid (show Only F w ((w2.setCell ⟨b, 4, none⟩ (.bool false)).setCell ⟨b, 3, none⟩ (.int .i64 (-1))) from ((Only.of_below (F := F) hb1).trans hO2 (fun _ _ h => h)).trans hO4 (fun _ _ h => h))
  clear h2 hwf2 hfin2 hb3 hb4 hO4 hO2 hset
  go_wp2
  go_end0
  exact ⟨rfl, More.refl Hfin.out, HO.out⟩
end
end Go.Proofs.YteliebinhdphlaaDoor

/- The program's disk: New. -/
namespace Go.Proofs.YteliebinhdphlaaDoor
set_option maxRecDepth 100000
open Go.RowKit Go.Deep
set_option linter.unusedSimpArgs false
set_option linter.unusedVariables false

theorem step_make {P : Program} {ops : Array Oper} {o : Oper} {a : Act} {w : World} {K : Act → World → Prop} {Q : Exit → Act → World → Prop} {E : Prop} (hgd : o.guard = none) (l c : Operand) (t : TypeId) (hop : o.op = Op.makeSlice t l c)
    (e : TypeId) (i : TypeInfo) (z : Value) (size : Nat) (h1 : P.underlying t = some (.slice e)) (h2 : P.info? e = some i) (h3 : i.zero = some z) (h4 : i.size = size)
    (n : Nat) (hl : a.eval l = .int .i64 (n : Int)) (hc : a.eval c = .int .i64 (n : Int)) (hb : (i.bytes : Int) * (n : Int) ≤ 281474976710656) (hn : n ≤ 1000000)
    (hK : K (a.put o.dst (.slice (some ⟨w.heap.size, 0, none⟩) n n)) (w.alloc (.cells (madeCells z.cells (n * size)) e))) : if Region.wanted o (yielded ops a.tmps) = true then Oper.wp P o a w K Q else E := by
  rw [if_pos (by simp [Region.wanted, hgd])]
  subst h4
  have hr := run_make (P := P) w t e i z h1 h2 h3 .i64 .i64 n n (by omega) (Int.le_refl _) hb (by omega)
  simp only [Int.toNat_natCast] at hr
  unfold Oper.wp
  simp [execOp, hop, hl, hc, hr, Result.andThen]
  exact hK

/-- The zero of a sector. -/
def zeroSec : Array Value := (u8s zeros128 ++ [Value.bool false, Value.int .i64 0]).toArray
theorem zeroSec_size : zeroSec.size = 130 := by kernel_rfl
theorem info_sec : (Tryd.prog.info? 103).map (fun i => (i.zero, i.size, i.bytes)) = some (some (.agg zeroSec), 130, 144) := by kernel_rfl
theorem zeroSec_at : (∀ j, j < 128 → zeroSec[j]? = some (.int .u8 0)) ∧ zeroSec[128]? = some (.bool false) ∧ zeroSec[129]? = some (.int .i64 0) := by
  refine ⟨fun j hj => ?_, by kernel_rfl, by kernel_rfl⟩
  unfold zeroSec
  rw [List.getElem?_toArray, List.getElem?_append_left (by simp [zeros128]; exact hj), List.getElem?_map]
  unfold zeros128
  rw [List.getElem?_replicate, if_pos hj]; rfl
theorem made_at (n i j : Nat) (hi : i < n) (hj : j < 130) : (madeCells zeroSec (n * 130)).toList[i * 130 + j]? = zeroSec[j]? := by
  have hlt : i * 130 + j < n * 130 := by omega
  have hj2 : j < zeroSec.size := by rw [zeroSec_size]; exact hj
  unfold madeCells
  rw [Array.getElem?_toList, Array.getElem?_map, Array.getElem?_range, if_pos hlt, Option.map_some, zeroSec_size, show (i * 130 + j) % 130 = j by omega]
  simp [hj2]
theorem new_secs (n : Nat) (room : Int) : SecsOf (madeCells zeroSec (n * 130)).toList (DS.new n room) 0 := by
  obtain ⟨z1, z2, z3⟩ := zeroSec_at
  refine ⟨by simp [DS.new, size_madeCells], ?_, ?_, ?_⟩
  · intro i r hi j u hj
    have hi2 : (List.replicate n zeros128)[i]? = some r := hi
    rw [List.getElem?_replicate] at hi2
    split at hi2
    · next h =>
      cases hi2
      unfold zeros128 at hj
      rw [List.getElem?_replicate] at hj
      split at hj
      · next h2 =>
        cases hj
        rw [made_at n i j h (by omega)]; exact z1 j h2
      · cases hj
    · cases hi2
  · intro i u hi
    have hi2 : (List.replicate n false)[i]? = some u := hi
    rw [List.getElem?_replicate] at hi2
    split at hi2
    · next h =>
      cases hi2
      rw [made_at n i 128 h (by omega)]; exact z2
    · cases hi2
  · intro i hi
    have hi2 : i < n := by simpa [DS.new] using hi
    rw [made_at n i 129 hi2 (by omega)]; exact z3
theorem new_used (n : Nat) (room : Int) : (DS.new n room).used = 0 := by
  unfold DS.used usedTo
  rw [List.countP_eq_zero]
  intro i hi
  have hi := List.mem_range.1 hi
  have hi2 : i < n := by simpa [DS.new] using hi
  unfold DS.isUse DS.waitsFor DS.new
  simp [List.getD, hi2]
theorem pd_new {w w' : World} {b sb mb n : Nat} {room : Nat} (h1 : 1 ≤ n) (h2 : n ≤ 4096) (h3 : room ≤ n)
    (hb : Blk w' b 101 [.slice (some ⟨sb, 0, none⟩) n n, .slice none 0 0, .int .i64 (room : Int), .int .i64 (-1), .bool false, .pointer (some ⟨mb, 0, none⟩)]) (hs : Blk w' sb 103 (madeCells zeroSec (n * 130)).toList) (hm : PMet w' mb [0, 0, 0, 0, 0, 0])
    (gb : w.heap.size ≤ b) (gs : w.heap.size ≤ sb) (gm : w.heap.size ≤ mb) : PD (fun k => w.heap.size ≤ k ∧ k < w'.heap.size) w' b (DS.new n (room : Int)) := by
  refine ⟨DWf.new h1 h2 (by omega) (by omega), ⟨gb, hb.lt⟩, fun k hk => hk.2, sb, mb, _, _, -1, _, ⟨⟨gb, hb.lt⟩, ⟨gs, hs.lt⟩, ⟨gm, hm.lt⟩, ?_, hs, new_secs n _, Or.inl ⟨rfl, rfl⟩, rfl, ?_, by omega, by omega, fun _ => rfl, hm, rfl⟩⟩
  · rw [new_used]
    have e : (DS.new n (room : Int)).room - ((0 : Nat) : Int) = (room : Int) := by show (room : Int) - 0 = _; omega
    rw [e, show (DS.new n (room : Int)).kept.length = n by simp [DS.new]]
    exact hb
  · rw [new_used]; show ((0 : Nat) : Int) ≤ (room : Int); omega

theorem dnew_bad (w : World) (s room : Int) (h : s < 1 ∨ 4096 < s ∨ room < 0 ∨ s < room) :
    Calls Tryd.prog 63 #[.int .i64 s, .int .i64 room] w fun e w' => e = .returned (.tuple #[.pointer none, .int .i64 2]) ∧ Only Nothing w w' := by
  by_cases c1 : s < 1
  · have d1 : decide (s < 1) = true := decide_eq_true c1
    go_enter Tryd.func63, Tryd.ntmps63
    go_wp2
    go_ret2
    exact ⟨rfl, Only.none_ _⟩
  · have d1 : decide (s < 1) = false := decide_eq_false c1
    by_cases c2 : 4096 < s
    · have d2 : decide (4096 < s) = true := decide_eq_true c2
      go_enter Tryd.func63, Tryd.ntmps63
      go_wp2
      go_ret2
      exact ⟨rfl, Only.none_ _⟩
    · have d2 : decide (4096 < s) = false := decide_eq_false c2
      by_cases c3 : room < 0
      · have d3 : decide (room < 0) = true := decide_eq_true c3
        go_enter Tryd.func63, Tryd.ntmps63
        go_wp2
        go_ret2
        exact ⟨rfl, Only.none_ _⟩
      · have d3 : decide (room < 0) = false := decide_eq_false c3
        have d4 : decide (s < room) = true := decide_eq_true (by omega)
        go_enter Tryd.func63, Tryd.ntmps63
        go_wp2
        go_ret2
        exact ⟨rfl, Only.none_ _⟩

set_option maxRecDepth 100000 in
set_option maxHeartbeats 3200000 in
theorem dnew_is (w : World) (s room : Nat) (h1 : 1 ≤ s) (h2 : s ≤ 4096) (h3 : room ≤ s) :
    Calls Tryd.prog 63 #[.int .i64 (s : Int), .int .i64 (room : Int)] w fun e w' => ∃ b, e = .returned (.tuple #[.pointer (some ⟨b, 0, none⟩), .int .i64 0]) ∧ PD (fun k => w.heap.size ≤ k ∧ k < w'.heap.size) w' b (DS.new s (room : Int)) ∧ Below w.heap.size w w' := by
  have d1 : decide ((s : Int) < 1) = false := decide_eq_false (by omega)
  have d2 : decide (4096 < (s : Int)) = false := decide_eq_false (by omega)
  have d3 : decide ((room : Int) < 0) = false := decide_eq_false (by omega)
  have d4 : decide ((s : Int) < (room : Int)) = false := decide_eq_false (by omega)
  obtain ⟨ip, hip, hzp, hsp, hbp⟩ := info_parts' info_sec
  go_enter Tryd.func63, Tryd.ntmps63
  go_upto_region 3 with fail
  refine wp_region_any (by kernel_rfl) ?_
  try (change wpAny _ _ _ _ _ _ _ (World.drew _))
  refine wpAny_take (i := 0) (oi := ?oiy1) (v := ?vy1) ?hiy1 ?hay1 ?hby1 ?hcy1 ?hqy1 ?hyy1 ?resty1
  case hiy1 => (simp only [List.getElem?_toArray, List.getElem?_cons_zero, List.getElem?_cons_succ]; rfl)
  case hay1 => kernel_rfl
  case hby1 => kernel_rfl
  case hcy1 => kernel_rfl
  case hyy1 => exact Or.inl ⟨by rfl, by (intro w; go_simp; (try with_reducible rfl))⟩
  case hqy1 => exact fun _ _ _ h => h
  try simp only [Act.put, List.setIfInBounds_toArray, List.set_cons_zero, List.set_cons_succ]
  refine wpAny_take (i := 2) (oi := ?oiy2) (v := ?vy2) ?hiy2 ?hay2 ?hby2 ?hcy2 ?hqy2 ?hyy2 ?resty2
  case hiy2 => (simp only [List.getElem?_toArray, List.getElem?_cons_zero, List.getElem?_cons_succ]; rfl)
  case hay2 => kernel_rfl
  case hby2 => kernel_rfl
  case hcy2 => kernel_rfl
  case hyy2 => exact Or.inl ⟨by rfl, by (intro w; go_simp; (try with_reducible rfl))⟩
  case hqy2 => exact fun _ _ _ h => h
  try simp only [Act.put, List.setIfInBounds_toArray, List.set_cons_zero, List.set_cons_succ]
  refine wpAny_ready (rs := [1, 3]) (by kernel_rfl) (by simp) ?_
  refine AllReady.cons (o := ?oiy3f0) ?hiy3f0 (fun K hK => ?stepy3f0) ?morey3f0
  case hiy3f0 => (simp only [List.getElem?_toArray, List.getElem?_cons_zero, List.getElem?_cons_succ]; rfl)
  case stepy3f0 =>
    refine step_make rfl (.tmp 21) (.tmp 21) 98 rfl 103 ip (.agg zeroSec) 130 Tryd.underlying98 hip hzp hsp s (by simp [Act.eval]) (by simp [Act.eval]) (by rw [hbp]; omega) (by omega) ?_
    refine hK _ _ ?_
    clear hK K
    try simp only [Act.put, List.setIfInBounds_toArray, List.set_cons_zero, List.set_cons_succ]
    refine wpAny_ready (rs := [3]) (by kernel_rfl) (by simp) ?_
    refine AllReady.cons (o := ?oiy4f0) ?hiy4f0 (fun K hK => ?stepy4f0) ?morey4f0
    case hiy4f0 => (simp only [List.getElem?_toArray, List.getElem?_cons_zero, List.getElem?_cons_succ]; rfl)
    case stepy4f0 =>
      go_simp
      refine (pnew_is _).mono ?_
      rintro e w2 ⟨mb, rfl, hmb, hm2, hb2⟩
      refine hK _ _ ?_
      clear hK K
      try simp only [Act.put, List.setIfInBounds_toArray, List.set_cons_zero, List.set_cons_succ]
      refine wpAny_take (i := 4) (oi := ?oiy5) (v := ?vy5) ?hiy5 ?hay5 ?hby5 ?hcy5 ?hqy5 ?hyy5 ?resty5
      case hiy5 => (simp only [List.getElem?_toArray, List.getElem?_cons_zero, List.getElem?_cons_succ]; rfl)
      case hay5 => kernel_rfl
      case hby5 => kernel_rfl
      case hcy5 => kernel_rfl
      case hyy5 => exact Or.inl ⟨by rfl, by (intro w; go_simp; (try with_reducible rfl))⟩
      case hqy5 => exact fun _ _ _ h => h
      try simp only [Act.put, List.setIfInBounds_toArray, List.set_cons_zero, List.set_cons_succ]
      refine wpAny_ready (rs := [5]) (by kernel_rfl) (by simp) ?_
      refine AllReady.cons (o := ?oiy6f0) ?hiy6f0 (fun K hK => ?stepy6f0) ?morey6f0
      case hiy6f0 => (simp only [List.getElem?_toArray, List.getElem?_cons_zero, List.getElem?_cons_succ]; rfl)
      case stepy6f0 =>
        go_simp
        refine hK _ _ ?_
        clear hK K
        try simp only [Act.put, List.setIfInBounds_toArray, List.set_cons_zero, List.set_cons_succ]
        refine wpAny_ready (rs := [6]) (by kernel_rfl) (by simp) ?_
        refine AllReady.cons (o := ?oiy7f0) ?hiy7f0 (fun K hK => ?stepy7f0) ?morey7f0
        case hiy7f0 => (simp only [List.getElem?_toArray, List.getElem?_cons_zero, List.getElem?_cons_succ]; rfl)
        case stepy7f0 =>
          go_simp
          refine hK _ _ ?_
          clear hK K
          try simp only [Act.put, List.setIfInBounds_toArray, List.set_cons_zero, List.set_cons_succ]
          refine wpAny_ready (rs := [7]) (by kernel_rfl) (by simp) ?_
          refine AllReady.cons (o := ?oiy8f0) ?hiy8f0 (fun K hK => ?stepy8f0) ?morey8f0
          case hiy8f0 => (simp only [List.getElem?_toArray, List.getElem?_cons_zero, List.getElem?_cons_succ]; rfl)
          case stepy8f0 =>
            go_simp
            refine hK _ _ ?_
            clear hK K
            try simp only [Act.put, List.setIfInBounds_toArray, List.set_cons_zero, List.set_cons_succ]
            refine wpAny_done (by kernel_rfl) ?_ _
            go_wp2
            go_ret2
            have hsz : (w.alloc (.cells (madeCells zeroSec (s * 130)) 103)).heap.size = w.heap.size + 1 := nblk_alloc _ _
            have hX : Blk (w.alloc (.cells (madeCells zeroSec (s * 130)) 103)).drew w.heap.size 103 (madeCells zeroSec (s * 130)).toList := Blk.new w 103 (madeCells zeroSec (s * 130)).toList
            have hmb' : w.heap.size + 1 ≤ mb := by rw [← hsz]; exact hmb
            have hw2s : w.heap.size + 1 ≤ w2.heap.size := by rw [← hsz]; exact hb2.size
            have hs2 : Blk w2 w.heap.size 103 (madeCells zeroSec (s * 130)).toList := hX.kept (hb2.block _ (show w.heap.size < (w.alloc (.cells (madeCells zeroSec (s * 130)) 103)).heap.size by rw [hsz]; omega))
            have hbel : Below w.heap.size w (w.alloc (.cells (madeCells zeroSec (s * 130)) 103)).drew := by
              have h0 := below_alloc w (.cells (madeCells zeroSec (s * 130)) 103)
              exact ⟨h0.os, h0.tape, h0.output, h0.size, h0.block⟩
            exact ⟨w2.heap.size, rfl, pd_new h1 h2 h3 (Blk.new w2 101 [.slice (some ⟨w.heap.size, 0, none⟩) s s, .slice none 0 0, .int .i64 (room : Int), .int .i64 (-1), .bool false, .pointer (some ⟨mb, 0, none⟩)]) (hs2.alloc _) (hm2.kept (blk_alloc_lt _ _ _ hm2.lt)) (by omega) (Nat.le_refl _) (by omega), (hbel.trans (hb2.mono (show w.heap.size ≤ (w.alloc (.cells (madeCells zeroSec (s * 130)) 103)).heap.size by rw [hsz]; omega))).trans ((below_alloc w2 _).mono (by omega))⟩
          case morey8f0 => exact AllReady.nil
        case morey7f0 => exact AllReady.nil
      case morey6f0 => exact AllReady.nil
    case morey4f0 => exact AllReady.nil
  case morey3f0 =>
    refine AllReady.cons (o := ?oiy3f1) ?hiy3f1 (fun K hK => ?stepy3f1) ?morey3f1
    case hiy3f1 => (simp only [List.getElem?_toArray, List.getElem?_cons_zero, List.getElem?_cons_succ]; rfl)
    case stepy3f1 =>
      go_simp
      refine (pnew_is _).mono ?_
      rintro e w2 ⟨mb, rfl, hmb, hm2, hb2⟩
      refine hK _ _ ?_
      clear hK K
      try simp only [Act.put, List.setIfInBounds_toArray, List.set_cons_zero, List.set_cons_succ]
      refine wpAny_ready (rs := [1]) (by kernel_rfl) (by simp) ?_
      refine AllReady.cons (o := ?oiy10f0) ?hiy10f0 (fun K hK => ?stepy10f0) ?morey10f0
      case hiy10f0 => (simp only [List.getElem?_toArray, List.getElem?_cons_zero, List.getElem?_cons_succ]; rfl)
      case stepy10f0 =>
        refine step_make rfl (.tmp 21) (.tmp 21) 98 rfl 103 ip (.agg zeroSec) 130 Tryd.underlying98 hip hzp hsp s (by simp [Act.eval]) (by simp [Act.eval]) (by rw [hbp]; omega) (by omega) ?_
        refine hK _ _ ?_
        clear hK K
        try simp only [Act.put, List.setIfInBounds_toArray, List.set_cons_zero, List.set_cons_succ]
        refine wpAny_take (i := 4) (oi := ?oiy11) (v := ?vy11) ?hiy11 ?hay11 ?hby11 ?hcy11 ?hqy11 ?hyy11 ?resty11
        case hiy11 => (simp only [List.getElem?_toArray, List.getElem?_cons_zero, List.getElem?_cons_succ]; rfl)
        case hay11 => kernel_rfl
        case hby11 => kernel_rfl
        case hcy11 => kernel_rfl
        case hyy11 => exact Or.inl ⟨by rfl, by (intro w; go_simp; (try with_reducible rfl))⟩
        case hqy11 => exact fun _ _ _ h => h
        try simp only [Act.put, List.setIfInBounds_toArray, List.set_cons_zero, List.set_cons_succ]
        refine wpAny_ready (rs := [5]) (by kernel_rfl) (by simp) ?_
        refine AllReady.cons (o := ?oiy12f0) ?hiy12f0 (fun K hK => ?stepy12f0) ?morey12f0
        case hiy12f0 => (simp only [List.getElem?_toArray, List.getElem?_cons_zero, List.getElem?_cons_succ]; rfl)
        case stepy12f0 =>
          go_simp
          refine hK _ _ ?_
          clear hK K
          try simp only [Act.put, List.setIfInBounds_toArray, List.set_cons_zero, List.set_cons_succ]
          refine wpAny_ready (rs := [6]) (by kernel_rfl) (by simp) ?_
          refine AllReady.cons (o := ?oiy13f0) ?hiy13f0 (fun K hK => ?stepy13f0) ?morey13f0
          case hiy13f0 => (simp only [List.getElem?_toArray, List.getElem?_cons_zero, List.getElem?_cons_succ]; rfl)
          case stepy13f0 =>
            go_simp
            refine hK _ _ ?_
            clear hK K
            try simp only [Act.put, List.setIfInBounds_toArray, List.set_cons_zero, List.set_cons_succ]
            refine wpAny_ready (rs := [7]) (by kernel_rfl) (by simp) ?_
            refine AllReady.cons (o := ?oiy14f0) ?hiy14f0 (fun K hK => ?stepy14f0) ?morey14f0
            case hiy14f0 => (simp only [List.getElem?_toArray, List.getElem?_cons_zero, List.getElem?_cons_succ]; rfl)
            case stepy14f0 =>
              go_simp
              refine hK _ _ ?_
              clear hK K
              try simp only [Act.put, List.setIfInBounds_toArray, List.set_cons_zero, List.set_cons_succ]
              refine wpAny_done (by kernel_rfl) ?_ _
              go_wp2
              go_ret2
              have hsz : (w2.alloc (.cells (madeCells zeroSec (s * 130)) 103)).heap.size = w2.heap.size + 1 := nblk_alloc _ _
              have hmb' : w.heap.size ≤ mb := hmb
              have hw2s : w.heap.size ≤ w2.heap.size := hb2.size
              have hs2 : Blk (w2.alloc (.cells (madeCells zeroSec (s * 130)) 103)) w2.heap.size 103 (madeCells zeroSec (s * 130)).toList := Blk.new w2 103 (madeCells zeroSec (s * 130)).toList
              have hm3 := hm2.kept (blk_alloc_lt _ (.cells (madeCells zeroSec (s * 130)) 103) _ hm2.lt)
              have hd3 : Blk ((w2.alloc (.cells (madeCells zeroSec (s * 130)) 103)).alloc (.cells #[.slice (some ⟨w2.heap.size, 0, none⟩) s s, .slice none 0 0, .int .i64 (room : Int), .int .i64 (-1), .bool false, .pointer (some ⟨mb, 0, none⟩)] 101)) (w2.heap.size + 1) 101 [.slice (some ⟨w2.heap.size, 0, none⟩) s s, .slice none 0 0, .int .i64 (room : Int), .int .i64 (-1), .bool false, .pointer (some ⟨mb, 0, none⟩)] := by
                have := Blk.new (w2.alloc (.cells (madeCells zeroSec (s * 130)) 103)) 101 [.slice (some ⟨w2.heap.size, 0, none⟩) s s, .slice none 0 0, .int .i64 (room : Int), .int .i64 (-1), .bool false, .pointer (some ⟨mb, 0, none⟩)]
                rw [hsz] at this; exact this
              have hbel : Below w.heap.size w w2 := ⟨hb2.os, hb2.tape, hb2.output, hb2.size, hb2.block⟩
              exact ⟨w2.heap.size + 1, rfl, pd_new h1 h2 h3 hd3 (hs2.alloc _) (hm3.kept (blk_alloc_lt _ _ _ hm3.lt)) (by omega) (by omega) (by omega), (hbel.trans ((below_alloc w2 _).mono (by omega))).trans ((below_alloc _ _).mono (by rw [hsz]; omega))⟩
            case morey14f0 => exact AllReady.nil
          case morey13f0 => exact AllReady.nil
        case morey12f0 => exact AllReady.nil
      case morey10f0 => exact AllReady.nil
    case morey3f1 => exact AllReady.nil
end Go.Proofs.YteliebinhdphlaaDoor

/- A slice cut at its front: 's[k:]' of a slice that may be nil or empty. No function of the program is named here. -/
namespace Go.Proofs.YteliebinhdphlaaDoor
set_option maxRecDepth 100000
open Go.RowKit
set_option linter.unusedSimpArgs false
set_option linter.unusedVariables false

theorem Sl.dropped {w : World} {ad : Addr} {n k : Nat} {xs : List Value} (h : Sl w (some ad) n xs) : Sl w (some (ad.add k)) (n - k) (xs.drop k) := by
  refine ⟨by rw [List.length_drop, h.1], fun j u hu => ⟨_, rfl, ?_⟩⟩
  rw [List.getElem?_drop] at hu
  obtain ⟨ad', e, hc⟩ := h.2 (k + j) u hu
  cases e
  rw [addr_twice]
  exact hc
theorem Sl.cutAt {w : World} {A : Option Addr} {n c s : Nat} {xs : List Value} (h : Sl w A n xs) (hs : s ≤ n) (hc : n ≤ c) : Sl w (if c = s then A else A.map (·.add s)) (n - s) (xs.drop s) := by
  by_cases he : n = s
  · subst he
    rw [Nat.sub_self, List.drop_of_length_le (by rw [h.1]; exact Nat.le_refl _)]
    exact Sl.nil_ _ _
  · rw [if_neg (by omega)]
    obtain ⟨ad, rfl, _⟩ := h.at_ (k := s) (by omega)
    exact h.dropped

theorem run_cut {P : Program} {t e : TypeId} {i : TypeInfo} (ht : P.underlying t = some (.slice e)) (hi : P.info? e = some i) (hs1 : i.size = 1) (A : Option Addr) (n c s : Nat) (kd : IntKind) (hs : s ≤ n) (w : World) :
    (Instr.sliceAt t (.slice A n c) (some (.int kd (s : Int))) none none).run P w = .ok (.slice (if c = s then A else A.map (·.add s)) (n - s) (c - s)) w := by
  have hb : (Instr.sliceBound (.int kd (s : Int)) n .sliceB).run P w = .ok s w := by
    simp [Instr.sliceBound, asIntOf, go_sem]
    omega
  simp [Instr.sliceAt, Instr.slice, Instr.sliceBounds, run_underlying ht, sizeOf, typeInfo, hi, hs1, hb, go_sem]

/-- 's[k:]', k within its length. -/
theorem wpList_cut {P : Program} {W : World} {ops : Array Oper} {rest : List Oper} {o : Oper} {a : Act} {Q : Exit → Act → World → Prop} (x l : Operand) (t e : TypeId) (i : TypeInfo)
    (hgd : o.guard = none) (ho : o.op = Op.slice t x (some l) none none) (ht : P.underlying t = some (.slice e)) (hi : P.info? e = some i) (hs1 : i.size = 1)
    (A : Option Addr) (n c s : Nat) (kd : IntKind) (hx : a.eval x = .slice A n c) (hl : a.eval l = .int kd (s : Int)) (hs : s ≤ n) (hc : n ≤ c)
    (h : ∀ A' : Option Addr, (∀ w xs, Sl w A n xs → Sl w A' (n - s) (xs.drop s)) → wpList P ops Q rest (a.put o.dst (.slice A' (n - s) (c - s))) W) :
    wpList P ops Q (o :: rest) a W := by
  refine wpList_plain hgd fun K hK => ?_
  unfold Oper.wp execOp
  simp only [ho, Option.map_some, Option.map_none, hx, hl, Sem.run_bind, run_cut ht hi hs1 A n c s kd hs, Result.andThen_ok]
  exact hK _ _ (h _ (fun w xs hsl => hsl.cutAt hs hc))
end Go.Proofs.YteliebinhdphlaaDoor

/- The program's disk: Load. -/
namespace Go.Proofs.YteliebinhdphlaaDoor
set_option maxRecDepth 100000
open Go.RowKit Go.Deep
set_option linter.unusedSimpArgs false
set_option linter.unusedVariables false

theorem dload_bad (w : World) (A : Option Addr) (n c : Nat) (s room : Int) (hn : n ≤ 9223372036854775807) (hbad : s < 1 ∨ 4096 < s ∨ room < 0 ∨ s < room ∨ 128 * s < (n : Int)) :
    Calls Tryd.prog 38 #[.slice A n c, .int .i64 s, .int .i64 room] w fun e w' => e = .returned (.tuple #[.pointer none, .int .i64 2]) ∧ Below w.heap.size w w' := by
  by_cases hb : s < 1 ∨ 4096 < s ∨ room < 0 ∨ s < room
  · have hnew := dnew_bad w s room hb
    go_enter Tryd.func38, Tryd.ntmps38
    go_wp2_with fail
    refine hnew.mono ?_
    rintro e w1 ⟨rfl, hO⟩
    go_wp2
    go_ret2
    exact ⟨rfl, hO.below (Nat.le_refl _) (fun _ h => h.elim)⟩
  · obtain ⟨sn, rfl⟩ : ∃ sn : Nat, s = (sn : Int) := ⟨s.toNat, by omega⟩
    obtain ⟨rn, rfl⟩ : ∃ rn : Nat, room = (rn : Int) := ⟨room.toNat, by omega⟩
    have hnew := dnew_is w sn rn (by omega) (by omega) (by omega)
    have hmul : (sn : Int) * 128 < (n : Int) := by omega
    have hd : decide ((sn : Int) * 128 < (n : Int)) = true := decide_eq_true hmul
    have hs4 : (sn : Int) ≤ 4096 := by omega
    go_enter Tryd.func38, Tryd.ntmps38
    go_wp2_with fail
    refine hnew.mono ?_
    rintro e w1 ⟨b, rfl, hp, hbel⟩
    clear hp
    go_wp2
    go_ret2
    exact ⟨rfl, hbel⟩

theorem loaded_used (n : Nat) (room : Int) (xs : List Int) (h : xs.length ≤ 128 * n) : (DS.loaded n room xs).used = sectorsOf xs.length := by
  unfold DS.used usedTo
  have e1 : (DS.loaded n room xs).kept.length = n := by simp [DS.loaded]
  rw [e1]
  have e2 : ∀ i : Nat, i < n → (DS.loaded n room xs).isUse (i : Int) = decide (128 * i < xs.length) := by
    intro i hi
    unfold DS.isUse DS.waitsFor DS.loaded
    simp [List.getD, hi]
  have e3 : (List.range n).countP (fun (i : Nat) => (DS.loaded n room xs).isUse (i : Int)) = (List.range n).countP (fun (i : Nat) => decide (128 * i < xs.length)) :=
    List.countP_congr (fun i hi => by rw [e2 i (List.mem_range.1 hi)])
  rw [e3]
  have key : ∀ m : Nat, (List.range m).countP (fun (i : Nat) => decide (128 * i < xs.length)) = min m (sectorsOf xs.length) := by
    intro m
    induction m with
    | zero => simp
    | succ m ih =>
      rw [List.range_succ, List.countP_append, ih]
      simp only [List.countP_cons, List.countP_nil, Nat.zero_add]
      unfold sectorsOf
      by_cases hm : 128 * m < xs.length
      · rw [decide_eq_true hm, if_pos rfl]; omega
      · rw [decide_eq_false hm, if_neg (by simp)]; omega
  rw [key]
  unfold sectorsOf; omega

/-- A sector's first cells with new bytes. -/
def loadIn (vs : List Value) (k : Nat) (bs : List Int) : List Value := (vs.take (k * 130) ++ u8s bs ++ vs.drop (k * 130 + bs.length)).set (k * 130 + 128) (.bool true)
theorem loadIn_at {vs : List Value} {k : Nat} {bs : List Int} (h : k * 130 + 130 ≤ vs.length) (hb : bs.length ≤ 128) (x : Nat) :
    (loadIn vs k bs)[x]? = if x = k * 130 + 128 then some (.bool true) else if k * 130 ≤ x ∧ x < k * 130 + bs.length then (u8s bs)[x - k * 130]? else vs[x]? := by
  have hl : (u8s bs).length = bs.length := by rw [List.length_map]
  unfold loadIn
  rw [set_at _ _ _ _ (by rw [List.length_append, List.length_append, List.length_take, List.length_drop, hl]; omega)]
  have := put_at vs (u8s bs) (k * 130) x (by rw [hl]; omega)
  rw [hl] at this
  rw [this]
theorem loadIn_len {vs : List Value} {k : Nat} {bs : List Int} (h : k * 130 + 130 ≤ vs.length) (hb : bs.length ≤ 128) : (loadIn vs k bs).length = vs.length := by
  unfold loadIn
  rw [List.length_set, List.length_append, List.length_append, List.length_take, List.length_drop, List.length_map]
  omega
theorem loaded_secs {n : Nat} {room : Int} {xs : List Int} {vs : List Value} {k : Nat} (hk : 128 * k < xs.length) (hn : xs.length ≤ 128 * n) (h : SecsOf vs (DS.loaded n room (xs.take (128 * k))) 0) :
    SecsOf (loadIn vs k ((xs.drop (128 * k)).take 128)) (DS.loaded n room (xs.take (128 * (k + 1)))) 0 := by
  have hkn : k < n := by omega
  have e1 : ∀ ys : List Int, (DS.loaded n room ys).kept.length = n := fun ys => by simp [DS.loaded]
  have hlen := h.len
  rw [e1] at hlen
  have hv : k * 130 + 130 ≤ vs.length := by omega
  have hbl : ((xs.drop (128 * k)).take 128).length = min 128 (xs.length - 128 * k) := by rw [List.length_take, List.length_drop]
  refine ⟨by rw [loadIn_len hv (by omega), hlen, e1], ?_, ?_, ?_⟩
  · intro i r hi j u hj
    have hi2 : ((List.range n).map (rowOf (xs.take (128 * (k + 1)))))[i]? = some r := hi
    rw [List.getElem?_map] at hi2
    obtain ⟨i', hi3, rfl⟩ := Option.map_eq_some_iff.1 hi2
    have hin : i < n := by have := (List.getElem?_eq_some_iff.1 hi3).1; simpa using this
    rw [List.getElem?_range hin] at hi3
    cases hi3
    have hj128 : j < 128 := by have := (List.getElem?_eq_some_iff.1 hj).1; rw [rowOf_len] at this; exact this
    rw [loadIn_at hv (by omega), if_neg (by omega)]
    have hrow : ∀ ys : List Int, (rowOf ys i)[j]? = some (ys.getD (128 * i + j) 0) := fun ys => by simp [rowOf, hj128]
    rw [hrow] at hj
    have hju := Option.some.inj hj
    have hold := h.kept i (rowOf (xs.take (128 * k)) i) (by show ((List.range n).map (rowOf (xs.take (128 * k))))[i]? = _; simp [hin]) j _ (hrow _)
    by_cases hik : i = k
    · subst hik
      by_cases hjb : j < ((xs.drop (128 * i)).take 128).length
      · rw [if_pos (by omega), show i * 130 + j - i * 130 = j by omega, List.getElem?_map, List.getElem?_take, if_pos hj128, List.getElem?_drop]
        rw [← hju]
        simp only [List.getD]
        rw [List.getElem?_take, if_pos (by omega)]
        have : 128 * i + j < xs.length := by omega
        rw [List.getElem?_eq_getElem this]; rfl
      · rw [if_neg (by omega), hold, ← hju]
        simp only [List.getD]
        rw [List.getElem?_take, if_neg (by omega), List.getElem?_take]
        split
        · rw [List.getElem?_eq_none (by omega)]
        · rfl
    · rw [if_neg (by omega), hold, ← hju]
      simp only [List.getD]
      rw [List.getElem?_take, List.getElem?_take]
      by_cases hlt : i < k
      · rw [if_pos (by omega), if_pos (by omega)]
      · rw [if_neg (by omega), if_neg (by omega)]
  · intro i u hi
    have hi2 : ((List.range n).map (fun s => decide (128 * s < (xs.take (128 * (k + 1))).length)))[i]? = some u := hi
    rw [List.getElem?_map] at hi2
    obtain ⟨i', hi3, rfl⟩ := Option.map_eq_some_iff.1 hi2
    have hin : i < n := by have := (List.getElem?_eq_some_iff.1 hi3).1; simpa using this
    rw [List.getElem?_range hin] at hi3
    cases hi3
    rw [loadIn_at hv (by omega)]
    by_cases hik : i = k
    · subst hik
      rw [if_pos rfl, decide_eq_true (by rw [List.length_take]; omega)]
    · rw [if_neg (by omega), if_neg (by omega)]
      rw [h.used i (decide (128 * i < (xs.take (128 * k)).length)) (by show ((List.range n).map (fun s => decide (128 * s < (xs.take (128 * k)).length)))[i]? = _; simp [hin])]
      congr 2
      rw [List.length_take, List.length_take]
      by_cases h1 : 128 * i < min (128 * k) xs.length
      · rw [decide_eq_true h1, decide_eq_true (by omega)]
      · rw [decide_eq_false h1, decide_eq_false (by omega)]
  · intro i hi
    rw [e1] at hi
    rw [loadIn_at hv (by omega), if_neg (by omega), if_neg (by omega)]
    exact h.last i (by rw [e1]; exact hi)

theorem load_step {F : Nat → Prop} {wr w' : World} {b n : Nat} {room : Int} {xs : List Int} {k sb mb : Nat} {vs : List Value} {vw : Value} {c : Int} {L : List Int} (hk : 128 * k < xs.length) (hn : xs.length ≤ 128 * n) (hroom : (sectorsOf xs.length : Int) ≤ room)
    (h : PDAt F wr b (DS.loaded n room (xs.take (128 * k))) 0 [] sb mb vs vw c L) (hs : Blk w' sb 103 (loadIn vs k ((xs.drop (128 * k)).take 128)))
    (hb : Blk w' b 101 [.slice (some ⟨sb, 0, none⟩) n n, vw, .int .i64 (room - (k : Int) - 1), .int .i64 c, .bool false, .pointer (some ⟨mb, 0, none⟩)]) (hsame : ∀ j, j < wr.heap.size → j ≠ sb → j ≠ b → w'.heap[j]? = wr.heap[j]?) :
    PDAt F w' b (DS.loaded n room (xs.take (128 * (k + 1)))) 0 [] sb mb (loadIn vs k ((xs.drop (128 * k)).take 128)) vw c L := by
  have e1 : ∀ ys : List Int, (DS.loaded n room ys).kept.length = n := fun ys => by simp [DS.loaded]
  obtain ⟨vm, hvm⟩ := h.met.blk
  have hu : (DS.loaded n room (xs.take (128 * (k + 1)))).used = k + 1 := by
    rw [loaded_used _ _ _ (by rw [List.length_take]; omega), List.length_take]; unfold sectorsOf; omega
  have hk2 : k + 1 ≤ sectorsOf xs.length := by unfold sectorsOf; omega
  refine ⟨h.fb, h.fs, h.fm, ?_, hs, loaded_secs hk hn h.secs, h.wait.kept (fun g _ hv => ?_), rfl, ?_, h.cut0, h.cut1, fun ho => h.cut rfl, h.met.kept (hsame mb h.met.lt (hvm.ne h.sect (by decide)) (hvm.ne h.head (by decide))), h.ops⟩
  · rw [e1, hu]
    have e : (DS.loaded n room (xs.take (128 * (k + 1)))).room - ((k + 1 : Nat) : Int) = room - (k : Int) - 1 := by show room - ((k + 1 : Nat) : Int) = _; omega
    rw [e]; exact hb
  · obtain ⟨vs', hv⟩ := hv
    exact hsame g hv.lt (hv.ne h.sect (by decide)) (hv.ne h.head (by decide))
  · rw [hu]; show ((k + 1 : Nat) : Int) ≤ room; omega
end Go.Proofs.YteliebinhdphlaaDoor

/- The program's disk: Load, the walk; Image. -/
namespace Go.Proofs.YteliebinhdphlaaDoor
set_option maxRecDepth 100000
open Go.RowKit Go.Deep
set_option linter.unusedSimpArgs false
set_option linter.unusedVariables false

set_option maxRecDepth 100000 in
set_option maxHeartbeats 6400000 in
theorem dload_in (w : World) (A : Option Addr) (n c : Nat) (s room : Nat) (xs : List Int) (hx : Sl w A n (u8s xs)) (hnc : n ≤ c) (hxb : ∀ x ∈ xs, 0 ≤ x ∧ x < 256) (h1 : 1 ≤ s) (h2 : s ≤ 4096) (h3 : room ≤ s) (h4 : n ≤ 128 * s) :
    Calls Tryd.prog 38 #[.slice A n c, .int .i64 (s : Int), .int .i64 (room : Int)] w fun e w' => Below w.heap.size w w' ∧
      ((sectorsOf n ≤ room ∧ ∃ b, e = .returned (.tuple #[.pointer (some ⟨b, 0, none⟩), .int .i64 0]) ∧ PD (fun k => w.heap.size ≤ k ∧ k < w'.heap.size) w' b (DS.loaded s (room : Int) xs)) ∨ (room < sectorsOf n ∧ e = .returned (.tuple #[.pointer none, .int .i64 52]))) := by
  have hln : xs.length = n := by simpa using hx.1
  have hnew := dnew_is w s room h1 h2 h3
  have hs4 : (s : Int) ≤ 4096 := by omega
  have hr4 : (room : Int) ≤ 4096 := by omega
  have hd1 : decide ((s : Int) * 128 < (n : Int)) = false := decide_eq_false (by omega)
  by_cases hfull : room < sectorsOf n
  · have hd2 : decide ((room : Int) * 128 < (n : Int)) = true := decide_eq_true (by unfold sectorsOf at hfull; omega)
    go_enter Tryd.func38, Tryd.ntmps38
    go_wp2_with fail
    refine hnew.mono ?_
    rintro e w1 ⟨b, rfl, hp, hbel⟩
    clear hp
    go_wp2
    go_ret2
    exact ⟨hbel, Or.inr ⟨hfull, rfl⟩⟩
  · have hd2 : decide ((room : Int) * 128 < (n : Int)) = false := decide_eq_false (by unfold sectorsOf at hfull; omega)
    have Hln := Lib.hid hln
    have Hxb := Lib.hid hxb
    have Hfull := Lib.hid (show sectorsOf n ≤ room by omega)
    obtain ⟨i8, hi8, hz8, hs8, hb8⟩ := info_parts' info_u8
    have H4 := Lib.hid h4
    clear hln hxb hfull h4
    go_enter Tryd.func38, Tryd.ntmps38
    go_wp2_with fail
    refine hnew.mono ?_
    rintro e w1 ⟨b, rfl, ⟨hwf, hFb, hfin, sb, mb, vs0, vw, cc, L, hp⟩, hbel⟩
    obtain ⟨F, hF⟩ : ∃ F : Nat → Prop, F = fun k => w.heap.size ≤ k ∧ k < w1.heap.size := ⟨_, rfl⟩
    have hFb : F b := by rw [hF]; exact hFb
    rw [← hF] at hp
    have HF := Lib.hid hF
    have hst0 : ∃ vs, PDAt F w1 b (DS.loaded s (room : Int) (xs.take (128 * 0))) 0 [] sb mb vs vw cc L := ⟨vs0, by rw [Nat.mul_zero, List.take_zero, loaded_nil]; exact hp⟩
    have Hst0 := Lib.hid hst0
    have Hsl0 := Lib.hid (show Sl w A (n - 128 * 0) (u8s (xs.drop (128 * 0))) by rw [Nat.mul_zero, Nat.sub_zero, List.drop_zero]; exact hx)
    have Hbs := Lib.hid (Nat.le_refl w1.heap.size)
    clear hst0 hp hF hwf hfin hnew
    go_wp2_with fail
    go_loopw [0, 10] (fun im i wr => ∃ (k : Nat) (A' : Option Addr) (c' : Nat), k ≤ sectorsOf n ∧ im = .slice A' (n - 128 * k) c' ∧ n - 128 * k ≤ c' ∧ i = .int .i64 k ∧ Hid (Sl w A' (n - 128 * k) (u8s (xs.drop (128 * k)))) ∧ Hid (∃ vs, PDAt F wr b (DS.loaded s (room : Int) (xs.take (128 * k))) 0 [] sb mb vs vw cc L) ∧ Below w.heap.size w wr ∧ Hid (w1.heap.size ≤ wr.heap.size)) (fun _ i _ => n - 128 * (intOf i).toNat)
    case atStart => exact ⟨0, A, c, Nat.zero_le _, rfl, by omega, rfl, Hsl0, Hst0, hbel, Hbs⟩
    case round =>
      clear Hsl0 Hst0 hbel Hbs
      obtain ⟨k, A', c', hk, rfl, hnk, rfl, hsl, hst, hb, hws⟩ := hrel
      by_cases hlt : 128 * k < n
      · obtain ⟨vs, hv⟩ := hst.out
        obtain ⟨nk, hnk'⟩ : ∃ nk, nk = n - 128 * k := ⟨_, rfl⟩
        have hsl1 := hsl.out
        rw [← hnk'] at hsl1 hnk ⊢
        have hnk0 : 0 < nk := by omega
        obtain ⟨ad, rfl, _⟩ := hsl1.at_ (k := 0) hnk0
        have e1 : ∀ ys : List Int, (DS.loaded s (room : Int) ys).kept.length = s := fun ys => by simp [DS.loaded]
        have hks : k < s := by have := H4.out; omega
        obtain ⟨m, hm⟩ : ∃ m, m = min nk 128 := ⟨_, rfl⟩
        have hbl : ((xs.drop (128 * k)).take 128).length = m := by rw [List.length_take, List.length_drop, Hln.out]; omega
        have hslw := hsl1.below hb
        have hlen := hv.secs.len
        rw [e1] at hlen
        have hv130 : k * 130 + 130 ≤ vs.length := by omega
        have hcopy : (Builtin.copy_ #[22, 22] 3 #[.slice (some ⟨sb, k * 130, none⟩) 128 128, .slice (some ad) nk c']).run Tryd.prog wr = .ok (.int .i64 (m : Int)) (wr.setCells sb (k * 130) (u8s ((xs.drop (128 * k)).take 128))) := by
          have := run_copy_cells (P := Tryd.prog) wr 22 22 3 5 sb (k * 130) 128 128 ad nk c' (u8s ((xs.drop (128 * k)).take 128)) Tryd.underlying22 (by kernel_rfl) (by rw [List.length_map, hbl, hm]) (fun j v hj => by
            rw [List.getElem?_map, List.getElem?_take] at hj
            split at hj
            · obtain ⟨ad', e, hc⟩ := hslw.2 j v (by rw [List.getElem?_map]; exact hj)
              cases e; exact hc
            · simp at hj) (fun j hj => by
            rw [List.length_map, hbl] at hj
            rw [hv.sect.cell (List.getElem?_eq_getElem (show k * 130 + j < vs.length by omega))]; rfl) (fun j _ => hv.sect.frozen _) (one_u8s _)
          rw [List.length_map, hbl] at this
          exact this
        obtain ⟨w2, hw2⟩ : ∃ w2, w2 = wr.setCells sb (k * 130) (u8s ((xs.drop (128 * k)).take 128)) := ⟨_, rfl⟩
        rw [← hw2] at hcopy
        have hsbb : sb ≠ b := hv.sect.ne hv.head (by decide)
        have hs2 : Blk w2 sb 103 (vs.take (k * 130) ++ u8s ((xs.drop (128 * k)).take 128) ++ vs.drop (k * 130 + (u8s ((xs.drop (128 * k)).take 128)).length)) := by
          rw [hw2]; exact setCells_blk _ _ _ _ hv.sect (by rw [List.length_map, hbl]; omega)
        have hl2 : (u8s ((xs.drop (128 * k)).take 128)).length = m := by rw [List.length_map, hbl]
        obtain ⟨u, hcu⟩ : ∃ u, w2.cell? ⟨sb, k * 130 + 128, none⟩ = some u := ⟨_, hs2.cell (List.getElem?_eq_getElem (by
          rw [List.length_append, List.length_append, List.length_take, List.length_drop, hl2]; omega))⟩
        have hfu := hs2.frozen (k * 130 + 128)
        have hb2 : Blk w2 b 101 _ := hv.head.kept (by rw [hw2]; exact setCells_other _ _ _ _ _ (fun e => hsbb e.symm))
        have hused : (DS.loaded s (room : Int) (xs.take (128 * k))).used = k := by
          rw [loaded_used _ _ _ (by rw [List.length_take]; omega), List.length_take, Hln.out]; unfold sectorsOf; omega
        rw [e1, hused] at hb2
        obtain ⟨left, hleft⟩ : ∃ left, left = (room : Int) - (k : Int) := ⟨_, rfl⟩
        have hb2 : Blk w2 b 101 [.slice (some ⟨sb, 0, none⟩) s s, vw, .int .i64 left, .int .i64 cc, .bool false, .pointer (some ⟨mb, 0, none⟩)] := by rw [hleft]; exact hb2
        have hs3 := hs2.set (k * 130 + 128) (.bool true)
        have hb3 := hb2.setOther (a := ⟨sb, k * 130 + 128, none⟩) (fun e => hsbb e.symm) (.bool true)
        have hc0 : wr.cell? ⟨b, 0, none⟩ = some (.slice (some ⟨sb, 0, none⟩) s s) := by have := hv.head.cell (i := 0) rfl; rw [e1] at this; exact this
        have hc2 := hb3.cell (i := 2) rfl
        have hf2 := hb3.frozen 2
        have hk2 : k + 1 ≤ sectorsOf n := by unfold sectorsOf; omega
        have hlr : 0 ≤ left ∧ left ≤ 4096 := by have := Hfull.out; omega
        have Hfin := Lib.hid (show (∃ vs, PDAt F ((w2.setCell ⟨sb, k * 130 + 128, none⟩ (.bool true)).setCell ⟨b, 2, none⟩ (.int .i64 (left - 1))) b (DS.loaded s (room : Int) (xs.take (128 * (k + 1)))) 0 [] sb mb vs vw cc L) ∧ Below w.heap.size w ((w2.setCell ⟨sb, k * 130 + 128, none⟩ (.bool true)).setCell ⟨b, 2, none⟩ (.int .i64 (left - 1))) ∧ w1.heap.size ≤ ((w2.setCell ⟨sb, k * 130 + 128, none⟩ (.bool true)).setCell ⟨b, 2, none⟩ (.int .i64 (left - 1))).heap.size from by
          have hgb : w.heap.size ≤ b := by have := hv.fb; rw [HF.out] at this; exact this.1
          have hgs : w.heap.size ≤ sb := by have := hv.fs; rw [HF.out] at this; exact this.1
          refine ⟨⟨_, load_step (by rw [Hln.out]; exact hlt) (by rw [Hln.out]; exact H4.out) (by rw [Hln.out]; have := Hfull.out; omega) hv ?_ ?_ ?_⟩, ?_, ?_⟩
          · have h5 := hs3.setOther (a := ⟨b, 2, none⟩) hsbb (.int .i64 (left - 1))
            unfold loadIn
            rw [hl2] at h5
            rw [hbl]; exact h5
          · rw [← hleft]; exact hb3.set 2 _
          · intro j hj h6 h7
            rw [blk_setCell_other _ _ _ _ (show j ≠ b from h7), blk_setCell_other _ _ _ _ (show j ≠ sb from h6), hw2]
            exact setCells_other _ _ _ _ _ h6
          · have h8 : Below w.heap.size w w2 := by rw [hw2]; exact below_setCells hb hgs _ _
            exact (h8.setCell (p := ⟨sb, k * 130 + 128, none⟩) hgs _).setCell (p := ⟨b, 2, none⟩) hgb _
          · rw [nblk_setCell, nblk_setCell, hw2, setCells_size]; exact hws.out)
        have Hcopy := Lib.hid hcopy
        have Hsl1 := Lib.hid hsl1
        have Hnk := Lib.hid hnk'
        have hd3 : decide (0 < (nk : Int)) = true := decide_eq_true (by omega)
        have hksI : (k : Int) < (s : Int) := by omega
        have hk0 : (0 : Int) ≤ (k : Int) := by omega
        have hmnk : m ≤ nk := by omega
        have hnx : n - 128 * (k + 1) = nk - m := by omega
        have Hnx := Lib.hid hnx
        have hkb : (k : Int) + 1 ≤ 4096 := by omega
        clear hcopy hsl1 hslw hnk' hbl hw2 hs2 hb2 hs3 hb3 hv hst hsl hb hws hlen hl2 hused hleft hm hnx e1
        go_wp2_with (first
          | (refine wpList_copy rfl (.tmp 46) (.tmp 47) 22 22 rfl _ _ rfl rfl Hcopy.out ?_)
          | (refine wpList_cut (.tmp 42) (.tmp 48) 22 5 i8 rfl rfl Tryd.underlying22 hi8 hs8 (some ad) nk c' m .i64 rfl rfl hmnk hnk ?_; intro A'' hA''))
        go_roundw
        case rel =>
          refine ⟨k + 1, A'', c' - m, hk2, by rw [Hnx.out], by rw [Hnx.out]; omega, by go_num, Lib.hid ?_, Lib.hid Hfin.out.1, Hfin.out.2.1, Lib.hid Hfin.out.2.2⟩
          have h9 := hA'' w _ Hsl1.out
          rw [Hnx.out]
          have e5 : (u8s (xs.drop (128 * k))).drop m = u8s (xs.drop (128 * (k + 1))) := by
            rw [← List.map_drop, List.drop_drop]
            by_cases hm2 : m = 128
            · rw [hm2]; congr 2
            · have hnk2 := Hnk.out
              have h10 := Hnx.out
              rw [List.drop_of_length_le (show xs.length ≤ 128 * k + m by rw [Hln.out]; omega), List.drop_of_length_le (show xs.length ≤ 128 * (k + 1) by rw [Hln.out]; omega)]
          rw [← e5]; exact h9
        case measure => (simp only [intOf]; have := Hnx.out; omega)
      · have hz : n - 128 * k = 0 := by omega
        rw [hz]
        obtain ⟨vs, hv⟩ := hst.out
        have hd3 : decide (0 < ((0 : Nat) : Int)) = false := rfl
        have Hend := Lib.hid (show PD (fun k => w.heap.size ≤ k ∧ k < wr.heap.size) wr b (DS.loaded s (room : Int) xs) by
          rw [List.take_of_length_le (by rw [Hln.out]; omega)] at hv
          have hup : ∀ j, j < wr.heap.size → F j → w.heap.size ≤ j ∧ j < wr.heap.size := fun j hj hf => by rw [HF.out] at hf; exact ⟨hf.1, hj⟩
          have hv2 := hv.mono hup
          exact ⟨DWf.loaded h1 h2 (by omega) (by omega) Hxb.out, hv2.fb, fun j hj => hj.2, sb, mb, vs, vw, cc, L, hv2⟩)
        clear hv hst hsl
        go_wp2
        go_ret2
        exact ⟨hb, Or.inl ⟨Hfull.out, b, rfl, Hend.out⟩⟩
end Go.Proofs.YteliebinhdphlaaDoor

/- The program's disk: Image. -/
namespace Go.Proofs.YteliebinhdphlaaDoor
set_option maxRecDepth 100000
open Go.RowKit Go.Deep
set_option linter.unusedSimpArgs false
set_option linter.unusedVariables false

theorem flatten_take {l : List (List Int)} {k : Nat} {r : List Int} (h : l[k]? = some r) : (l.take (k + 1)).flatten = (l.take k).flatten ++ r := by
  rw [take_snoc _ _ _ h, List.flatten_append]; simp
theorem flatten_len {l : List (List Int)} (h : ∀ r ∈ l, r.length = 128) (k : Nat) (hk : k ≤ l.length) : ((l.take k).flatten).length = 128 * k := by
  induction k with
  | zero => simp
  | succ k ih =>
    obtain ⟨r, hr⟩ : ∃ r, l[k]? = some r := ⟨_, List.getElem?_eq_getElem (by omega)⟩
    rw [flatten_take hr, List.length_append, ih (by omega), h r (List.mem_of_getElem? hr)]; omega

set_option maxRecDepth 100000 in
set_option maxHeartbeats 3200000 in
theorem dimage_is (F : Nat → Prop) (w : World) (b : Nat) (S : DS) (h : PD F w b S) : Calls Tryd.prog 18 #[.pointer (some ⟨b, 0, none⟩)] w fun e w' => ∃ v, e = .returned v ∧ w'.ownsRow w.heap.size 5 1 v (128 * S.kept.length) (u8s S.kept.flatten) ∧ Below w.heap.size w w' := by
  have hno := dnone_is F w b S h
  obtain ⟨hwf, hFb, hfin, sb, mb, vs, vw, c, L, h⟩ := h
  have hc0 := h.head.cell (i := 0) rfl
  obtain ⟨i8, hi8, hz8, hs8, hb8⟩ := info_parts' info_u8
  have hn2 := hwf.n2
  obtain ⟨K, hK⟩ : ∃ K, K = S.kept.length := ⟨_, rfl⟩
  rw [← hK] at hc0 hn2 ⊢
  have HK := Lib.hid hK
  have Hh := Lib.hid h
  have Hwf := Lib.hid hwf
  have hKI : (K : Int) ≤ 4096 := by omega
  clear hK h hwf hfin
  go_enter Tryd.func18, Tryd.ntmps18
  go_wp2_with fail
  refine hno.mono ?_
  rintro e w1 ⟨rfl, hw⟩
  obtain rfl := hw.symm
  go_wp2_with (at_make; refine wpList_make_own _ rfl _ _ 22 rfl w.heap.size 5 i8 _ 1 Tryd.underlying22 hi8 hz8 hs8 _ _ _ (128 * K) rfl rfl (by omega) (by rw [hb8]; omega) (by simp only [maxLen]; omega) (Nat.le_refl _) ?_; intro w1 hown1 hg1; have hb1 : Below w.heap.size w w1 := (Below.refl _ _).grown hg1 (Nat.le_refl _) (fun _ h => by cases h); have hc01 : w1.cell? ⟨b, 0, none⟩ = some (.slice (some ⟨sb, 0, none⟩) K K) := (hb1.cell (World.block_lt_of_cell? w _ hc0)).trans hc0; clear hg1)
  go_loopw [3, 19] (fun im i wr => ∃ k : Nat, k ≤ K ∧ i = .int .i64 k ∧ wr.ownsRow w.heap.size 5 1 im (128 * k) (u8s (S.kept.take k).flatten) ∧ Below w.heap.size w wr) (fun _ i _ => K - (intOf i).toNat)
  case atStart => exact ⟨0, by omega, rfl, by simpa using hown1, hb1⟩
  case round =>
    clear hown1 hb1 hc01
    obtain ⟨k, hk, rfl, hown, hb⟩ := hrel
    by_cases hlt : k < K
    · obtain ⟨r, hr⟩ : ∃ r, S.kept[k]? = some r := ⟨_, List.getElem?_eq_getElem (by rw [← HK.out]; exact hlt)⟩
      have hr128 := (Hwf.out.rows r (List.mem_of_getElem? hr)).1
      have hc0r : wr.cell? ⟨b, 0, none⟩ = some (.slice (some ⟨sb, 0, none⟩) K K) := (hb.cell (World.block_lt_of_cell? w _ hc0)).trans hc0
      have Hsl := Lib.hid (show Sl wr (some ⟨sb, k * 130, none⟩) 128 (u8s r) from ⟨by rw [List.length_map, hr128], fun j u hj => ⟨_, rfl, by
        rw [List.getElem?_map] at hj
        obtain ⟨x, hx, rfl⟩ := Option.map_eq_some_iff.1 hj
        rw [Addr.add_mid]
        have h1 := Hh.out.sect.cell (Hh.out.secs.kept k r hr j x hx)
        exact (hb.cell (World.block_lt_of_cell? w _ h1)).trans h1⟩⟩)
      have Hnext := Lib.hid (show u8s (S.kept.take k).flatten ++ u8s r = u8s (S.kept.take (k + 1)).flatten by rw [flatten_take hr, ← List.map_append])
      have hkI : (k : Int) < (K : Int) := by omega
      have hk0 : (0 : Int) ≤ (k : Int) := by omega
      have hsz : w.heap.size ≤ wr.heap.size := hb.size
      clear hr hr128
      go_wp2_with (refine wpList_cat (.tmp 22) (.tmp 30) 22 5 i8 _ 1 rfl rfl Tryd.underlying22 hi8 hz8 hs8 hb8 rfl w.heap.size _ (128 * k) _ hown _ 128 128 _ Hsl.out rfl rfl (one_u8s _) (by omega) (by omega) hsz ?_; intro v2 w2 hown2 hg2 hb2 hs2)
      go_roundw
      case rel => exact ⟨k + 1, by omega, by go_num, by rw [← Hnext.out]; exact hown2, hb.trans hb2⟩
      case measure => simp [intOf]; omega
    · obtain rfl : k = K := by omega
      have Hall := Lib.hid (show (S.kept.take k).flatten = S.kept.flatten by rw [List.take_of_length_le (by rw [HK.out]; exact Nat.le_refl _)])
      go_wp2
      go_ret
      exact ⟨_, rfl, by rw [← Hall.out]; exact hown, hb⟩
end Go.Proofs.YteliebinhdphlaaDoor

/- The program's disk by contract, whole (PD1 to PD14). -/
