/- A slice cut at its front: 's[k:]' of a slice that may be nil or empty. No function of the program is named here. -/
import Derived.Test.YthdclncgmhgmfaaHeap
namespace Go.Proofs.Ythdclncgmhgmfaa
open Go.RowKit
set_option linter.unusedSimpArgs false
set_option linter.unusedVariables false

theorem Sl.dropped {w : World} {ad : Addr} {n k : Nat} {xs : List Value} (h : Sl w (some ad) n xs) : Sl w (some (ad.add k)) (n - k) (xs.drop k) := by
  refine ⟨by rw [List.length_drop, h.1], fun j u hu => ⟨_, rfl, ?_⟩⟩
  rw [List.getElem?_drop] at hu
  obtain ⟨ad', e, hc⟩ := h.2 (k + j) u hu
  cases e
  rw [addr_twice]
  exact hc
theorem Sl.cutAt {w : World} {A : Option Addr} {n c s : Nat} {xs : List Value} (h : Sl w A n xs) (hs : s ≤ n) (hc : n ≤ c) : Sl w (if c = s then A else A.map (·.add s)) (n - s) (xs.drop s) := by
  by_cases he : n = s
  · subst he
    rw [Nat.sub_self, List.drop_of_length_le (by rw [h.1]; exact Nat.le_refl _)]
    exact Sl.nil_ _ _
  · rw [if_neg (by omega)]
    obtain ⟨ad, rfl, _⟩ := h.at_ (k := s) (by omega)
    exact h.dropped

theorem run_cut {P : Program} {t e : TypeId} {i : TypeInfo} (ht : P.underlying t = some (.slice e)) (hi : P.info? e = some i) (hs1 : i.size = 1) (A : Option Addr) (n c s : Nat) (kd : IntKind) (hs : s ≤ n) (w : World) :
    (Instr.sliceAt t (.slice A n c) (some (.int kd (s : Int))) none none).run P w = .ok (.slice (if c = s then A else A.map (·.add s)) (n - s) (c - s)) w := by
  have hb : (Instr.sliceBound (.int kd (s : Int)) n .sliceB).run P w = .ok s w := by
    simp [Instr.sliceBound, asIntOf, go_sem]
    omega
  simp [Instr.sliceAt, Instr.slice, Instr.sliceBounds, run_underlying ht, sizeOf, typeInfo, hi, hs1, hb, go_sem]

/-- 's[k:]', k within its length. -/
theorem wpList_cut {P : Program} {W : World} {ops : Array Oper} {rest : List Oper} {o : Oper} {a : Act} {Q : Exit → Act → World → Prop} (x l : Operand) (t e : TypeId) (i : TypeInfo)
    (hgd : o.guard = none) (ho : o.op = Op.slice t x (some l) none none) (ht : P.underlying t = some (.slice e)) (hi : P.info? e = some i) (hs1 : i.size = 1)
    (A : Option Addr) (n c s : Nat) (kd : IntKind) (hx : a.eval x = .slice A n c) (hl : a.eval l = .int kd (s : Int)) (hs : s ≤ n) (hc : n ≤ c)
    (h : ∀ A' : Option Addr, (∀ w xs, Sl w A n xs → Sl w A' (n - s) (xs.drop s)) → wpList P ops Q rest (a.put o.dst (.slice A' (n - s) (c - s))) W) :
    wpList P ops Q (o :: rest) a W := by
  refine wpList_plain hgd fun K hK => ?_
  unfold Oper.wp execOp
  simp only [ho, Option.map_some, Option.map_none, hx, hl, Sem.run_bind, run_cut ht hi hs1 A n c s kd hs, Result.andThen_ok]
  exact hK _ _ (h _ (fun w xs hsl => hsl.cutAt hs hc))
end Go.Proofs.Ythdclncgmhgmfaa
