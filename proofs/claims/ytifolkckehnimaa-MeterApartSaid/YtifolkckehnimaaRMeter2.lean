/- The document's meter, each call in one form. -/
import Derived.Test.YtifolkckehnimaaRMeter
import Derived.Test.YtifolkckehnimaaMet
namespace Go.Proofs.Ytifolkckehnimaa
open Go.RowKit

theorem own_kept {w w' : World} {base : Nat} {e : TypeId} {size : Nat} {v : Value} {n : Nat} {xs : List Value} (h : w.ownsRow base e size v n xs) (hk : ∀ k, v.ownBlock = some k → w'.heap[k]? = w.heap[k]?) : w'.ownsRow base e size v n xs := by
  refine ⟨h.1, ?_⟩
  rcases h.2 with h2 | ⟨g, cap, cur, hv, hg, hh, r⟩
  · exact .inl h2
  · exact .inr ⟨g, cap, cur, hv, hg, (hk g (by rw [hv]; rfl)).trans hh, r⟩
theorem RMet.lt {B : Nat} {w : World} {b g : Nat} {L : List Int} (h : RMet B w b g L) : b < w.heap.size ∧ g < w.heap.size :=
  ⟨World.block_lt_of_cell? w _ h.2.1, (h.2.2.lt g rfl).2⟩
theorem RMet.kept {B : Nat} {w w' : World} {b g : Nat} {L : List Int} (h : RMet B w b g L) (eb : w'.heap[b]? = w.heap[b]?) (eg : w'.heap[g]? = w.heap[g]?) : RMet B w' b g L :=
  ⟨h.1, (World.cell?_of_block (w := w) eb).trans h.2.1, own_kept h.2.2 (fun k hk => by cases hk; exact eg)⟩
theorem drew_grown {w w' : World} {row : Option Nat} (h : w.drew.grownBy w' row) : w.grownBy w' row := ⟨h.os, h.tape, h.output, h.size, h.block⟩
theorem drew_below {B : Nat} {w w' : World} (h : Below B w.drew w') : Below B w w' := ⟨h.os, h.tape, h.output, h.size, h.block⟩
theorem cell_grown {w w' : World} {row k o : Nat} {v : Value} (hg : w.grownBy w' (some row)) (h : w.cell? ⟨k, o, none⟩ = some v) (hne : k ≠ row) : w'.cell? ⟨k, o, none⟩ = some v :=
  hg.cell h (fun e => hne (Option.some.inj e))
theorem block_grown {w w' : World} {row k : Nat} (hg : w.grownBy w' (some row)) (h : k < w.heap.size) (hne : k ≠ row) : w'.heap[k]? = w.heap[k]? :=
  hg.block k h (fun e => hne (Option.some.inj e))
theorem grown_self (w : World) (row : Option Nat) : w.grownBy w row := ⟨rfl, rfl, rfl, Nat.le_refl _, fun _ _ _ => rfl⟩
theorem radd5_is (w : World) (B b g : Nat) (L : List Int) (k n : Int) (hL : Met6 L) (h : RMet B w b g L) :
    Calls Try.prog 13 #[.pointer (some ⟨b, 0, none⟩), .int .i64 k, .int .i64 n] w fun e w' => e = .returned (.bool (mHas k)) ∧ RMet B w' b g (mAdd L k n) ∧ w.grownBy w' (some g) := by
  cases hk : mHas k
  · refine (radd5_out w B b g k n L (mHas_out hk) h).mono ?_
    rintro e w1 ⟨rfl, rfl⟩
    rw [(mOut hk).2.1]
    exact ⟨rfl, h, grown_self _ _⟩
  · obtain ⟨i, hi, rfl⟩ := mHas_in hk
    obtain ⟨u, hu, _⟩ := met_at hL hi
    rw [mAdd_at n hi hu]
    exact radd5_in w B b g i L u n hi hu h
theorem rcount5_is (w : World) (B b g : Nat) (L : List Int) (k : Int) (hL : Met6 L) (h : RMet B w b g L) :
    Calls Try.prog 14 #[.pointer (some ⟨b, 0, none⟩), .int .i64 k] w fun e w' => e = .returned (.int .i64 (mGet L k)) ∧ w' = w := by
  cases hk : mHas k
  · rw [(mOut (n := 0) hk).1]
    exact rcount_out w B b g k L (mHas_out hk) h
  · obtain ⟨i, hi, rfl⟩ := mHas_in hk
    obtain ⟨u, hu, _⟩ := met_at hL hi
    rw [mGet_at hi hu]
    exact rcount_in w B b g i L u hi hu h
theorem rtake5_is (w : World) (B b g : Nat) (L : List Int) (k : Int) (hL : Met6 L) (h : RMet B w b g L) :
    Calls Try.prog 15 #[.pointer (some ⟨b, 0, none⟩), .int .i64 k] w fun e w' => e = .returned (.int .i64 (mGet L k)) ∧ RMet B w' b g (mTake L k) ∧ w.grownBy w' (some g) := by
  cases hk : mHas k
  · refine (rtake_out w B b g k L (mHas_out hk) h).mono ?_
    rintro e w1 ⟨rfl, rfl⟩
    rw [(mOut (n := 0) hk).1, (mOut (n := 0) hk).2.2.1]
    exact ⟨rfl, h, grown_self _ _⟩
  · obtain ⟨i, hi, rfl⟩ := mHas_in hk
    obtain ⟨u, hu, _⟩ := met_at hL hi
    rw [mGet_at hi hu, mTake_at hi]
    exact rtake_in w B b g i L u hi hu h
theorem rraise5_is (w : World) (B b g : Nat) (L : List Int) (k n : Int) (hL : Met6 L) (h : RMet B w b g L) :
    Calls Try.prog 16 #[.pointer (some ⟨b, 0, none⟩), .int .i64 k, .int .i64 n] w fun e w' => e = .returned (.bool (mUp L k n)) ∧ RMet B w' b g (mRaise L k n) ∧ w.grownBy w' (some g) := by
  cases hk : mHas k
  · refine (rraise_out w B b g k n L (mHas_out hk) h).mono ?_
    rintro e w1 ⟨rfl, rfl⟩
    rw [(mOut hk).2.2.2.1, (mOut hk).2.2.2.2]
    exact ⟨rfl, h, grown_self _ _⟩
  · obtain ⟨i, hi, rfl⟩ := mHas_in hk
    obtain ⟨u, hu, _⟩ := met_at hL hi
    by_cases hlt : u < n
    · rw [mUp_at n hi hu, decide_eq_true hlt, mRaise_at n hi hu hlt]
      exact rraise_in w B b g i L u n hi hu hlt h
    · refine (rraise_no w B b g i L u n hi hu (by omega) h).mono ?_
      rintro e w1 ⟨rfl, rfl⟩
      rw [mUp_at n hi hu, decide_eq_false hlt, mRaise_no n hi hu (by omega)]
      exact ⟨rfl, h, grown_self _ _⟩
end Go.Proofs.Ytifolkckehnimaa
