import Derived.Test.YtifolkckehnimaaVals
import Derived.Test.YtifolkckehnimaaRecs
namespace Go.Proofs.Ytifolkckehnimaa
open Go.RowKit

/-- The document's meter at b: its six counts lie in the row g. -/
def RMet (B : Nat) (w : World) (b g : Nat) (L : List Int) : Prop :=
  b ≠ g ∧ w.cell? ⟨b, 0, none⟩ = some (.slice (some ⟨g, 0, none⟩) 6 6) ∧ w.ownsRow B 3 1 (.slice (some ⟨g, 0, none⟩) 6 6) 6 (i64s L)

theorem wrap_i64 (x : Int) : IntKind.i64.wrap x = wrap64 x := by unfold wrap64; exact IntKind.wrap_i64 x
theorem grown_drew {w w' : World} {row : Option Nat} (h : w.grownBy w' row) : w.grownBy w'.drew row := ⟨h.os, h.tape, h.output, h.size, h.block⟩
theorem grown_drewN {w w' : World} {row : Option Nat} (h : w.grownBy w' row) (n : Nat) : w.grownBy (w'.drewN n) row := ⟨h.os, h.tape, h.output, h.size, h.block⟩
theorem RMet.drew {B : Nat} {w : World} {b g : Nat} {L : List Int} (h : RMet B w b g L) : RMet B w.drew b g L := h
theorem RMet.drewN {B : Nat} {w : World} {b g : Nat} {L : List Int} (h : RMet B w b g L) (n : Nat) : RMet B (w.drewN n) b g L := h

theorem RMet.set {B : Nat} {w : World} {b g : Nat} {L : List Int} (h : RMet B w b g L) (i : Nat) (u : Int) :
    RMet B (w.setCell ⟨g, i, none⟩ (.int .i64 u)) b g (L.set i u) ∧ w.grownBy (w.setCell ⟨g, i, none⟩ (.int .i64 u)) (some g) := by
  obtain ⟨h1, h2, h3⟩ := h
  obtain ⟨q1, q2⟩ := h3.stored i (.int .i64 u)
  refine ⟨⟨h1, ?_, own_set h3 rfl⟩, q2⟩
  rw [World.cell?_setCell_other _ _ _ _ (by intro e; cases e; exact h1 rfl)]
  exact h2

theorem rnew_any (w : World) : Calls Try.prog 12 #[] w fun e w' => e = .returned (.pointer (some ⟨w.heap.size + 1, 0, none⟩)) ∧ RMet w.heap.size w' (w.heap.size + 1) w.heap.size [0, 0, 0, 0, 0, 0] ∧ Below w.heap.size w w' ∧ w'.heap.size = w.heap.size + 2 := by
  go_enter Try.func12, Try.ntmps12
  go_wp2
  go_ret
  have h1 : (w.alloc (.cells #[.int .i64 0, .int .i64 0, .int .i64 0, .int .i64 0, .int .i64 0, .int .i64 0] 3)).ownsRow w.heap.size 3 1 (.slice (some ⟨w.heap.size, 0, none⟩) 6 6) 6 (i64s [0, 0, 0, 0, 0, 0]) := own_new w 3 (i64s [0, 0, 0, 0, 0, 0]) 6 rfl (by omega)
  have hz : (w.alloc (.cells #[.int .i64 0, .int .i64 0, .int .i64 0, .int .i64 0, .int .i64 0, .int .i64 0] 3)).heap.size = w.heap.size + 1 := by simp
  refine ⟨rfl, ⟨by omega, ?_, h1.alloc _⟩, ?_, by simp⟩
  · rw [← hz, cell_of_row _ _ 0 #[.slice (some ⟨w.heap.size, 0, none⟩) 6 6] 36 (0, 0) (heap_alloc_new _ _)]; rfl
  · exact (below_alloc w _).trans ((below_alloc _ _).mono (by simp))

theorem rhas_in (w : World) (B b g i : Nat) (L : List Int) (hi : i < 6) (h : RMet B w b g L) :
    Calls Try.prog 23 #[.pointer (some ⟨b, 0, none⟩), .int .i64 ((i : Int) + 1)] w fun e w' => e = .returned (.bool true) ∧ w' = w := by
  have hc := h.2.1
  have h1 : decide (1 ≤ (i : Int) + 1) = true := decide_eq_true (by omega)
  have h2 : decide ((i : Int) + 1 ≤ 6) = true := decide_eq_true (by omega)
  go_enter Try.func23, Try.ntmps23
  go_wp2
  go_ret
  exact ⟨rfl, rfl⟩
theorem rhas_out (w : World) (B b g : Nat) (k : Int) (L : List Int) (hk : k < 1 ∨ 6 < k) (h : RMet B w b g L) :
    Calls Try.prog 23 #[.pointer (some ⟨b, 0, none⟩), .int .i64 k] w fun e w' => e = .returned (.bool false) ∧ w' = w := by
  have hc := h.2.1
  by_cases h0 : k < 1
  · have h1 : decide (1 ≤ k) = false := decide_eq_false (by omega)
    go_enter Try.func23, Try.ntmps23
    go_wp2
    go_ret
    exact ⟨rfl, rfl⟩
  · have h1 : decide (1 ≤ k) = true := decide_eq_true (by omega)
    have h2 : decide (k ≤ 6) = false := decide_eq_false (by omega)
    go_enter Try.func23, Try.ntmps23
    go_wp2
    go_ret
    exact ⟨rfl, rfl⟩

set_option maxHeartbeats 800000 in
theorem radd5_in (w : World) (B b g i : Nat) (L : List Int) (u n : Int) (hi : i < 6) (hu : L[i]? = some u) (h : RMet B w b g L) :
    Calls Try.prog 13 #[.pointer (some ⟨b, 0, none⟩), .int .i64 ((i : Int) + 1), .int .i64 n] w fun e w' => e = .returned (.bool true) ∧ RMet B w' b g (L.set i (wrap64 (u + n))) ∧ w.grownBy w' (some g) := by
  have hc := h.2.1
  have hcu : w.cell? ⟨g, i, none⟩ = some (.int .i64 u) := own_cell h.2.2 hi hu
  have hfu := h.2.2.frozenAt i
  obtain ⟨z, hz⟩ : ∃ z, z = wrap64 (u + n) := ⟨_, rfl⟩
  have hzw : IntKind.i64.wrap (u + n) = z := by rw [hz, wrap_i64]
  have Hset := Lib.hid (h.set i z)
  have Hz := Lib.hid hz
  have hk1 : (i : Int) + 1 - 1 = (i : Int) := by omega
  have hiI : (i : Int) < 6 := by omega
  clear hz hu
  go_enter Try.func13, Try.ntmps13
  go_wp2_with fail
  refine (rhas_in w B b g i L hi h).mono ?_
  rintro e w1 ⟨rfl, hw⟩
  obtain rfl := hw.symm
  go_wp2_with fail
  go_region
  all_goals
    go_wp2
    go_ret
    exact ⟨rfl, by rw [← Hz.out]; exact Hset.out.1.drew, grown_drew Hset.out.2⟩
theorem radd5_out (w : World) (B b g : Nat) (k n : Int) (L : List Int) (hk : k < 1 ∨ 6 < k) (h : RMet B w b g L) :
    Calls Try.prog 13 #[.pointer (some ⟨b, 0, none⟩), .int .i64 k, .int .i64 n] w fun e w' => e = .returned (.bool false) ∧ w' = w := by
  go_enter Try.func13, Try.ntmps13
  go_wp2_with fail
  refine (rhas_out w B b g k L hk h).mono ?_
  rintro e w1 ⟨rfl, hw⟩
  obtain rfl := hw.symm
  go_wp2_with fail
  go_ret
  exact ⟨rfl, rfl⟩

set_option maxHeartbeats 800000 in
theorem rcount_in (w : World) (B b g i : Nat) (L : List Int) (u : Int) (hi : i < 6) (hu : L[i]? = some u) (h : RMet B w b g L) :
    Calls Try.prog 14 #[.pointer (some ⟨b, 0, none⟩), .int .i64 ((i : Int) + 1)] w fun e w' => e = .returned (.int .i64 u) ∧ w' = w := by
  have hc := h.2.1
  have hcu : w.cell? ⟨g, i, none⟩ = some (.int .i64 u) := own_cell h.2.2 hi hu
  have hk1 : (i : Int) + 1 - 1 = (i : Int) := by omega
  have hiI : (i : Int) < 6 := by omega
  clear hu
  go_enter Try.func14, Try.ntmps14
  go_wp2_with fail
  refine (rhas_in w B b g i L hi h).mono ?_
  rintro e w1 ⟨rfl, hw⟩
  obtain rfl := hw.symm
  go_wp2_with fail
  go_ret
  exact ⟨rfl, rfl⟩
theorem rcount_out (w : World) (B b g : Nat) (k : Int) (L : List Int) (hk : k < 1 ∨ 6 < k) (h : RMet B w b g L) :
    Calls Try.prog 14 #[.pointer (some ⟨b, 0, none⟩), .int .i64 k] w fun e w' => e = .returned (.int .i64 0) ∧ w' = w := by
  go_enter Try.func14, Try.ntmps14
  go_wp2_with fail
  refine (rhas_out w B b g k L hk h).mono ?_
  rintro e w1 ⟨rfl, hw⟩
  obtain rfl := hw.symm
  go_wp2_with fail
  go_ret
  exact ⟨rfl, rfl⟩

set_option maxHeartbeats 800000 in
theorem rtake_in (w : World) (B b g i : Nat) (L : List Int) (u : Int) (hi : i < 6) (hu : L[i]? = some u) (h : RMet B w b g L) :
    Calls Try.prog 15 #[.pointer (some ⟨b, 0, none⟩), .int .i64 ((i : Int) + 1)] w fun e w' => e = .returned (.int .i64 u) ∧ RMet B w' b g (L.set i 0) ∧ w.grownBy w' (some g) := by
  have hc := h.2.1
  have hcu : w.cell? ⟨g, i, none⟩ = some (.int .i64 u) := own_cell h.2.2 hi hu
  have hfu := h.2.2.frozenAt i
  have hk1 : (i : Int) + 1 - 1 = (i : Int) := by omega
  have hiI : (i : Int) < 6 := by omega
  have Hset := Lib.hid (h.set i 0)
  have Hu := Lib.hid hu
  clear hu
  go_enter Try.func15, Try.ntmps15
  go_wp2_with fail
  refine (rcount_in w B b g i L u hi Hu.out h).mono ?_
  rintro e w1 ⟨rfl, hw⟩
  obtain rfl := hw.symm
  go_wp2_with fail
  refine (rhas_in w B b g i L hi h).mono ?_
  rintro e w1 ⟨rfl, hw⟩
  obtain rfl := hw.symm
  go_wp2_with fail
  go_ret
  exact ⟨rfl, Hset.out⟩
theorem rtake_out (w : World) (B b g : Nat) (k : Int) (L : List Int) (hk : k < 1 ∨ 6 < k) (h : RMet B w b g L) :
    Calls Try.prog 15 #[.pointer (some ⟨b, 0, none⟩), .int .i64 k] w fun e w' => e = .returned (.int .i64 0) ∧ w' = w := by
  go_enter Try.func15, Try.ntmps15
  go_wp2_with fail
  refine (rcount_out w B b g k L hk h).mono ?_
  rintro e w1 ⟨rfl, hw⟩
  obtain rfl := hw.symm
  go_wp2_with fail
  refine (rhas_out w B b g k L hk h).mono ?_
  rintro e w1 ⟨rfl, hw⟩
  obtain rfl := hw.symm
  go_wp2_with fail
  go_ret
  exact ⟨rfl, rfl⟩

set_option maxHeartbeats 800000 in
theorem rraise_in (w : World) (B b g i : Nat) (L : List Int) (u n : Int) (hi : i < 6) (hu : L[i]? = some u) (hlt : u < n) (h : RMet B w b g L) :
    Calls Try.prog 16 #[.pointer (some ⟨b, 0, none⟩), .int .i64 ((i : Int) + 1), .int .i64 n] w fun e w' => e = .returned (.bool true) ∧ RMet B w' b g (L.set i n) ∧ w.grownBy w' (some g) := by
  have hc := h.2.1
  have hcu : w.cell? ⟨g, i, none⟩ = some (.int .i64 u) := own_cell h.2.2 hi hu
  have hfu := h.2.2.frozenAt i
  have hk1 : (i : Int) + 1 - 1 = (i : Int) := by omega
  have hiI : (i : Int) < 6 := by omega
  have Hset := Lib.hid (h.set i n)
  have hd : decide (n ≤ u) = false := decide_eq_false (by omega)
  clear hu hlt
  go_enter Try.func16, Try.ntmps16
  go_wp2_with fail
  refine (rhas_in w B b g i L hi h).mono ?_
  rintro e w1 ⟨rfl, hw⟩
  obtain rfl := hw.symm
  go_wp2_with fail
  go_ret
  exact ⟨rfl, Hset.out⟩
theorem rraise_no (w : World) (B b g i : Nat) (L : List Int) (u n : Int) (hi : i < 6) (hu : L[i]? = some u) (hlt : n ≤ u) (h : RMet B w b g L) :
    Calls Try.prog 16 #[.pointer (some ⟨b, 0, none⟩), .int .i64 ((i : Int) + 1), .int .i64 n] w fun e w' => e = .returned (.bool false) ∧ w' = w := by
  have hc := h.2.1
  have hcu : w.cell? ⟨g, i, none⟩ = some (.int .i64 u) := own_cell h.2.2 hi hu
  have hfu := h.2.2.frozenAt i
  have hk1 : (i : Int) + 1 - 1 = (i : Int) := by omega
  have hiI : (i : Int) < 6 := by omega
  have hd : decide (n ≤ u) = true := decide_eq_true hlt
  clear hu hlt
  go_enter Try.func16, Try.ntmps16
  go_wp2_with fail
  refine (rhas_in w B b g i L hi h).mono ?_
  rintro e w1 ⟨rfl, hw⟩
  obtain rfl := hw.symm
  go_wp2_with fail
  go_ret
  exact ⟨rfl, rfl⟩
theorem rraise_out (w : World) (B b g : Nat) (k n : Int) (L : List Int) (hk : k < 1 ∨ 6 < k) (h : RMet B w b g L) :
    Calls Try.prog 16 #[.pointer (some ⟨b, 0, none⟩), .int .i64 k, .int .i64 n] w fun e w' => e = .returned (.bool false) ∧ w' = w := by
  go_enter Try.func16, Try.ntmps16
  go_wp2_with fail
  refine (rhas_out w B b g k L hk h).mono ?_
  rintro e w1 ⟨rfl, hw⟩
  obtain rfl := hw.symm
  go_wp2_with fail
  go_ret
  exact ⟨rfl, rfl⟩
end Go.Proofs.Ytifolkckehnimaa
