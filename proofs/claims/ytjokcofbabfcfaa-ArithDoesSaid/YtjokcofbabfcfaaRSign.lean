import Derived.Test.YtjokcofbabfcfaaNumber
namespace Go.Proofs.Ytjokcofbabfcfaa
open Go.RowKit

def signIns : List Int := [1, 2, 1, 1, 1, 1, 1, 0, 0, 1, 1, 1, 1, 2, 2, 2]
def signOuts : List Int := [1, 2, 1, 1, 1, 1, 1, 2, 2, 2, 2, 2, 2, 2, 2, 2]
/-- Of which types an op is. -/
def signOf (op : Int) : Int × Int × Bool := if op < 5 ∨ 20 < op then (0, 0, false) else (signIns.getD (op - 5).toNat 0, signOuts.getD (op - 5).toNat 0, true)
theorem ret_three_signs {a b c d : Int} {p q : Bool} (h : a = b) (h' : c = d) (h2 : p = q) : Ending.returned (.tuple #[.int .i64 a, .int .i64 c, .bool p]) = .returned (.tuple #[.int .i64 b, .int .i64 d, .bool q]) := by rw [h, h', h2]

set_option maxRecDepth 100000 in
set_option maxHeartbeats 1600000 in
theorem rsign_any (op : Int) (w : World) (h1 : -9223372036854775808 ≤ op) (h2 : op ≤ 9223372036854775807) :
    Calls Try.prog 14 #[.int .i64 op] w fun e w' => e = .returned (.tuple #[.int .i64 (signOf op).1, .int .i64 (signOf op).2.1, .bool (signOf op).2.2]) ∧ Below w.heap.size w w' := by
  by_cases h : op < 5 ∨ 20 < op
  · have e : signOf op = (0, 0, false) := by unfold signOf; rw [if_pos h]
    rw [e]
    rcases h with h | h
    · go_enter Try.func14, Try.ntmps14
      go_wp2
      go_ret3
      exact ⟨rfl, Below.refl _ _⟩
    · go_enter Try.func14, Try.ntmps14
      go_wp2
      go_ret3
      exact ⟨rfl, Below.refl _ _⟩
  · obtain ⟨k, rfl⟩ : ∃ k : Nat, op = (k : Int) + 5 := ⟨(op - 5).toNat, by omega⟩
    have hk : k < 16 := by omega
    have He := Lib.hid (show signOf ((k : Int) + 5) = (signIns.getD k 0, signOuts.getD k 0, true) by unfold signOf; rw [if_neg h, show ((k : Int) + 5 - 5).toNat = k by omega])
    obtain ⟨x, hx⟩ : ∃ x, x = signIns.getD k 0 := ⟨_, rfl⟩
    obtain ⟨y, hy⟩ : ∃ y, y = signOuts.getD k 0 := ⟨_, rfl⟩
    rw [← hx, ← hy] at He
    obtain ⟨w1, hw1⟩ : ∃ w1, w1 = w.alloc (.cells (i64s signIns).toArray 3) := ⟨_, rfl⟩
    obtain ⟨w2, hw2⟩ : ∃ w2, w2 = w1.alloc (.cells (i64s signOuts).toArray 3) := ⟨_, rfl⟩
    have hs1 : Sl w1 (some ⟨w.heap.size, 0, none⟩) 16 (i64s signIns) := by rw [hw1]; exact Sl.new_ w 3 (i64s signIns) 16 rfl
    have hs2 : Sl w2 (some ⟨w1.heap.size, 0, none⟩) 16 (i64s signOuts) := by rw [hw2]; exact Sl.new_ w1 3 (i64s signOuts) 16 rfl
    have hb1 : Below w.heap.size w w1 := by rw [hw1]; exact below_alloc _ _
    have hb2 : Below w1.heap.size w1 w2 := by rw [hw2]; exact below_alloc _ _
    have hsz : w1.heap.size = w.heap.size + 1 := by rw [hw1]; simp
    have hs1' := hs1.below hb2
    have hadd : ∀ (b j : Nat), (⟨b, 0, none⟩ : Addr).add j = ⟨b, j, none⟩ := by intro b j; unfold Addr.add; split <;> simp_all
    obtain ⟨a1, u1, e1, hc1, hu1⟩ := hs1'.num hk
    cases e1
    obtain ⟨a2, u2, e2, hc2, hu2⟩ := hs2.num hk
    cases e2
    rw [hadd] at hc1 hc2
    have hux : u1 = x := by rw [hx]; simp [List.getD, hu1]
    have huy : u2 = y := by rw [hy]; simp [List.getD, hu2]
    subst hux huy
    rw [hsz] at hc2
    have hbf := hb1.trans (hb2.mono hb1.size)
    clear hu1 hu2 hx hy hs1 hs2 hs1' hadd hb1 hb2 h h1 h2 hsz
    have hk5 : (k : Int) + 5 - 5 = (k : Int) := by omega
    subst hw1
    go_enter Try.func14, Try.ntmps14
    go_wp2
    have hw2' : w2 = (w.alloc (.cells #[.int .i64 1, .int .i64 2, .int .i64 1, .int .i64 1, .int .i64 1, .int .i64 1, .int .i64 1, .int .i64 0, .int .i64 0, .int .i64 1, .int .i64 1, .int .i64 1, .int .i64 1, .int .i64 2, .int .i64 2, .int .i64 2] 3)).alloc (.cells #[.int .i64 1, .int .i64 2, .int .i64 1, .int .i64 1, .int .i64 1, .int .i64 1, .int .i64 1, .int .i64 2, .int .i64 2, .int .i64 2, .int .i64 2, .int .i64 2, .int .i64 2, .int .i64 2, .int .i64 2, .int .i64 2] 3) := hw2
    rw [← hw2']
    clear hw2 hw2'
    go_quiet (fail)
    go_wp2
    go_ret3
    exact ⟨ret_three_signs (by rw [He.out]) (by rw [He.out]) (by rw [He.out]), below_drewN hbf _⟩
end Go.Proofs.Ytjokcofbabfcfaa
