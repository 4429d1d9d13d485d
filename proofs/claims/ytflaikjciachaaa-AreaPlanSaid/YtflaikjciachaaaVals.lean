/- Short names for lists of values; no function of the program is named here. -/
import Derived.Test.YtflaikjciachaaaChecked
import Derived.Test.YtflaikjciachaaaLib
import Derived.Test.YtflaikjciachaaaMath
namespace Go.Proofs.Ytflaikjciachaaa
set_option maxRecDepth 100000
open Go.RowKit
set_option linter.unusedSimpArgs false
set_option linter.unusedVariables false

abbrev u8s (xs : List Int) : List Value := xs.map (Value.int .u8)
abbrev i64s (xs : List Int) : List Value := xs.map (Value.int .i64)
theorem val_int {k : IntKind} {a b : Int} (h : a = b) : Value.int k a = Value.int k b := by rw [h]
theorem ret_int {k : IntKind} {a b : Int} (h : a = b) : Ending.returned (.int k a) = .returned (.int k b) := by rw [h]
theorem ret_bool {a b : Bool} (h : a = b) : Ending.returned (.bool a) = .returned (.bool b) := by rw [h]

theorem info_int : (Try.prog.info? 3).map (fun i => (i.zero, i.size, i.bytes)) = some (some (.int .i64 0), 1, 8) := by kernel_rfl
theorem info_u8 : (Try.prog.info? 5).map (fun i => (i.zero, i.size, i.bytes)) = some (some (.int .u8 0), 1, 1) := by kernel_rfl

def bitsTo (n : Int) (k : Nat) : List Int := (List.range k).map fun j => n / 2 ^ j % 2
theorem bitsTo_succ (n : Int) (k : Nat) : bitsTo n (k + 1) = bitsTo n k ++ [n / 2 ^ k % 2] := by simp [bitsTo, List.range_succ]
theorem bitsTo_length (n : Int) (k : Nat) : (bitsTo n k).length = k := by simp [bitsTo]
theorem bitsTo_at (n : Int) (m k : Nat) (h : k < m) : (bitsTo n m)[k]? = some (n / 2 ^ k % 2) := by simp [bitsTo, h]

theorem own_cell {w : World} {base : Nat} {e : TypeId} {g n cap : Nat} {L : List Int} (h : w.ownsRow base e 1 (.slice (some ⟨g, 0, none⟩) n cap) n (i64s L)) {k : Nat} {u : Int} (hk : k < n) (hu : L[k]? = some u) :
    w.cell? ⟨g, k, none⟩ = some (.int .i64 u) := by
  rw [h.cellAt k (by omega), List.getElem?_map, hu]; rfl
theorem own_set {w : World} {base : Nat} {e : TypeId} {g n cap : Nat} {L L' : List Int} (h : w.ownsRow base e 1 (.slice (some ⟨g, 0, none⟩) n cap) n (i64s L)) {k : Nat} {u : Int} (hu : L.set k u = L') :
    (w.setCell ⟨g, k, none⟩ (.int .i64 u)).ownsRow base e 1 (.slice (some ⟨g, 0, none⟩) n cap) n (i64s L') := by
  have := (h.stored k (.int .i64 u)).1
  rw [← List.map_set, hu] at this
  exact this
theorem ret_two {k k' : IntKind} {a b c d : Int} (h : a = b) (h' : c = d) : Ending.returned (.tuple #[.int k a, .int k' c]) = .returned (.tuple #[.int k b, .int k' d]) := by rw [h, h']
theorem ret_two' {k k' : IntKind} {a b c d : Int} (h : b = a) (h' : d = c) : Ending.returned (.tuple #[.int k a, .int k' c]) = .returned (.tuple #[.int k b, .int k' d]) := by rw [h, h']
theorem ret_three {k k' k'' : IntKind} {a b c d e f : Int} (h : a = b) (h' : c = d) (h'' : e = f) : Ending.returned (.tuple #[.int k a, .int k' c, .int k'' e]) = .returned (.tuple #[.int k b, .int k' d, .int k'' f]) := by rw [h, h', h'']
theorem val_bits (n : Int) (m : Nat) : val 2 (bitsTo n m) = n % 2 ^ m := by
  induction m with
  | zero => simp [bitsTo, val, Int.emod_one]
  | succ m ih =>
    rw [bitsTo_succ, val_snoc, ih, bitsTo_length]
    have hp : (0 : Int) < 2 ^ m := Int.pow_pos (by omega)
    rw [Int.pow_succ]
    generalize (2 : Int) ^ m = p at *
    have h1 := Int.emod_add_mul_ediv n p
    have h2 := Int.emod_nonneg n (show p ≠ 0 by omega)
    have h3 := Int.emod_lt_of_pos n hp
    generalize hq : n / p = q at *
    generalize hr : n % p = r at *
    have h4 : q = q % 2 + 2 * (q / 2) := by omega
    have h5 : 0 ≤ p * (q % 2) ∧ p * (q % 2) ≤ p := by rcases (show q % 2 = 0 ∨ q % 2 = 1 by omega) with h | h <;> rw [h] <;> omega
    have e : n = (r + p * (q % 2)) + p * 2 * (q / 2) := by
      have : p * q = p * (q % 2) + p * 2 * (q / 2) := by conv => lhs; rw [h4, Int.mul_add, ← Int.mul_assoc]
      omega
    have h6 : r + p * (q % 2) < p * 2 := by rcases (show q % 2 = 0 ∨ q % 2 = 1 by omega) with h | h <;> rw [h] <;> omega
    rw [e, Int.add_mul_emod_self_left, Int.emod_eq_of_lt (by omega) h6]
theorem bits_bit (n : Int) (m : Nat) : ∀ x ∈ bitsTo n m, 0 ≤ x ∧ x < 2 := by
  intro x hx
  simp only [bitsTo, List.mem_map] at hx
  obtain ⟨j, _, rfl⟩ := hx
  omega
theorem set_u8 (l : List Int) (k : Nat) (u : Int) : (u8s l).set k (.int .u8 u) = u8s (l.set k u) := by simp [u8s, List.map_set]
theorem wrap_i64 (x : Int) : IntKind.i64.wrap x = wrap64 x := by unfold wrap64; exact IntKind.wrap_i64 x
theorem ent_of {f : FuncId} {fn : Func} {c : Code} (hf : Try.prog.funcs[f]? = some fn) (hname : (fn.name == "runtime.NumGoroutine") = false) (hb : fn.body = some c) (args : Array Value) (w : World) :
    (callFunc f args).run Try.prog w = .ok (.enter f args) w := by
  have h1 : fn.name ≠ "runtime.NumGoroutine" := by simpa using hname
  simp [callFunc, hf, h1, hb]
end Go.Proofs.Ytflaikjciachaaa
