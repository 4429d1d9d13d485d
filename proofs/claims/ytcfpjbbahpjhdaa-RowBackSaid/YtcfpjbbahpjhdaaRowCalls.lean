/- Package row by contract, as the laws' walks ask for it. -/
import Derived.Test.YtcfpjbbahpjhdaaRowRead
namespace Go.Proofs.Ytcfpjbbahpjhdaa
open Go.RowKit
theorem row_right_is (q : Bool) (A : Option Addr) (n c : Nat) (ts : List Int) (w : World) (hx : Sl w A n (i64s ts)) (hn : n ≤ 1000) (hq : q = rightOf ts) :
    Calls Try.prog 8 #[.slice A n c] w fun e w' => e = .returned (.bool q) ∧ Below w.heap.size w w' :=
  (rowright_is q A n c ts w hx (by omega) hq).mono fun e w' ⟨h, h'⟩ => ⟨h, by rw [h']; exact Below.refl _ _⟩
end Go.Proofs.Ytcfpjbbahpjhdaa
