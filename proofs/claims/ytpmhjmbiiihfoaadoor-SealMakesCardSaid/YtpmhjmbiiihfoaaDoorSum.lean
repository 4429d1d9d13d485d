import Derived.Test.YtpmhjmbiiihfoaaDoorMore
namespace Go.Proofs.YtpmhjmbiiihfoaaDoor
open Go.RowKit

/-- A slice of bytes in memory, with what it reads as. -/
structure Part where
  A : Option Addr
  n : Nat
  c : Nat
  xs : List Int
def Part.val (p : Part) : Value := .slice p.A p.n p.c
def Part.fits (w : World) (p : Part) : Prop := Sl w p.A p.n (u8s p.xs) ∧ Bytes p.xs ∧ p.n ≤ 9223372036854775807
theorem Part.fits.below {w w' : World} {p : Part} (h : p.fits w) (hb : Below w.heap.size w w') : p.fits w' := ⟨h.1.below hb, h.2⟩

def sumOf (xs : List Int) : Nat := moreOf 0 xs
theorem sum_lt {xs : List Int} (h : Bytes xs) : sumOf xs < 4294967296 := more_lt (by omega) h

theorem bytes_append {xs ys : List Int} (hx : Bytes xs) (hy : Bytes ys) : Bytes (xs ++ ys) := fun z hz => by
  rcases List.mem_append.1 hz with h | h
  · exact hx z h
  · exact hy z h

set_option maxHeartbeats 800000 in
theorem sum_any (A : Option Addr) (m d : Nat) (ps : List Part) (w : World) (ht : Tabs w) (hx : Sl w A m (ps.map Part.val)) (hp : ∀ p ∈ ps, p.fits w) (hm : m ≤ 9223372036854775807) :
    Calls Tryd.prog 17 #[.slice A m d] w fun e w' => e = .returned (.int .u32 ((sumOf (ps.flatMap Part.xs) : Nat) : Int)) ∧ ∃ q, w' = w.drewN q := by
  have hlen : ps.length = m := by simpa using hx.1
  have Hlen := Lib.hid hlen
  have Hp := Lib.hid hp
  have Ht := Lib.hid ht
  clear hlen hp ht
  go_enter Tryd.func17, Tryd.ntmps17
  go_wp2
  go_loopw [3, 8] (fun v i wr => ∃ (k r : Nat), k ≤ m ∧ i = .int .i64 k ∧ v = .int .u32 (r : Int) ∧ r < 4294967296 ∧ r = sumOf ((ps.take k).flatMap Part.xs) ∧ ∃ q, wr = w.drewN q) (fun _ i _ => m - (intOf i).toNat)
  case atStart => exact ⟨0, 0, by omega, rfl, rfl, by omega, (more_nil 0).symm, 0, rfl⟩
  case round =>
    obtain ⟨k, r, hk, rfl, rfl, hr1, hr, q, rfl⟩ := hrel
    have Hr := Lib.hid hr
    clear hr
    by_cases hlt : k < m
    · have hkl : k < ps.length := by rw [Hlen.out]; exact hlt
      obtain ⟨p, hpk⟩ : ∃ p, ps[k]? = some p := ⟨_, List.getElem?_eq_getElem hkl⟩
      obtain ⟨ad, rfl, hc⟩ := hx.2 k p.val (by rw [List.getElem?_map, hpk]; rfl)
      obtain ⟨f1, f2, f3⟩ := Hp.out p (List.mem_of_getElem? hpk)
      obtain ⟨B, n, c, ys⟩ := p
      dsimp only [Part.val] at hc f1 f2 f3
      have Hpk := Lib.hid hpk; have F1 := Lib.hid f1; have F2 := Lib.hid f2
      clear hpk f1 f2 hkl
      go_wp2_with (go_at_call 21; refine (more_any r hr1 B n c ys (w.drewN q) Ht.out F1.out F2.out f3).mono ?_; rintro e w' ⟨rfl, q2, rfl⟩)
      go_roundw
      case rel => exact ⟨k + 1, _, by omega, by go_num, rfl, more_lt hr1 F2.out, by rw [take_snoc _ _ _ Hpk.out, List.flatMap_append, sumOf, ← more_more, ← sumOf, ← Hr.out]; simp, _, rfl⟩
      case measure => simp [intOf]; omega
    · obtain rfl : k = m := by omega
      rw [List.take_of_length_le (by rw [Hlen.out]; omega)] at Hr
      go_wp2
      go_ret
      exact ⟨ret_int (by rw [Hr.out]), _, rfl⟩
end Go.Proofs.YtpmhjmbiiihfoaaDoor
