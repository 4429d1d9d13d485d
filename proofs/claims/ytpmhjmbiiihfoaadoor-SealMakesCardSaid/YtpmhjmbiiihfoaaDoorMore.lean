import Derived.Test.YtpmhjmbiiihfoaaDoorCrc
import Derived.Test.YtpmhjmbiiihfoaaDoorVals
namespace Go.Proofs.YtpmhjmbiiihfoaaDoor
open Go.RowKit

/-- The program's two tables hold what its text lays. -/
def Tabs (w : World) : Prop :=
  (∀ i : Nat, i < 16 → w.cell? ⟨0, i, none⟩ = some (.int .u32 ((lowTab.getD i 0 : Nat) : Int))) ∧
  (∀ i : Nat, i < 16 → w.cell? ⟨1, i, none⟩ = some (.int .u32 ((upTab.getD i 0 : Nat) : Int)))
theorem Tabs.below {w w' : World} (h : Tabs w) (hb : Below w.heap.size w w') : Tabs w' :=
  ⟨fun i hi => (hb.cell (World.block_lt_of_cell? w _ (h.1 i hi))).trans (h.1 i hi), fun i hi => (hb.cell (World.block_lt_of_cell? w _ (h.2 i hi))).trans (h.2 i hi)⟩


theorem u32_max : IntKind.u32.max = 4294967295 := by decide
theorem u32_not (s : Nat) (h : s < 4294967296) : bits .xor .u32 IntKind.u32.max (s : Int) = ((ones ^^^ s : Nat) : Int) := by
  rw [u32_max]; exact u32_xor_nat 4294967295 s (by omega) h

set_option maxHeartbeats 800000 in
theorem more_any (s : Nat) (hs : s < 4294967296) (A : Option Addr) (n c : Nat) (xs : List Int) (w : World) (ht : Tabs w) (hx : Sl w A n (u8s xs)) (hb : Bytes xs) (hn : n ≤ 9223372036854775807) :
    Calls Tryd.prog 21 #[.int .u32 s, .slice A n c] w fun e w' => e = .returned (.int .u32 ((moreOf s xs : Nat) : Int)) ∧ ∃ q, w' = w.drewN q := by
  have hlen : xs.length = n := by simpa using hx.1
  have Hlen := Lib.hid hlen
  have Hb := Lib.hid hb
  have Ht := Lib.hid ht
  clear hlen hb ht
  obtain ⟨c0, hc0, hc1⟩ : ∃ c0 : Nat, c0 = ones ^^^ s ∧ c0 < 4294967296 := ⟨_, rfl, flip_lt hs⟩
  have hnot := u32_not s hs
  rw [← hc0] at hnot
  have Hc0 := Lib.hid hc0
  clear hc0
  go_enter Tryd.func21, Tryd.ntmps21
  go_wp2
  go_loopw [5, 13] (fun v i wr => ∃ (k r : Nat), k ≤ n ∧ i = .int .i64 k ∧ v = .int .u32 (r : Int) ∧ r < 4294967296 ∧ r = reg c0 (xs.take k) ∧ ∃ q, wr = w.drewN q) (fun _ i _ => n - (intOf i).toNat)
  case atStart => exact ⟨0, c0, by omega, rfl, rfl, hc1, rfl, 0, rfl⟩
  case round =>
    obtain ⟨k, r, hk, rfl, rfl, hr1, hr, q, rfl⟩ := hrel
    have Hr := Lib.hid hr
    clear hr
    by_cases hlt : k < n
    · obtain ⟨ad, u, rfl, hc, hu⟩ := hx.num hlt
      have hu1 : 0 ≤ u ∧ u < 256 := Hb.out u (List.mem_of_getElem? hu)
      obtain ⟨x, rfl⟩ := Int.eq_ofNat_of_zero_le hu1.1
      have hx1 : x < 256 := by omega
      obtain ⟨f, hf, hf1⟩ : ∃ f : Nat, f = r % 256 ^^^ x ∧ f < 256 := ⟨_, rfl, Nat.xor_lt_two_pow (n := 8) (Nat.mod_lt _ (by omega)) hx1⟩
      have hfx : bits .xor .u8 ((r : Int) % 256) (x : Int) = (f : Int) := by
        rw [show (r : Int) % 256 = ((r % 256 : Nat) : Int) by omega, u8_xor_nat _ _ (by omega) hx1, hf]
      obtain ⟨i1, hi1, hi2⟩ : ∃ i : Nat, i = f % 16 ∧ i < 16 := ⟨_, rfl, by omega⟩
      obtain ⟨i3, hi3, hi4⟩ : ∃ i : Nat, i = f / 16 ∧ i < 16 := ⟨_, rfl, by omega⟩
      obtain ⟨t1, ht1, ht2⟩ : ∃ t : Nat, t = lowTab.getD i1 0 ∧ t < 4294967296 := ⟨_, rfl, low_lt i1 hi2⟩
      obtain ⟨t3, ht3, ht4⟩ : ∃ t : Nat, t = upTab.getD i3 0 ∧ t < 4294967296 := ⟨_, rfl, up_lt i3 hi4⟩
      have hcl : w.cell? ⟨0, i1, none⟩ = some (.int .u32 (t1 : Int)) := by rw [ht1]; exact Ht.out.1 i1 hi2
      have hcu : w.cell? ⟨1, i3, none⟩ = some (.int .u32 (t3 : Int)) := by rw [ht3]; exact Ht.out.2 i3 hi4
      have hm : (f : Int) % 16 = (i1 : Int) := by omega
      have hd : (f : Int) / 16 = (i3 : Int) := by omega
      obtain ⟨sh, hsh, hsh2⟩ : ∃ t : Nat, t = r / 256 ∧ t < 4294967296 := ⟨_, rfl, by omega⟩
      have hsr : (r : Int) / 256 = (sh : Int) := by omega
      obtain ⟨y1, hy1, hy2⟩ : ∃ t : Nat, t = sh ^^^ t1 ∧ t < 4294967296 := ⟨_, rfl, Nat.xor_lt_two_pow (n := 32) hsh2 ht2⟩
      obtain ⟨y2, hy3, hy4⟩ : ∃ t : Nat, t = y1 ^^^ t3 ∧ t < 4294967296 := ⟨_, rfl, Nat.xor_lt_two_pow (n := 32) hy2 ht4⟩
      have hxa : bits .xor .u32 (sh : Int) (t1 : Int) = (y1 : Int) := by rw [u32_xor_nat _ _ hsh2 ht2, hy1]
      have hxb : bits .xor .u32 (y1 : Int) (t3 : Int) = (y2 : Int) := by rw [u32_xor_nat _ _ hy2 ht4, hy3]
      have Hy : Hid (y2 = half8 (r ^^^ x)) := Lib.hid (by rw [tab_step hx1, ← hf, ← hi1, ← hi3, ← ht1, ← ht3, ← hsh, ← hy1, ← hy3])
      have Hu := Lib.hid hu
      clear hu hf hu1 hi1 hi3 ht1 ht3 hsh hy1 hy3
      go_wp2
      go_quiet (fail)
      go_wp2
      go_roundw
      case rel => exact ⟨k + 1, y2, by omega, by go_num, rfl, hy4, by rw [take_snoc _ _ _ Hu.out, reg_snoc, ← Hr.out, Hy.out, Int.toNat_natCast], _, rfl⟩
      case measure => simp [intOf]; omega
    · obtain rfl : k = n := by omega
      have hend := u32_not r hr1
      rw [Hr.out, List.take_of_length_le (by rw [Hlen.out]; omega)] at hend
      have hend : bits .xor .u32 IntKind.u32.max (r : Int) = ((moreOf s xs : Nat) : Int) := by
        rw [Hr.out, List.take_of_length_le (by rw [Hlen.out]; omega), hend, moreOf, Hc0.out]
      obtain ⟨m, hm⟩ : ∃ m : Nat, m = moreOf s xs := ⟨_, rfl⟩
      rw [← hm] at hend
      have Hm := Lib.hid hm
      clear hm
      go_wp2
      go_ret
      exact ⟨ret_int (by rw [Hm.out]), _, rfl⟩
end Go.Proofs.YtpmhjmbiiihfoaaDoor
