/- Merged texts: RBits RSum CrcBytes Tells Heap Arr0 ArrS Seal0 RSeal1 RSeal2 RSeal3 Copy PSeal0 PSeal1 PSeal2 PSeal. -/
import Derived.Test.YteliebinhdphlaaDoorM1
import Derived.Deep.OwnRows
import Derived.Deep.RegionHeld3
import Derived.Deep.MidRow
import Derived.Deep.WholeRow
import Derived.ChangeKeysEq
import Derived.Laws.ResultCell
import Derived.Laws.IdiomCopy
namespace Go.Proofs.YteliebinhdphlaaDoor
set_option maxRecDepth 100000
open Go.RowKit

set_option maxRecDepth 100000 in
set_option maxHeartbeats 6400000 in
theorem rbits_any (A : Option Addr) (n c : Nat) (xs : List Int) (w : World) (hx : Sl w A n (u8s xs)) (hb : Bytes xs) (hn : n ≤ 1000) :
    Calls Tryd.prog 100 #[.slice A n c] w fun e w' => ∃ v, e = .returned v ∧ w'.ownsRow w.heap.size 3 1 v 32 (i64s (bl (ones ^^^ reg ones xs))) ∧ Below w.heap.size w w' := by
  obtain ⟨i0, hi0, hz0, hz1, hz2⟩ := info_parts info_int
  have hlen : xs.length = n := by simpa using hx.1
  have Hlen := Lib.hid hlen
  have Hb := Lib.hid hb
  clear hlen hb
  go_enter Tryd.func100, Tryd.ntmps100
  go_wp2_with fail
  refine (cturn_any w).mono ?_
  rintro e w1 ⟨v1, rfl, hown1, hb1⟩
  obtain ⟨T, ct, rfl, ht⟩ := own_form hown1
  have hx1 := hx.below hb1
  have hsz1 := hb1.size
  clear hown1 hx
  go_wp2_with fail
  go_loopw [4, 5] (fun v i wr => ∃ k : Nat, k ≤ 32 ∧ i = .int .i64 k ∧ wr.ownsRow w1.heap.size 3 1 v k (i64s (List.replicate k 1)) ∧ Below w1.heap.size w1 wr) (fun _ i _ => 32 - (intOf i).toNat)
  case atStart => exact ⟨0, by omega, rfl, World.ownsRow_nil _ _ _ _, Below.refl _ _⟩
  case round =>
    obtain ⟨k, hk, rfl, hown, hbl⟩ := hrel
    have hszk := hbl.size
    by_cases hlt : k < 32
    · go_wp2_with (at_builtin; refine wpList_push _ _ 83 3 i0 _ _ 8 rfl rfl Tryd.underlying83 hi0 hz0 hz1 hz2 rfl w1.heap.size _ _ _ hown rfl rfl rfl (by omega) (by omega) hszk ?_; intro v' w2 hown3 hg2 hb2 hs2)
      go_roundw
      case rel => exact ⟨k + 1, by omega, by go_num, by simpa [List.replicate_succ'] using hown3, hbl.trans hb2⟩
      case measure => simp [intOf] <;> omega
    · have hk32 : 32 ≤ k := by omega
      have hown0 := hown
      rw [show k = 32 by omega, bl_start] at hown0
      obtain ⟨g, cap, rfl, hg1, hg2⟩ := hown0.form (by omega)
      have hd0 : decide ((k : Int) < 32) = false := decide_eq_false (by omega)
      clear hlt hk hg2 hown
      obtain ⟨wo, rfl⟩ : ∃ wo : World, wo = wr := ⟨_, rfl⟩
      go_wp2
      go_loopw [6] (fun i wr => ∃ m : Nat, m ≤ n ∧ i = .int .i64 m ∧ wr.ownsRow w1.heap.size 3 1 (.slice (some ⟨g, 0, none⟩) 32 cap) 32 (i64s (bl (reg ones (xs.take m)))) ∧ Below w1.heap.size w1 wr) (fun i _ => n - (intOf i).toNat)
      case atStart => exact ⟨0, by omega, rfl, hown0, hbl⟩
      case round =>
        obtain ⟨m, hm, rfl, hown2, hbl2⟩ := hrel
        clear hown0 hbl hszk
        by_cases hlt : m < n
        · obtain ⟨ad, u, rfl, hc, hu⟩ := (hx1.below hbl2).num hlt
          have hu1 := Hb.out u (List.mem_of_getElem? hu)
          obtain ⟨x, rfl⟩ := Int.eq_ofNat_of_zero_le hu1.1
          have hx256 : x < 256 := by omega
          obtain ⟨r0, hr0, hr1⟩ : ∃ r0, r0 = reg ones (xs.take m) ∧ r0 < 4294967296 := ⟨_, rfl, reg_lt ones_lt (fun y hy => Hb.out y (List.mem_of_mem_take hy))⟩
          have Hstep := Lib.hid (show reg ones (xs.take (m + 1)) = half8 (r0 ^^^ x) by rw [take_snoc _ _ _ hu, reg_snoc, hr0]; rfl)
          rw [← hr0] at hown2
          clear hu hu1 hr0
          obtain ⟨wp, rfl⟩ : ∃ wp : World, wp = wr := ⟨_, rfl⟩
          have hd : decide ((m : Int) < (n : Int)) = true := decide_eq_true (by omega)
          go_wp2
          go_loopw [7, 8] (fun v i wr => ∃ k q : Nat, k ≤ 8 ∧ i = .int .i64 k ∧ v = .int .i64 q ∧ q < 256 ∧ q = x / 2 ^ k ∧ wr.ownsRow w1.heap.size 3 1 (.slice (some ⟨g, 0, none⟩) 32 cap) 32 (i64s (mixTo (fun i => (bitN r0 i + bitN x i) % 2) (bitN r0) 32 k)) ∧ Below w1.heap.size w1 wr) (fun _ i _ => 8 - (intOf i).toNat)
          case atStart => exact ⟨0, x, by omega, rfl, rfl, hx256, by simp, by rw [mixTo_zero]; exact hown2, hbl2⟩
          case round =>
            obtain ⟨j, q, hj, rfl, rfl, hq256, hq, hown3, hbl3⟩ := hrel
            clear hown2 hbl2
            have Hq := Lib.hid hq
            clear hq
            by_cases hlt : j < 8
            · obtain ⟨u, hu, hu1⟩ : ∃ u, u = bitN r0 j ∧ 0 ≤ u ∧ u < 2 := ⟨_, rfl, bit_range _ _⟩
              have hcu : wr.cell? ⟨g, j, none⟩ = some (.int .i64 u) := own_cell hown3 (by omega) (by rw [hu]; exact mixTo_at _ _ (by omega) (by omega))
              have hfu := hown3.frozenAt j
              obtain ⟨z, hz, hz1⟩ : ∃ z : Int, z = (u + (q : Int) % 2) % 2 ∧ 0 ≤ z ∧ z < 2 := ⟨_, rfl, by omega⟩
              have hset := own_set hown3 (k := j) (u := z) (L' := mixTo (fun i => (bitN r0 i + bitN x i) % 2) (bitN r0) 32 (j + 1)) (by
                rw [hz, hu, Hq.out]
                exact mixTo_set (fun i => (bitN r0 i + bitN x i) % 2) (bitN r0) 32 j)
              have Hset := Lib.hid hset
              have hz' : (u + (q : Int) % 2) % 2 = z := hz.symm
              clear hu hset hz
              go_wp2
              go_roundw
              case rel => exact ⟨j + 1, q / 2, by omega, by go_num, val_int (by omega), by omega, by rw [Hq.out, Nat.div_div_eq_div_mul, Nat.pow_succ], Hset.out, hbl3.setCell (p := ⟨g, j, none⟩) hg1 _⟩
              case measure => simp [intOf] <;> omega
            · have hj8 : 8 ≤ j := by omega
              have hown4 := hown3
              rw [show j = 8 by omega, bl_byte r0 x hx256] at hown4
              obtain ⟨d0, hd0', hd1⟩ : ∃ d0, d0 = r0 ^^^ x ∧ d0 < 4294967296 := ⟨_, rfl, Nat.xor_lt_two_pow (n := 32) hr1 (by omega)⟩
              rw [← hd0'] at hown4 Hstep
              have hdj : decide ((j : Int) < 8) = false := decide_eq_false (by omega)
              clear hown3 hlt hj hd0' Hq
              obtain ⟨wq, rfl⟩ : ∃ wq : World, wq = wr := ⟨_, rfl⟩
              go_wp2
              go_loopw [9] (fun i wr => ∃ r : Nat, r ≤ 8 ∧ i = .int .i64 r ∧ wr.ownsRow w1.heap.size 3 1 (.slice (some ⟨g, 0, none⟩) 32 cap) 32 (i64s (bl (halves r d0))) ∧ Below w1.heap.size w1 wr) (fun i _ => 8 - (intOf i).toNat)
              case atStart => exact ⟨0, by omega, rfl, hown4, hbl3⟩
              case round =>
                obtain ⟨r, hr, rfl, hown5, hbl5⟩ := hrel
                clear hown4 hbl3
                by_cases hlt : r < 8
                · obtain ⟨d, hdd, hd2⟩ : ∃ d, d = halves r d0 ∧ d < 4294967296 := ⟨_, rfl, halves_lt hd1 r⟩
                  have Hnext := Lib.hid (show halves (r + 1) d0 = half d by rw [hdd]; rfl)
                  rw [← hdd] at hown5
                  clear hdd
                  obtain ⟨o, ho, ho1⟩ : ∃ o, o = bitN d 0 ∧ 0 ≤ o ∧ o < 2 := ⟨_, rfl, bit_range _ _⟩
                  have hc0 : wr.cell? ⟨g, 0, none⟩ = some (.int .i64 o) := own_cell hown5 (by omega) (by rw [ho]; exact bl_at d (by omega))
                  have Ho := Lib.hid (ho.trans (bit_low d))
                  clear ho
                  have hdr : decide ((r : Int) < 8) = true := decide_eq_true (by omega)
                  obtain ⟨ws, rfl⟩ : ∃ ws : World, ws = wr := ⟨_, rfl⟩
                  go_wp2
                  go_loopw [11] (fun i wr => ∃ k : Nat, k ≤ 31 ∧ i = .int .i64 k ∧ wr.ownsRow w1.heap.size 3 1 (.slice (some ⟨g, 0, none⟩) 32 cap) 32 (i64s (mixTo (fun i => bitN d (i + 1)) (bitN d) 32 k)) ∧ Below w1.heap.size w1 wr) (fun i _ => 31 - (intOf i).toNat)
                  case atStart => exact ⟨0, by omega, rfl, by rw [mixTo_zero]; exact hown5, hbl5⟩
                  case round =>
                    obtain ⟨y, hy, rfl, hown6, hbl6⟩ := hrel
                    clear hown5 hbl5
                    by_cases hlt : y < 31
                    · obtain ⟨u, hu⟩ : ∃ u, u = bitN d (y + 1) := ⟨_, rfl⟩
                      obtain ⟨u', hu'⟩ : ∃ u', u' = bitN d y := ⟨_, rfl⟩
                      have hcu : wr.cell? ⟨g, y + 1, none⟩ = some (.int .i64 u) := own_cell hown6 (by omega) (by rw [hu]; exact mixTo_at _ _ (by omega) (by omega))
                      have hcy : wr.cell? ⟨g, y, none⟩ = some (.int .i64 u') := own_cell hown6 (by omega) (by rw [hu']; exact mixTo_at _ _ (by omega) (by omega))
                      have hfu := hown6.frozenAt y
                      have Hset := Lib.hid (own_set hown6 (k := y) (u := u) (L' := mixTo (fun i => bitN d (i + 1)) (bitN d) 32 (y + 1)) (by
                        rw [hu]
                        exact mixTo_set (fun i => bitN d (i + 1)) (bitN d) 32 y))
                      clear hu hu'
                      go_wp2
                      go_roundw
                      case rel => exact ⟨y + 1, by omega, by go_num, Hset.out, hbl6.setCell (p := ⟨g, y, none⟩) hg1 _⟩
                      case measure => simp [intOf] <;> omega
                    · have hy31 : 31 ≤ y := by omega
                      have hown7 := hown6
                      rw [show y = 31 by omega] at hown7
                      obtain ⟨u', hu'⟩ : ∃ u', u' = bitN d 31 := ⟨_, rfl⟩
                      have hc31 : wr.cell? ⟨g, 31, none⟩ = some (.int .i64 u') := own_cell hown7 (by omega) (by rw [hu']; exact mixTo_at _ _ (by omega) (by omega))
                      have hf31 := hown7.frozenAt 31
                      have hset : (wr.setCell ⟨g, 31, none⟩ (.int .i64 0)).ownsRow w1.heap.size 3 1 (.slice (some ⟨g, 0, none⟩) 32 cap) 32 (i64s (bl (d / 2))) := own_set hown7 (bl_down d hd2)
                      have hblz : Below w1.heap.size w1 (wr.setCell ⟨g, 31, none⟩ (.int .i64 0)) := hbl6.setCell (p := ⟨g, 31, none⟩) hg1 _
                      have hdy : decide ((y : Int) < 31) = false := decide_eq_false (by omega)
                      clear hown6 hown7 hu' hlt hy
                      obtain ⟨wt, rfl⟩ : ∃ wt : World, wt = wr := ⟨_, rfl⟩
                      go_wp2
                      go_loopw [12] (fun i wr => ∃ z : Nat, z ≤ 32 ∧ i = .int .i64 z ∧ (o = 1 ∨ z = 0) ∧ wr.ownsRow w1.heap.size 3 1 (.slice (some ⟨g, 0, none⟩) 32 cap) 32 (i64s (mixTo (fun i => (bitN (d / 2) i + bitN poly i) % 2) (bitN (d / 2)) 32 z)) ∧ Below w1.heap.size w1 wr) (fun i _ => 32 - (intOf i).toNat)
                      case atStart => exact ⟨0, by omega, rfl, .inr rfl, by rw [mixTo_zero]; exact hset, hblz⟩
                      case round =>
                        obtain ⟨z, hz, rfl, hoz, hown8, hbl8⟩ := hrel
                        clear hset hblz hbl6
                        by_cases hgo : z < 32 ∧ o = 1
                        · obtain ⟨hlt, rfl⟩ := hgo
                          obtain ⟨u, hu, hu1⟩ : ∃ u, u = bitN (d / 2) z ∧ 0 ≤ u ∧ u < 2 := ⟨_, rfl, bit_range _ _⟩
                          have hcu : wr.cell? ⟨g, z, none⟩ = some (.int .i64 u) := own_cell hown8 (by omega) (by rw [hu]; exact mixTo_at _ _ (by omega) (by omega))
                          have hfu := hown8.frozenAt z
                          obtain ⟨at_, p, rfl, hct, hpt⟩ := (ht.below hbl8).num hlt
                          have hp : p = bitN poly z := by rw [bl_at poly hlt] at hpt; exact (Option.some.inj hpt).symm
                          have hp1 : 0 ≤ p ∧ p < 2 := by rw [hp]; exact bit_range _ _
                          obtain ⟨v, hv, hv1⟩ : ∃ v : Int, v = (u + p) % 2 ∧ 0 ≤ v ∧ v < 2 := ⟨_, rfl, by omega⟩
                          have Hset := Lib.hid (own_set hown8 (k := z) (u := v) (L' := mixTo (fun i => (bitN (d / 2) i + bitN poly i) % 2) (bitN (d / 2)) 32 (z + 1)) (by
                            rw [hv, hu, hp]
                            exact mixTo_set (fun i => (bitN (d / 2) i + bitN poly i) % 2) (bitN (d / 2)) 32 z))
                          have hv' : (u + p) % 2 = v := hv.symm
                          have hdz : decide ((z : Int) < 32) = true := decide_eq_true (by omega)
                          clear hu hv hp hpt
                          go_wp2
                          go_region
                          all_goals
                            go_wp2
                            go_roundw
                          case rel => exact ⟨z + 1, by omega, by go_num, .inl trivial, Hset.out.drew, (hbl8.setCell (p := ⟨g, z, none⟩) hg1 _).drew⟩
                          case measure => simp [intOf] <;> omega
                        · have hown9 : wr.ownsRow w1.heap.size 3 1 (.slice (some ⟨g, 0, none⟩) 32 cap) 32 (i64s (bl (half d))) := by
                            have ho := Ho.out
                            by_cases ho2 : o = 1
                            · rw [show z = 32 by omega, bl_turn d (by omega)] at hown8
                              exact hown8
                            · rw [show z = 0 by omega, mixTo_zero] at hown8
                              have h : i64s (bl (d / 2)) = i64s (bl (half d)) := by rw [bl_stay d (by omega)]
                              rw [← h]
                              exact hown8
                          rw [← Hnext.out] at hown9
                          clear hown8
                          by_cases h32 : z < 32
                          · have ho2 : ¬ o = 1 := fun h => hgo ⟨h32, h⟩
                            have hdz : decide ((z : Int) < 32) = true := decide_eq_true (by omega)
                            have hdo : (o == 1) = false := by simpa using ho2
                            clear hgo hoz
                            go_wp2
                            go_roundw
                            case rel => exact ⟨r + 1, by omega, by go_num, hown9, hbl8⟩
                            case measure => simp [intOf] <;> omega
                          · have hdz : decide ((z : Int) < 32) = false := decide_eq_false (by omega)
                            clear hgo hoz
                            go_wp2
                            go_roundw
                            case rel => exact ⟨r + 1, by omega, by go_num, hown9, hbl8⟩
                            case measure => simp [intOf] <;> omega
                · have hr8 : 8 ≤ r := by omega
                  have hown6 := hown5
                  rw [show r = 8 by omega, halves_eight, ← Hstep.out] at hown6
                  have hdr : decide ((r : Int) < 8) = false := decide_eq_false (by omega)
                  clear hown5 hlt hr
                  go_wp2
                  go_roundw
                  case rel => exact ⟨m + 1, by omega, by go_num, hown6, hbl5⟩
                  case measure => simp [intOf] <;> omega
        · have hmn : n ≤ m := by omega
          have hown3 := hown2
          rw [List.take_of_length_le (by rw [Hlen.out]; omega)] at hown3
          have hdm : decide ((m : Int) < (n : Int)) = false := decide_eq_false (by omega)
          obtain ⟨f, hf, hf1⟩ : ∃ f, f = reg ones xs ∧ f < 4294967296 := ⟨_, rfl, reg_lt ones_lt Hb.out⟩
          rw [← hf] at hown3
          have Hf := Lib.hid hf
          clear hown2 hlt hm hf
          obtain ⟨wp, rfl⟩ : ∃ wp : World, wp = wr := ⟨_, rfl⟩
          go_wp2
          go_loopw [13] (fun i wr => ∃ z : Nat, z ≤ 32 ∧ i = .int .i64 z ∧ wr.ownsRow w1.heap.size 3 1 (.slice (some ⟨g, 0, none⟩) 32 cap) 32 (i64s (mixTo (fun i => 1 - bitN f i) (bitN f) 32 z)) ∧ Below w1.heap.size w1 wr) (fun i _ => 32 - (intOf i).toNat)
          case atStart => exact ⟨0, by omega, rfl, by rw [mixTo_zero]; exact hown3, hbl2⟩
          case round =>
            obtain ⟨z, hz, rfl, hown4, hbl4⟩ := hrel
            clear hown3 hbl2
            by_cases hlt : z < 32
            · obtain ⟨u, hu, hu1⟩ : ∃ u, u = bitN f z ∧ 0 ≤ u ∧ u < 2 := ⟨_, rfl, bit_range _ _⟩
              have hcu : wr.cell? ⟨g, z, none⟩ = some (.int .i64 u) := own_cell hown4 (by omega) (by rw [hu]; exact mixTo_at _ _ (by omega) (by omega))
              have hfu := hown4.frozenAt z
              have Hset := Lib.hid (own_set hown4 (k := z) (u := 1 - u) (L' := mixTo (fun i => 1 - bitN f i) (bitN f) 32 (z + 1)) (by
                rw [hu]
                exact mixTo_set (fun i => 1 - bitN f i) (bitN f) 32 z))
              clear hu
              go_wp2
              go_roundw
              case rel => exact ⟨z + 1, by omega, by go_num, Hset.out, hbl4.setCell (p := ⟨g, z, none⟩) hg1 _⟩
              case measure => simp [intOf] <;> omega
            · rw [show z = 32 by omega, bl_ones, Hf.out] at hown4
              have hfin := own_base hown4 hsz1
              have hbw := hb1.trans (hbl4.mono hsz1)
              clear hown4
              go_wp2
              go_ret
              exact ⟨_, rfl, hfin, hbw⟩
end Go.Proofs.YteliebinhdphlaaDoor

namespace Go.Proofs.YteliebinhdphlaaDoor
set_option maxRecDepth 100000
open Go.RowKit

theorem val_drop_next {L : List Int} {j : Nat} {u : Int} (hu : L[j]? = some u) : val 2 (L.drop j) = u + 2 * val 2 (L.drop (j + 1)) := by
  rw [drop_at L j u hu, val_cons]

set_option maxHeartbeats 1600000 in
theorem rsum_any (A : Option Addr) (n c : Nat) (xs : List Int) (w : World) (hx : Sl w A n (u8s xs)) (hb : Bytes xs) (hn : n ≤ 1000) :
    Calls Tryd.prog 95 #[.slice A n c] w fun e w' => e = .returned (.int .i64 ((ones ^^^ reg ones xs : Nat) : Int)) ∧ Below w.heap.size w w' := by
  have hlt := flip_lt (reg_lt ones_lt hb)
  have Hb := Lib.hid hb
  go_enter Tryd.func95, Tryd.ntmps95
  go_wp2_with fail
  refine (rbits_any A n c xs w hx Hb.out hn).mono ?_
  rintro e w1 ⟨v1, rfl, hown1, hb1⟩
  obtain ⟨B, cb, rfl, hs⟩ := own_form hown1
  clear hown1 hx hb
  obtain ⟨f, hf⟩ : ∃ f, f = ones ^^^ reg ones xs := ⟨_, rfl⟩
  rw [← hf] at hs hlt
  have Hf := Lib.hid hf
  have hbits : ∀ x ∈ bl f, 0 ≤ x ∧ x < 2 := by
    intro x hx
    obtain ⟨i, _, rfl⟩ := List.mem_map.1 hx
    exact bit_range _ _
  have Hbits := Lib.hid hbits
  clear hf hbits
  go_wp2_with fail
  go_loop [4, 5] (fun v i => ∃ (j : Nat) (q iv : Int), j ≤ 32 ∧ i = .int .i64 iv ∧ iv = (j : Int) - 1 ∧ v = .int .i64 q ∧ 0 ≤ q ∧ q < 2 ^ (32 - j) ∧ q = val 2 ((bl f).drop j)) (fun _ i => (intOf i + 1).toNat)
  case atStart => exact ⟨32, 0, 31, by omega, rfl, by omega, rfl, by omega, by omega, by rw [List.drop_of_length_le (by rw [bl_length]; omega)]; rfl⟩
  case round =>
    obtain ⟨j, q, iv, hj, rfl, hiv, rfl, q1, q2, hq⟩ := hrel
    have Hq := Lib.hid hq
    clear hq
    rcases j with _ | j
    · obtain rfl : iv = -1 := by omega
      have hqf : q = (f : Int) := by rw [Hq.out, List.drop_zero, val_bl hlt]
      clear hiv q1 q2
      go_wp2
      go_ret
      exact ⟨ret_int (by rw [Hf.out]), hb1⟩
    · obtain rfl : iv = (j : Int) := by omega
      clear hiv
      obtain ⟨ad, u, rfl, hc, hu⟩ := hs.num (k := j) (by omega)
      have hu1 : 0 ≤ u ∧ u < 2 := Hbits.out u (List.mem_of_getElem? hu)
      have Hn := Lib.hid (val_drop_next hu)
      have hq3 : 2 * q + u < 2 ^ (32 - j) := by
        rw [show 32 - j = (32 - (j + 1)) + 1 by omega, Int.pow_succ]; omega
      have hq4 : q < 4294967296 := by
        have : (2 : Int) ^ (32 - (j + 1)) ≤ 2 ^ 32 := by exact_mod_cast Nat.pow_le_pow_right (show 0 < 2 by omega) (by omega)
        omega
      clear hu q2
      go_wp2
      go_round
      case rel => exact ⟨j, 2 * q + u, (j : Int) - 1, by omega, by go_num, rfl, by go_num, by omega, hq3, by rw [Hn.out, ← Hq.out]; omega⟩
      case measure => simp [intOf] <;> omega
end Go.Proofs.YteliebinhdphlaaDoor

namespace Go.Proofs.YteliebinhdphlaaDoor
set_option maxRecDepth 100000
open Go.RowKit

theorem rsum_is (r : Nat) (A : Option Addr) (n c : Nat) (xs : List Int) (w : World) (hx : Sl w A n (u8s xs)) (hb : Bytes xs) (hn : n ≤ 1000) (hr : r = sumOf xs) :
    Calls Tryd.prog 95 #[.slice A n c] w fun e w' => e = .returned (.int .i64 (r : Int)) ∧ Below w.heap.size w w' := by
  rw [hr, show sumOf xs = ones ^^^ reg ones xs by unfold sumOf moreOf; rw [Nat.xor_zero]]
  exact rsum_any A n c xs w hx hb hn

theorem bytes_any (s : Nat) (hs : s < 4294967296) (w : World) :
    Calls Tryd.prog 57 #[.int .u32 s] w fun e w' => (∃ b0 b1 b2 b3 : Nat, e = .returned (.agg #[.int .u8 b0, .int .u8 b1, .int .u8 b2, .int .u8 b3]) ∧ b0 < 256 ∧ b1 < 256 ∧ b2 < 256 ∧ b3 < 256 ∧ b0 + 256 * b1 + 65536 * b2 + 16777216 * b3 = s) ∧ Below w.heap.size w w' := by
  obtain ⟨b0, hb0, hc0⟩ : ∃ b : Nat, b = s % 256 ∧ (s : Int) % 256 = (b : Int) := ⟨_, rfl, by omega⟩
  obtain ⟨b1, hb1, hc1⟩ : ∃ b : Nat, b = s / 256 % 256 ∧ (s : Int) / 256 % 256 = (b : Int) := ⟨_, rfl, by omega⟩
  obtain ⟨b2, hb2, hc2⟩ : ∃ b : Nat, b = s / 65536 % 256 ∧ (s : Int) / 65536 % 256 = (b : Int) := ⟨_, rfl, by omega⟩
  obtain ⟨b3, hb3, hc3⟩ : ∃ b : Nat, b = s / 16777216 ∧ (s : Int) / 16777216 = (b : Int) := ⟨_, rfl, by omega⟩
  have hb : Hid (b0 < 256 ∧ b1 < 256 ∧ b2 < 256 ∧ b3 < 256 ∧ b0 + 256 * b1 + 65536 * b2 + 16777216 * b3 = s) := Lib.hid (by omega)
  clear hb0 hb1 hb2 hb3
  go_enter Tryd.func57, Tryd.ntmps57
  go_wp2
  refine bodyPost_ret (v := .agg #[.int .u8 b0, .int .u8 b1, .int .u8 b2, .int .u8 b3]) ?_ rfl ⟨⟨b0, b1, b2, b3, rfl, hb.out⟩, below_alloc _ _⟩
  exact results_cell_row rfl _ _ w.heap.size 120 _ (0, 0) _ rfl (heap_alloc_new w _) Tryd.underlying120 rfl (by kernel_rfl)
end Go.Proofs.YteliebinhdphlaaDoor

namespace Go.Proofs.YteliebinhdphlaaDoor
set_option maxRecDepth 100000
open Go.RowKit

/-- j bytes from the k-th on, each turned by its own. -/
def flipTo (xs : List Int) (k : Nat) (ys : List Int) (j : Nat) : List Int :=
  xs.mapIdx fun i x => if k ≤ i ∧ i < k + j then ((x.toNat ^^^ (ys.getD (i - k) 0).toNat : Nat) : Int) else x
theorem flip_length (xs : List Int) (k : Nat) (ys : List Int) (j : Nat) : (flipTo xs k ys j).length = xs.length := by simp [flipTo]
theorem flip_zero (xs : List Int) (k : Nat) (ys : List Int) : flipTo xs k ys 0 = xs := by
  apply List.ext_getElem?
  intro i
  simp only [flipTo, List.getElem?_mapIdx]
  cases xs[i]? with
  | none => rfl
  | some x => simp; omega
theorem flip_at {xs : List Int} {k : Nat} {ys : List Int} {j i : Nat} {x : Int} (h : xs[i]? = some x) (hi : ¬ (k ≤ i ∧ i < k + j)) : (flipTo xs k ys j)[i]? = some x := by
  simp only [flipTo, List.getElem?_mapIdx, h, Option.map_some, if_neg hi]
theorem flip_in {xs : List Int} {k : Nat} {ys : List Int} {j i : Nat} {x : Int} (h : xs[i]? = some x) (hi : k ≤ i ∧ i < k + j) : (flipTo xs k ys j)[i]? = some (((x.toNat ^^^ (ys.getD (i - k) 0).toNat : Nat) : Int)) := by
  simp only [flipTo, List.getElem?_mapIdx, h, Option.map_some, if_pos hi]
theorem flip_out {xs : List Int} {k : Nat} {ys : List Int} {j i : Nat} (hi : ¬ (k ≤ i ∧ i < k + j)) : (flipTo xs k ys j)[i]? = xs[i]? := by
  cases h : xs[i]? with
  | none => simp only [flipTo, List.getElem?_mapIdx, h, Option.map_none]
  | some x => exact flip_at h hi
theorem flip_set {xs : List Int} {k j : Nat} {ys : List Int} {x y : Int} (hx : xs[k + j]? = some x) (hy : ys[j]? = some y) :
    (flipTo xs k ys j).set (k + j) (((x.toNat ^^^ y.toNat : Nat) : Int)) = flipTo xs k ys (j + 1) := by
  apply List.ext_getElem?
  intro i
  have hl : k + j < (flipTo xs k ys j).length := by rw [flip_length]; exact (List.getElem?_eq_some_iff.1 hx).1
  by_cases hi : k + j = i
  · subst hi
    rw [List.getElem?_set_self hl, flip_in hx (by omega), show k + j - k = j by omega]
    simp [List.getD, hy]
  · rw [List.getElem?_set_ne hi]
    by_cases h2 : k ≤ i ∧ i < k + j
    · cases h : xs[i]? with
      | none => simp only [flipTo, List.getElem?_mapIdx, h, Option.map_none]
      | some x => rw [flip_in h h2, flip_in h (by omega)]
    · rw [flip_out h2, flip_out (by omega)]
theorem flip_bytes {xs : List Int} {k : Nat} {ys : List Int} {j : Nat} (hx : Bytes xs) (hy : Bytes ys) : Bytes (flipTo xs k ys j) := by
  intro u hu
  obtain ⟨i, hi⟩ := List.getElem?_of_mem hu
  by_cases h2 : k ≤ i ∧ i < k + j
  · cases h : xs[i]? with
    | none => simp only [flipTo, List.getElem?_mapIdx, h, Option.map_none] at hi; cases hi
    | some x =>
      rw [flip_in h h2] at hi
      cases hi
      have h1 := hx x (List.mem_of_getElem? h)
      have h3 : 0 ≤ ys.getD (i - k) 0 ∧ ys.getD (i - k) 0 < 256 := by
        cases hg : ys[i - k]? with
        | none => simp [List.getD, hg]
        | some y => have := hy y (List.mem_of_getElem? hg); simpa [List.getD, hg] using this
      have : x.toNat ^^^ (ys.getD (i - k) 0).toNat < 2 ^ 8 := Nat.xor_lt_two_pow (by omega) (by omega)
      omega
  · rw [flip_out h2] at hi
    exact hx u (List.mem_of_getElem? hi)

/-- Four bytes at once. -/
theorem reg_four (c x0 x1 x2 x3 : Nat) :
    half8 (half8 (half8 (half8 (c ^^^ x0) ^^^ x1) ^^^ x2) ^^^ x3) = half8 (half8 (half8 (half8 (c ^^^ (x0 ^^^ 256 * (x1 ^^^ 256 * (x2 ^^^ 256 * x3))))))) := by
  have h : ∀ a b, half8 a ^^^ b = half8 (a ^^^ 256 * b) := fun a b => by rw [half8_xor, half8_byte]
  rw [h (half8 (half8 (c ^^^ x0) ^^^ x1) ^^^ x2) x3, Nat.xor_assoc (half8 (half8 (c ^^^ x0) ^^^ x1)) x2, h (half8 (c ^^^ x0) ^^^ x1), Nat.xor_assoc (half8 (c ^^^ x0)) x1, h (c ^^^ x0), Nat.xor_assoc c x0]
theorem four_inj {c x0 x1 x2 x3 y0 y1 y2 y3 : Nat} (hc : c < 2 ^ 32) (a0 : x0 < 256) (a1 : x1 < 256) (a2 : x2 < 256) (a3 : x3 < 256) (b0 : y0 < 256) (b1 : y1 < 256) (b2 : y2 < 256) (b3 : y3 < 256)
    (h : half8 (half8 (half8 (half8 (c ^^^ x0) ^^^ x1) ^^^ x2) ^^^ x3) = half8 (half8 (half8 (half8 (c ^^^ y0) ^^^ y1) ^^^ y2) ^^^ y3)) : x0 = y0 ∧ x1 = y1 ∧ x2 = y2 ∧ x3 = y3 := by
  rw [reg_four, reg_four] at h
  rw [xor_join _ x2 a2, xor_join _ x1 a1, xor_join _ x0 a0, xor_join _ y2 b2, xor_join _ y1 b1, xor_join _ y0 b0] at h
  have hx : c ^^^ (256 * (256 * (256 * x3 + x2) + x1) + x0) < 2 ^ 32 := Nat.xor_lt_two_pow hc (by omega)
  have hy : c ^^^ (256 * (256 * (256 * y3 + y2) + y1) + y0) < 2 ^ 32 := Nat.xor_lt_two_pow hc (by omega)
  have h := half8_inj hx hy (half8_inj (half8_lt hx) (half8_lt hy) (half8_inj (half8_lt (half8_lt hx)) (half8_lt (half8_lt hy)) (half8_inj (half8_lt (half8_lt (half8_lt hx))) (half8_lt (half8_lt (half8_lt hy))) h)))
  rw [Nat.xor_comm c, Nat.xor_comm c] at h
  have h := xor_cancel h
  omega

theorem cut_four {xs : List Int} {k : Nat} (h : k + 4 ≤ xs.length) : ∃ a b c d, xs = xs.take k ++ a :: b :: c :: d :: xs.drop (k + 4) := by
  obtain ⟨a, ha⟩ : ∃ a, xs[k]? = some a := ⟨_, List.getElem?_eq_getElem (by omega)⟩
  obtain ⟨b, hb⟩ : ∃ a, xs[k + 1]? = some a := ⟨_, List.getElem?_eq_getElem (by omega)⟩
  obtain ⟨c, hc⟩ : ∃ a, xs[k + 2]? = some a := ⟨_, List.getElem?_eq_getElem (by omega)⟩
  obtain ⟨d, hd⟩ : ∃ a, xs[k + 3]? = some a := ⟨_, List.getElem?_eq_getElem (by omega)⟩
  refine ⟨a, b, c, d, ?_⟩
  conv => lhs; rw [← List.take_append_drop k xs, drop_at xs k a ha, drop_at xs (k + 1) b hb, drop_at xs (k + 1 + 1) c hc, drop_at xs (k + 1 + 1 + 1) d hd]

/-- Texts that differ within four bytes alone have one sum only if they are one. -/
theorem sum_tells {xs ys : List Int} {k : Nat} (hl : ys.length = xs.length) (hk : k + 4 ≤ xs.length) (hx : Bytes xs) (hy : Bytes ys) (h : ∀ i, ¬ (k ≤ i ∧ i < k + 4) → ys[i]? = xs[i]?)
    (hs : sumOf xs = sumOf ys) : xs = ys := by
  have ht : ys.take k = xs.take k := by
    apply List.ext_getElem?
    intro i
    rw [List.getElem?_take, List.getElem?_take]
    split
    · exact h i (by omega)
    · rfl
  have hd : ys.drop (k + 4) = xs.drop (k + 4) := by
    apply List.ext_getElem?
    intro i
    rw [List.getElem?_drop, List.getElem?_drop]
    exact h _ (by omega)
  obtain ⟨a, b, c, d, hxe⟩ := cut_four hk
  obtain ⟨a', b', c', d', hye⟩ := cut_four (xs := ys) (k := k) (by omega)
  rw [ht, hd] at hye
  have hpre : Bytes (xs.take k) := fun u hu => hx u (List.mem_of_mem_take hu)
  have hpost : Bytes (xs.drop (k + 4)) := fun u hu => hx u (List.mem_of_mem_drop hu)
  generalize xs.take k = p at *
  generalize xs.drop (k + 4) = s at *
  subst hxe hye
  have ba := hx a (by simp); have bb := hx b (by simp); have bc := hx c (by simp); have bd := hx d (by simp)
  have ba' := hy a' (by simp); have bb' := hy b' (by simp); have bc' := hy c' (by simp); have bd' := hy d' (by simp)
  unfold sumOf moreOf at hs
  rw [Nat.xor_comm ones, Nat.xor_comm ones (reg _ (p ++ a' :: _))] at hs
  have hs := xor_cancel hs
  simp only [reg_append, reg_cons] at hs
  have hc : reg (ones ^^^ 0) p < 2 ^ 32 := reg_lt (by decide) hpre
  generalize reg (ones ^^^ 0) p = r at *
  have lt4 : ∀ x0 x1 x2 x3 : Int, x0.toNat < 2 ^ 32 → x1.toNat < 2 ^ 32 → x2.toNat < 2 ^ 32 → x3.toNat < 2 ^ 32 → half8 (half8 (half8 (half8 (r ^^^ x0.toNat) ^^^ x1.toNat) ^^^ x2.toNat) ^^^ x3.toNat) < 2 ^ 32 := fun x0 x1 x2 x3 h0 h1 h2 h3 =>
    half8_lt (Nat.xor_lt_two_pow (half8_lt (Nat.xor_lt_two_pow (half8_lt (Nat.xor_lt_two_pow (half8_lt (Nat.xor_lt_two_pow hc h0)) h1)) h2)) h3)
  have h4 := reg_inj (lt4 a b c d (by omega) (by omega) (by omega) (by omega)) (lt4 a' b' c' d' (by omega) (by omega) (by omega) (by omega)) hpost hs
  have := four_inj hc (by omega) (by omega) (by omega) (by omega) (by omega) (by omega) (by omega) (by omega) h4
  have e1 : a = a' := by omega
  have e2 : b = b' := by omega
  have e3 : c = c' := by omega
  have e4 : d = d' := by omega
  rw [e1, e2, e3, e4]
end Go.Proofs.YteliebinhdphlaaDoor

/- Blocks, whole: what a block holds; which blocks a call may have changed; rows of bytes that lie in blocks of their own. No function of the program is named here. -/
namespace Go.Proofs.YteliebinhdphlaaDoor
set_option maxRecDepth 100000
open Go.RowKit Go.Deep
set_option linter.unusedSimpArgs false
set_option linter.unusedVariables false

/-- Block b is a row of type t, none of it frozen, that holds vs. -/
def Blk (w : World) (b : Nat) (t : TypeId) (vs : List Value) : Prop := w.heap[b]? = some (.cells vs.toArray t (0, 0))

theorem Blk.lt {w : World} {b : Nat} {t : TypeId} {vs : List Value} (h : Blk w b t vs) : b < w.heap.size := (Array.getElem?_eq_some_iff.1 h).1
theorem Blk.cell {w : World} {b i : Nat} {t : TypeId} {vs : List Value} {v : Value} (h : Blk w b t vs) (hv : vs[i]? = some v) : w.cell? ⟨b, i, none⟩ = some v := by
  rw [cell_of_row w b i vs.toArray t (0, 0) h]; simpa using hv
theorem Blk.frozen {w : World} {b : Nat} {t : TypeId} {vs : List Value} (h : Blk w b t vs) (i : Nat) : w.frozen? ⟨b, i, none⟩ = false := by
  simp [World.frozen?, show w.heap[b]? = _ from h]
theorem Blk.set {w : World} {b : Nat} {t : TypeId} {vs : List Value} (h : Blk w b t vs) (i : Nat) (v : Value) : Blk (w.setCell ⟨b, i, none⟩ v) b t (vs.set i v) := by
  unfold Blk
  simp [World.setCell, Array.getElem?_modify, show w.heap[b]? = _ from h]
theorem Blk.setOther {w : World} {b : Nat} {t : TypeId} {vs : List Value} (h : Blk w b t vs) {a : Addr} (ha : b ≠ a.block) (v : Value) : Blk (w.setCell a v) b t vs :=
  (blk_setCell_other w a v b ha).trans h
theorem Blk.kept {w w' : World} {b : Nat} {t : TypeId} {vs : List Value} (h : Blk w b t vs) (e : w'.heap[b]? = w.heap[b]?) : Blk w' b t vs := e.trans h
theorem Blk.alloc {w : World} {b : Nat} {t : TypeId} {vs : List Value} (h : Blk w b t vs) (o : Obj) : Blk (w.alloc o) b t vs := h.kept (blk_alloc_lt _ _ _ h.lt)
theorem Blk.drew {w : World} {b : Nat} {t : TypeId} {vs : List Value} (h : Blk w b t vs) : Blk w.drew b t vs := h
theorem Blk.drewN {w : World} {b : Nat} {t : TypeId} {vs : List Value} (h : Blk w b t vs) (n : Nat) : Blk (w.drewN n) b t vs := h
theorem Blk.ne {w : World} {b b' : Nat} {t t' : TypeId} {vs vs' : List Value} (h : Blk w b t vs) (h' : Blk w b' t' vs') (ht : t ≠ t') : b ≠ b' := by
  intro e
  subst e
  have := Option.some.inj (h.symm.trans h')
  injection this with _ h2
  exact ht h2
theorem Blk.same {w : World} {b : Nat} {t t' : TypeId} {vs vs' : List Value} (h : Blk w b t vs) (h' : Blk w b t' vs') : vs = vs' := by
  have := Option.some.inj (h.symm.trans h')
  injection this with h1
  simpa using h1
theorem Blk.new (w : World) (t : TypeId) (vs : List Value) : Blk (w.alloc (.cells vs.toArray t)) w.heap.size t vs := blk_alloc_new _ _

/-- Of the blocks that there were, only those of F may have changed. -/
structure Only (F : Nat → Prop) (w w' : World) : Prop where
  os : w'.os = w.os
  tape : w'.tape = w.tape
  output : w'.output = w.output
  size : w.heap.size ≤ w'.heap.size
  block : ∀ k, k < w.heap.size → ¬ F k → w'.heap[k]? = w.heap[k]?

namespace Only
variable {F G : Nat → Prop} {w w' w'' : World}
theorem refl (F : Nat → Prop) (w : World) : Only F w w := ⟨rfl, rfl, rfl, Nat.le_refl _, fun _ _ _ => rfl⟩
theorem trans (h : Only F w w') (k : Only G w' w'') (hs : ∀ b, b < w.heap.size → G b → F b) : Only F w w'' :=
  ⟨k.os.trans h.os, k.tape.trans h.tape, k.output.trans h.output, Nat.le_trans h.size k.size, fun b hb hn =>
    (k.block b (Nat.lt_of_lt_of_le hb h.size) (fun hg => hn (hs b hb hg))).trans (h.block b hb hn)⟩
theorem mono (h : Only F w w') (hs : ∀ b, b < w.heap.size → F b → G b) : Only G w w' := ⟨h.os, h.tape, h.output, h.size, fun b hb hn => h.block b hb (fun hf => hn (hs b hb hf))⟩
theorem of_below (h : Below w.heap.size w w') : Only F w w' := ⟨h.os, h.tape, h.output, h.size, fun b hb _ => h.block b hb⟩
theorem of_grown {r : Nat} (h : w.grownBy w' (some r)) (hr : F r) : Only F w w' := ⟨h.os, h.tape, h.output, h.size, fun b hb hn => h.block b hb (fun e => by cases e; exact hn hr)⟩
theorem drew (h : Only F w w') : Only F w w'.drew := ⟨h.os, h.tape, h.output, h.size, h.block⟩
theorem drewN (h : Only F w w') (n : Nat) : Only F w (w'.drewN n) := ⟨h.os, h.tape, h.output, h.size, h.block⟩
theorem undrew (h : Only F w.drew w') : Only F w w' := ⟨h.os, h.tape, h.output, h.size, h.block⟩
theorem set (h : Only F w w') {a : Addr} (ha : w.heap.size ≤ a.block ∨ F a.block) (v : Value) : Only F w (w'.setCell a v) :=
  ⟨h.os, h.tape, h.output, by rw [nblk_setCell]; exact h.size, fun b hb hn => (blk_setCell_other _ _ _ _ (by rintro rfl; rcases ha with ha | ha; omega; exact hn ha)).trans (h.block b hb hn)⟩
theorem alloc (h : Only F w w') (o : Obj) : Only F w (w'.alloc o) :=
  ⟨h.os, h.tape, h.output, by rw [nblk_alloc]; exact Nat.le_succ_of_le h.size, fun b hb hn => (blk_alloc_lt _ _ _ (Nat.lt_of_lt_of_le hb h.size)).trans (h.block b hb hn)⟩
theorem below (h : Only F w w') {B : Nat} (hB : B ≤ w.heap.size) (hF : ∀ k, F k → B ≤ k) : Below B w w' :=
  ⟨h.os, h.tape, h.output, h.size, fun k hk => h.block k (Nat.lt_of_lt_of_le hk hB) (fun hf => by have := hF k hf; omega)⟩
theorem blk (h : Only F w w') {b : Nat} {t : TypeId} {vs : List Value} (hb : Blk w b t vs) (hn : ¬ F b) : Blk w' b t vs := hb.kept (h.block b hb.lt hn)
end Only

theorem Sl.only {F : Nat → Prop} {w w' : World} {A : Option Addr} {n : Nat} {xs : List Value} (h : Sl w A n xs) (ho : Only F w w') (hd : ∀ ad, A = some ad → 0 < n → ¬ F ad.block) : Sl w' A n xs :=
  ⟨h.1, fun j u hu => by
    have hj : 0 < n := by have := (List.getElem?_eq_some_iff.1 hu).1; have := h.1; omega
    obtain ⟨ad, e, hc⟩ := h.2 j u hu
    refine ⟨ad, e, (World.cell?_of_block (w := w) (ho.block _ (World.block_lt_of_cell? w _ hc) ?_)).trans hc⟩
    rw [addr_block]; exact hd ad e hj⟩
/-- F, and the blocks that were made from one world to another. -/
def More (F : Nat → Prop) (w w' : World) : Nat → Prop := fun k => F k ∨ (w.heap.size ≤ k ∧ k < w'.heap.size)
theorem More.old {F : Nat → Prop} {w w' : World} {k : Nat} (h : F k) : More F w w' k := Or.inl h
theorem More.same {F : Nat → Prop} {w : World} {k : Nat} (h : More F w w k) : F k := by rcases h with h | h; exact h; omega

/-- v is a row of bytes that holds xs, in a block of its own, one of F. -/
def BRow (F : Nat → Prop) (w : World) (v : Value) (xs : List Int) : Prop :=
  ∃ g cap sp, v = .slice (some ⟨g, 0, none⟩) xs.length cap ∧ F g ∧ xs.length ≤ cap ∧ Blk w g 5 (u8s xs ++ sp) ∧ xs.length + sp.length = cap

theorem BRow.kept {F : Nat → Prop} {w w' : World} {v : Value} {xs : List Int} (h : BRow F w v xs) (e : ∀ g, F g → (∃ vs, Blk w g 5 vs) → w'.heap[g]? = w.heap[g]?) : BRow F w' v xs := by
  obtain ⟨g, cap, sp, h1, h2, h3, h4, h5⟩ := h
  exact ⟨g, cap, sp, h1, h2, h3, h4.kept (e g h2 ⟨_, h4⟩), h5⟩
theorem BRow.mono {F G : Nat → Prop} {w : World} {v : Value} {xs : List Int} (h : BRow F w v xs) (hs : ∀ k, k < w.heap.size → F k → G k) : BRow G w v xs := by
  obtain ⟨g, cap, sp, h1, h2, h3, h4, h5⟩ := h
  exact ⟨g, cap, sp, h1, hs g h4.lt h2, h3, h4, h5⟩
theorem BRow.sl {F : Nat → Prop} {w : World} {v : Value} {xs : List Int} (h : BRow F w v xs) : ∃ A c, v = .slice A xs.length c ∧ Sl w A xs.length (u8s xs) ∧ xs.length ≤ c := by
  obtain ⟨g, cap, sp, h1, _, h3, h4, _⟩ := h
  refine ⟨_, _, h1, ⟨by simp, fun j u hu => ⟨_, rfl, ?_⟩⟩, h3⟩
  have hj : j < (u8s xs).length := by
    rcases Nat.lt_or_ge j (u8s xs).length with h | h
    · exact h
    · rw [List.getElem?_eq_none h] at hu; cases hu
  rw [show (⟨g, 0, none⟩ : Addr).add j = ⟨g, j, none⟩ by unfold Addr.add; split <;> simp_all]
  exact h4.cell (by rw [List.getElem?_append_left hj]; exact hu)
theorem BRow.of_own {F : Nat → Prop} {w : World} {base : Nat} {v : Value} {n : Nat} {xs : List Int} (h : w.ownsRow base 5 1 v n (u8s xs)) (hn : 0 < n) (hF : ∀ k, v.ownBlock = some k → F k) : BRow F w v xs := by
  have hl : xs.length = n := by have := h.1; simpa using this
  rcases h.2 with ⟨rfl, rfl⟩ | ⟨g, cap, cur, rfl, _, hg, hc, _, hs, ht⟩
  · omega
  · refine ⟨g, cap, cur.toList.drop n, by rw [hl], hF g rfl, by omega, ?_, ?_⟩
    · unfold Blk
      rw [hg, ← ht, Nat.mul_one, List.take_append_drop]
    · simp; omega

/-- Elements appended to a row of the call's own, at a step of a region that draws its order (for 'go_region_law'); there may be none of them. -/
theorem step_append_own {P : Program} {w : World} {ops : Array Oper} {o : Oper} {a : Act} {K : Act → World → Prop} {Q : Exit → Act → World → Prop} {E : Prop} (hgd : o.guard = none) (s x : Operand) (t : TypeId)
    (ho : o.op = .call { callee := .builtin .append, args := #[s, x], argTypes := #[t, t] })
    (base : Nat) (e : TypeId) (i : TypeInfo) (z : Value) (size bytes : Nat) (ht : P.underlying t = some (.slice e)) (hi : P.info? e = some i) (hz : i.zero = some z)
    (hsize : i.size = size) (hby : i.bytes = bytes) (hzs : z.cells.size = size) (hsz : 0 < size)
    (v : Value) (n : Nat) (xs : List Value) (hs : a.eval s = v) (hown : w.ownsRow base e size v n xs)
    (ad : Addr) (m c : Nat) (news : List Value) (hx : a.eval x = .slice (some ad) m c) (hl : news.length = m * size) (hnews : ∀ j u, news[j]? = some u → w.cell? (ad.add j) = some u) (h1 : ∀ u ∈ news, u.oneCell' = true)
    (h63 : n + m ≤ maxLen) (hbytes : (n + m) * bytes ≤ 140737488355328) (hbase : base ≤ w.heap.size)
    (h : ∀ v' w', w'.ownsRow base e size v' (n + m) (xs ++ news) → w.grownBy w' v.ownBlock → K (a.put o.dst v') w') :
    if Region.wanted o (yielded ops a.tmps) = true then Oper.wp P o a w K Q else E := by
  have hw : Region.wanted o (yielded ops a.tmps) = true := by simp [Region.wanted, hgd]
  rw [if_pos hw]
  exact wp_append_own w s x t ho base e i z size bytes ht hi hz hsize hby hzs hsz v n xs hs hown ad m c news hx hl hnews h1 h63 hbytes hbase (fun v' w' h2 h3 _ => h v' w' h2 h3)
theorem one_u8s (xs : List Int) : ∀ u ∈ u8s xs, u.oneCell' = true := by
  intro u hu
  obtain ⟨x, _, rfl⟩ := List.mem_map.1 hu
  rfl
/-- The cells of a part of a row of bytes. -/
theorem BRow.part {w : World} {g k : Nat} {sp : List Value} {xs : List Int} (h : Blk w g 5 (u8s xs ++ sp)) : ∀ (j : Nat) (u : Value), (u8s (xs.drop k))[j]? = some u → w.cell? ((⟨g, k, none⟩ : Addr).add j) = some u := by
  intro j u hu
  rw [show (⟨g, k, none⟩ : Addr).add j = ⟨g, k + j, none⟩ by unfold Addr.add; split <;> simp_all]
  have hu : ((u8s xs).drop k)[j]? = some u := by simpa [u8s, List.map_drop] using hu
  rw [List.getElem?_drop] at hu
  exact h.cell (by rw [List.getElem?_append_left (List.getElem?_eq_some_iff.1 hu).1]; exact hu)
theorem BRow.first {w : World} {g k : Nat} {sp : List Value} {xs : List Int} (h : Blk w g 5 (u8s xs ++ sp)) : ∀ (j : Nat) (u : Value), (u8s (xs.take k))[j]? = some u → w.cell? ((⟨g, 0, none⟩ : Addr).add j) = some u := by
  intro j u hu
  rw [show (⟨g, 0, none⟩ : Addr).add j = ⟨g, j, none⟩ by unfold Addr.add; split <;> simp_all]
  have hu : ((u8s xs).take k)[j]? = some u := by simpa [u8s, List.map_take] using hu
  rw [List.getElem?_take] at hu
  split at hu
  · exact h.cell (by rw [List.getElem?_append_left (List.getElem?_eq_some_iff.1 hu).1]; exact hu)
  · cases hu
theorem own_ne {w : World} {base : Nat} {e t : TypeId} {size : Nat} {v : Value} {n b : Nat} {xs vs : List Value} (h : w.ownsRow base e size v n xs) (hb : Blk w b t vs) (ht : t ≠ e) : some b ≠ v.ownBlock := by
  rcases h.2 with ⟨rfl, _⟩ | ⟨g, cap, cur, rfl, _, hg, _⟩
  · intro e1; cases e1
  · intro e1
    have e2 : b = g := Option.some.inj e1
    subst e2
    have h2 : Blk w b e cur.toList := by unfold Blk; simpa using hg
    exact hb.ne h2 ht rfl
theorem own_stays {w w' : World} {base : Nat} {e : TypeId} {size : Nat} {v : Value} {n : Nat} {xs : List Value} (h : w.ownsRow base e size v n xs) (hk : ∀ k, v.ownBlock = some k → w'.heap[k]? = w.heap[k]?) : w'.ownsRow base e size v n xs := by
  refine ⟨h.1, ?_⟩
  rcases h.2 with h2 | ⟨g, cap, cur, hv, hg, hh, r⟩
  · exact .inl h2
  · exact .inr ⟨g, cap, cur, hv, hg, (hk g (by rw [hv]; rfl)).trans hh, r⟩
theorem own_typed {w : World} {base : Nat} {e : TypeId} {size : Nat} {v : Value} {n k : Nat} {xs : List Value} (h : w.ownsRow base e size v n xs) (hk : v.ownBlock = some k) : ∃ vs, Blk w k e vs := by
  rcases h.2 with ⟨rfl, _⟩ | ⟨g, cap, cur, rfl, _, hg, _⟩
  · cases hk
  · cases hk
    exact ⟨cur.toList, by unfold Blk; simpa using hg⟩
/-- A stronger condition serves as well: so the condition may be changed on the way through a region. -/
theorem wpAnyH_weaken {P : Program} {ops : Array Oper} {Q : Exit → Act → World → Prop} {md : Region.Mode} {S T : World → Prop} (h : ∀ w, T w → S w) : ∀ (fuel : Nat) (listed : Array Bool) (a : Act) (w : World), wpAnyH P md ops Q T fuel listed a w → wpAnyH P md ops Q S fuel listed a w
  | 0, _, _, _, hh => hh
  | fuel + 1, _, _, _, hh => ⟨hh.1, fun i hi => wpOp_mono (fun a' w' h' => ⟨h w' h'.1, wpAnyH_weaken h fuel _ a' w' h'.2⟩) (hh.2 i hi)⟩
end Go.Proofs.YteliebinhdphlaaDoor

/- Arrays by value; cells stored side by side. -/
namespace Go.Proofs.YteliebinhdphlaaDoor
set_option maxRecDepth 100000
open Go.RowKit Go.Deep
set_option linter.unusedSimpArgs false
set_option linter.unusedVariables false

theorem setCells_other (b : Nat) : ∀ (cs : List Value) (o : Nat) (w : World) (k : Nat), k ≠ b → (w.setCells b o cs).heap[k]? = w.heap[k]?
  | [], _, _, _, _ => rfl
  | v :: r, o, w, k, h => by
    rw [World.setCells, setCells_other b r (o + 1) _ k h]
    exact blk_setCell_other _ _ _ _ h
theorem setCells_size (b : Nat) : ∀ (cs : List Value) (o : Nat) (w : World), (w.setCells b o cs).heap.size = w.heap.size
  | [], _, _ => rfl
  | v :: r, o, w => by rw [World.setCells, setCells_size b r (o + 1)]; exact nblk_setCell _ _ _
theorem set_parts (vs r : List Value) (o : Nat) (v : Value) (ho : o < vs.length) : (vs.set o v).take (o + 1) ++ r ++ (vs.set o v).drop (o + 1 + r.length) = vs.take o ++ (v :: r) ++ vs.drop (o + (v :: r).length) := by
  have e1 : (vs.set o v).take (o + 1) = vs.take o ++ [v] := by
    apply List.ext_getElem?
    intro i
    by_cases hi : i < o
    · rw [List.getElem?_append_left (by rw [List.length_take]; omega), List.getElem?_take, List.getElem?_take, if_pos (by omega), if_pos hi, List.getElem?_set_ne (by omega)]
    · by_cases hi2 : i = o
      · subst hi2
        rw [List.getElem?_append_right (by rw [List.length_take]; omega), List.getElem?_take, if_pos (by omega), List.getElem?_set_self ho, List.length_take, Nat.min_eq_left (by omega), Nat.sub_self]; rfl
      · rw [List.getElem?_eq_none (by rw [List.length_take, List.length_set]; omega), List.getElem?_eq_none (by rw [List.length_append, List.length_take]; simp; omega)]
  have e2 : (vs.set o v).drop (o + 1 + r.length) = vs.drop (o + (v :: r).length) := by
    apply List.ext_getElem?
    intro i
    rw [List.getElem?_drop, List.getElem?_drop, List.getElem?_set_ne (by omega)]
    congr 1
    simp; omega
  rw [e1, e2]; simp
theorem setCells_blk {b : Nat} {t : TypeId} : ∀ (cs : List Value) (o : Nat) (w : World) (vs : List Value), Blk w b t vs → o + cs.length ≤ vs.length → Blk (w.setCells b o cs) b t (vs.take o ++ cs ++ vs.drop (o + cs.length))
  | [], o, w, vs, h, _ => by
    rw [World.setCells]; simpa using h
  | v :: r, o, w, vs, h, hl => by
    rw [World.setCells]
    have hl2 : o + (r.length + 1) ≤ vs.length := hl
    have h1 := setCells_blk r (o + 1) _ (vs.set o v) (h.set o v) (by rw [List.length_set]; omega)
    rw [set_parts vs r o v (by omega)] at h1
    exact h1
theorem setCells_whole {b : Nat} {t : TypeId} {cs vs : List Value} {w : World} (h : Blk w b t vs) (hl : cs.length = vs.length) : Blk (w.setCells b 0 cs) b t cs := by
  have := setCells_blk cs 0 w vs h (by omega)
  rw [List.drop_of_length_le (by omega)] at this
  simpa using this
theorem setCells_misc (b : Nat) : ∀ (cs : List Value) (o : Nat) (w : World), (w.setCells b o cs).os = w.os ∧ (w.setCells b o cs).tape = w.tape ∧ (w.setCells b o cs).output = w.output
  | [], _, _ => ⟨rfl, rfl, rfl⟩
  | v :: r, o, w => by rw [World.setCells]; exact setCells_misc b r (o + 1) _
theorem below_setCells {B b : Nat} {w w' : World} (h : Below B w w') (hb : B ≤ b) (cs : List Value) (o : Nat) : Below B w (w'.setCells b o cs) :=
  ⟨(setCells_misc b cs o w').1.trans h.os, (setCells_misc b cs o w').2.1.trans h.tape, (setCells_misc b cs o w').2.2.trans h.output, by rw [setCells_size]; exact h.size, fun k hk => (setCells_other b cs o w' k (by omega)).trans (h.block k hk)⟩

theorem Blk.range {w : World} {b : Nat} {t : TypeId} {vs : List Value} (h : Blk w b t vs) : w.rangeAt b 0 vs := fun j v hv => by
  rw [Nat.zero_add]; exact h.cell hv
theorem Blk.there {w : World} {b n : Nat} {t : TypeId} {vs : List Value} (h : Blk w b t vs) (hn : n ≤ vs.length) : w.there b 0 n := fun j hj => by
  rw [Nat.zero_add]
  exact ⟨by rw [h.cell (List.getElem?_eq_getElem (show j < vs.length by omega))]; rfl, h.frozen j⟩
theorem results_arr_int {P : Program} {fn : Func} {p u : Tmp} {ty : TypeId} (h : fn.results = #[.cell p ty, .tmp u]) (tmps : Array Value) (w : World) (g : Nat) (t : TypeId) (cs : Array Value) (fr : Nat × Nat) (d : TypeDesc)
    (hp : tmps.getD p undef = .pointer (some ⟨g, 0, none⟩)) (hg : w.heap[g]? = some (.cells cs t fr))
    (hu : P.underlying ty = some d) (hd : (match d with | .struct _ | .array _ _ => true | _ => false) = true) (hi : (P.info? ty).map (·.size) = some cs.size) (z : Value) (hz : tmps.getD u undef = z) :
    (results fn tmps).run P w = .ok (.tuple #[.agg cs, z]) w := by
  rw [results_cell_tmp h, hp, hz]
  simp [asAddr, run_loadVar_row w g t ty cs fr d hg hu hd hi, Result.andThen]
theorem step_copy {P : Program} {ops : Array Oper} {o : Oper} {a : Act} {w : World} {K : Act → World → Prop} {Q : Exit → Act → World → Prop} {E : Prop} (hgd : o.guard = none) (d s : Operand) (t t' : TypeId)
    (ho : o.op = .call { callee := .builtin .copy, args := #[d, s], argTypes := #[t, t'] }) (v u : Value) (hd : a.eval d = v) (hs : a.eval s = u) {v' : Value} {w' : World}
    (hr : (Builtin.copy_ #[t, t'] o.type #[v, u]).run P w = .ok v' w') (h : K (a.put o.dst v') w') : if Region.wanted o (yielded ops a.tmps) = true then Oper.wp P o a w K Q else E := by
  rw [if_pos (by simp [Region.wanted, hgd])]
  unfold Oper.wp execOp
  simp only [ho, resolve, invoke, builtin, Sem.run_bind, Sem.run_pure, Result.andThen_ok, List.map_toArray, List.map_cons, List.map_nil, hd, hs, hr]
  exact h
theorem wpList_copy {P : Program} {w : World} {ops : Array Oper} {rest : List Oper} {o : Oper} {a : Act} {Q : Exit → Act → World → Prop} (hgd : o.guard = none) (d s : Operand) (t t' : TypeId)
    (ho : o.op = .call { callee := .builtin .copy, args := #[d, s], argTypes := #[t, t'] }) (v u : Value) (hd : a.eval d = v) (hs : a.eval s = u) {v' : Value} {w' : World}
    (hr : (Builtin.copy_ #[t, t'] o.type #[v, u]).run P w = .ok v' w') (h : wpList P ops Q rest (a.put o.dst v') w') : wpList P ops Q (o :: rest) a w := by
  refine wpList_plain hgd fun K hK => ?_
  unfold Oper.wp execOp
  simp only [ho, resolve, invoke, builtin, Sem.run_bind, Sem.run_pure, Result.andThen_ok, List.map_toArray, List.map_cons, List.map_nil, hd, hs, hr]
  exact hK _ _ h

/-- A load of a long row at a list of operations, under a guard that holds ('wpList_load_mid' wants none). -/
theorem wpList_load_want {P : Program} {ops : Array Oper} {rest : List Oper} {op : Oper} {a : Act} {w : World} {Q : Exit → Act → World → Prop} (hw : Region.wanted op (yielded ops a.tmps) = true) (ty : TypeId) (x : Operand) (ho : op.op = .load ty x)
    (b o : Nat) (hx : a.eval x = .pointer (some ⟨b, o, none⟩)) (cs : List Value) (d : TypeDesc) (hc : w.rangeAt b o cs)
    (hu : P.underlying ty = some d) (hd : d.isRow = true) (hi : (P.info? ty).map (·.size) = some cs.length)
    (h : wpList P ops Q rest (a.put op.dst (.agg cs.toArray)) w) : wpList P ops Q (op :: rest) a w :=
  Go.BigFrame.wpList_want hw fun _ hK => wp_load_mid ty x ho b o hx cs d hc hu hd hi (hK _ _ h)
/-- An array's cells are those of a slice of it. -/
theorem Blk.sl8 {w : World} {b : Nat} {t : TypeId} {xs : List Int} (h : Blk w b t (u8s xs)) : Sl w (some ⟨b, 0, none⟩) xs.length (u8s xs) :=
  ⟨by simp, fun j u hu => ⟨_, rfl, by rw [show (⟨b, 0, none⟩ : Addr).add j = ⟨b, j, none⟩ by unfold Addr.add; split <;> simp_all]; exact h.cell hu⟩⟩
theorem run_eq_bytes {P : Program} {e : TypeId} (he : P.plainKey e = true) (hu : P.underlying e = some (.int .u8)) (d : Nat) (xs ys : List Int) (w : World) : ∀ is : List Nat, (∀ i ∈ is, i < xs.length ∧ i < ys.length) →
    (Op.eqItems (d + 1) e 1 (u8s xs).toArray (u8s ys).toArray is).run P w = .ok (is.all fun i => xs[i]? == ys[i]?) w
  | [], _ => by simp [Op.eqItems]
  | i :: is, h => by
    obtain ⟨h1, h2⟩ := h i (by simp)
    have ih := run_eq_bytes he hu d xs ys w is (fun j hj => h j (by simp [hj]))
    have p1 := run_part_plain (P := P) (w := w) he (xs := (u8s xs).toArray) (off := i * 1) (v := .int .u8 xs[i]) (by simp [h1])
    have p2 := run_part_plain (P := P) (w := w) he (xs := (u8s ys).toArray) (off := i * 1) (v := .int .u8 ys[i]) (by simp [h2])
    have p3 : (Op.equalIn (d + 1) e (.int .u8 xs[i]) (.int .u8 ys[i])).run P w = .ok (xs[i] == ys[i]) w := by
      simp [Op.equalIn, run_underlying hu]
    simp only [Op.eqItems, Sem.run_bind, p1, p2, p3, Result.andThen_ok]
    by_cases he2 : xs[i] = ys[i]
    · simp [he2, h1, h2, ih]
    · simp [he2, h1, h2]
theorem arr_eq {P : Program} {t e : TypeId} {n : Nat} {i : TypeInfo} (hu : P.underlying t = some (.array n e)) (hi : P.info? e = some i) (hc : P.cellsOf e = 1) (he : P.plainKey e = true) (hue : P.underlying e = some (.int .u8)) (d : Nat) (xs ys : List Int) (hx : xs.length = n) (hy : ys.length = n) (w : World) :
    (Op.equalIn (d + 2) t (.agg (u8s xs).toArray) (.agg (u8s ys).toArray)).run P w = .ok (decide (xs = ys)) w := by
  rw [run_equalIn_array (w := w) (d + 1) _ _ hu hi, hc, run_eq_bytes he hue d xs ys w _ (fun i hi => by have := List.mem_range.1 hi; omega)]
  congr 1
  by_cases e : xs = ys
  · subst e; simp
  · rw [decide_eq_false e, Bool.eq_false_iff]
    intro h
    apply e
    apply List.ext_getElem?
    intro j
    by_cases hj : j < n
    · have := List.all_eq_true.1 h j (List.mem_range.2 hj)
      simpa using this
    · rw [List.getElem?_eq_none (by omega), List.getElem?_eq_none (by omega)]
end Go.Proofs.YteliebinhdphlaaDoor

/- Arrays of 128 bytes, by value. -/
namespace Go.Proofs.YteliebinhdphlaaDoor
set_option maxRecDepth 100000
open Go.RowKit Go.Deep
set_option linter.unusedSimpArgs false
set_option linter.unusedVariables false

theorem zero_arr : Tryd.zeroCells72 = (u8s zeros128).toArray := by kernel_rfl
theorem zero_size : Tryd.zeroCells72.size = 128 := Tryd.zeroCells72_size
theorem zero_ne : ¬ Tryd.zeroCells72 = #[] := Tryd.zeroCells72_ne
attribute [local irreducible] Tryd.zeroCells72
theorem size_arr : (Tryd.prog.info? 72).map (·.size) = some 128 := by kernel_rfl

theorem arr128_eq (xs ys : List Int) (hx : xs.length = 128) (hy : ys.length = 128) (w : World) :
    (Op.equalIn 10000 72 (.agg (u8s xs).toArray) (.agg (u8s ys).toArray)).run Tryd.prog w = .ok (decide (xs = ys)) w := by
  obtain ⟨i, hi, _⟩ := info_parts info_u8
  exact arr_eq Tryd.underlying72 hi (by kernel_rfl) (by kernel_rfl) Tryd.underlying5 9998 xs ys hx hy w
theorem zero_new (w : World) : Blk (w.alloc (.cells Tryd.zeroCells72 72)) w.heap.size 72 (u8s zeros128) := by
  rw [zero_arr]; exact Blk.new w 72 (u8s zeros128)
end Go.Proofs.YteliebinhdphlaaDoor

/- Sealed sectors as lists of bytes: no function of the program is named here. -/
namespace Go.Proofs.YteliebinhdphlaaDoor
set_option maxRecDepth 100000
open Go.RowKit
set_option linter.unusedSimpArgs false
set_option linter.unusedVariables false

def headOf (kind n : Int) (load : List Int) : List Int := kind :: (bytesOf n ++ ((load.length : Int) :: (load ++ List.replicate (113 - load.length) 0)))
def four (s : Nat) : List Int := [((s % 256 : Nat) : Int), ((s / 256 % 256 : Nat) : Int), ((s / 65536 % 256 : Nat) : Int), ((s / 16777216 % 256 : Nat) : Int)]
def sealOf (h : List Int) : List Int := h ++ (four (sumOf h) ++ [215])
def sealed (kind n : Int) (load : List Int) : List Int := sealOf (headOf kind n load)

theorem bytesOf_len (n : Int) : (bytesOf n).length = 8 := by simp [bytesOf]
theorem bytesOf_bytes (n : Int) : Bytes (bytesOf n) := by
  intro u hu
  obtain ⟨i, _, rfl⟩ := List.mem_map.1 hu
  unfold byteAt
  omega
theorem four_len (s : Nat) : (four s).length = 4 := rfl
theorem four_bytes (s : Nat) : Bytes (four s) := by
  intro u hu
  simp only [four, List.mem_cons, List.not_mem_nil, or_false] at hu
  omega
theorem four_inj' {s t : Nat} (hs : s < 4294967296) (ht : t < 4294967296) (h : four s = four t) : s = t := by
  simp only [four, List.cons.injEq, and_true] at h
  omega
theorem head_len (kind n : Int) {load : List Int} (hl : load.length ≤ 113) : (headOf kind n load).length = 123 := by
  simp only [headOf, List.length_cons, List.length_append, bytesOf_len, List.length_replicate]
  omega
theorem head_bytes {kind n : Int} {load : List Int} (hk : 1 ≤ kind ∧ kind ≤ 255) (hl : load.length ≤ 113) (hb : Bytes load) : Bytes (headOf kind n load) := by
  intro u hu
  simp only [headOf, List.mem_cons, List.mem_append] at hu
  rcases hu with rfl | hu | rfl | hu | hu
  · omega
  · exact bytesOf_bytes n u hu
  · omega
  · exact hb u hu
  · have := List.eq_of_mem_replicate hu; omega
theorem sealOf_len {h : List Int} (hl : h.length = 123) : (sealOf h).length = 128 := by simp [sealOf, hl, four_len]
theorem sealed_len (kind n : Int) {load : List Int} (hl : load.length ≤ 113) : (sealed kind n load).length = 128 := sealOf_len (head_len kind n hl)
theorem sealed_bytes {kind n : Int} {load : List Int} (hk : 1 ≤ kind ∧ kind ≤ 255) (hl : load.length ≤ 113) (hb : Bytes load) : Bytes (sealed kind n load) := by
  intro u hu
  rcases List.mem_append.1 hu with hu | hu
  · exact head_bytes hk hl hb u hu
  · rcases List.mem_append.1 hu with hu | hu
    · exact four_bytes _ u hu
    · simp at hu; omega
theorem sealOf_head {h : List Int} (hl : h.length = 123) : (sealOf h).take 123 = h := by rw [sealOf, List.take_left' hl]
theorem sealOf_four {h : List Int} (hl : h.length = 123) : ((sealOf h).drop 123).take 4 = four (sumOf h) := by rw [sealOf, List.drop_left' hl, List.take_left' (four_len _)]
theorem sealed_0 (kind n : Int) (load : List Int) : (sealed kind n load)[0]? = some kind := rfl
theorem sealed_127 (kind n : Int) {load : List Int} (hl : load.length ≤ 113) : (sealed kind n load)[127]? = some 215 := by
  unfold sealed sealOf
  rw [List.getElem?_append_right (by rw [head_len kind n hl]; omega), head_len kind n hl]; rfl
theorem sealed_9 (kind n : Int) (load : List Int) : (sealed kind n load)[9]? = some (load.length : Int) := by
  unfold sealed sealOf headOf
  rw [List.cons_append, List.getElem?_cons_succ, List.append_assoc, List.getElem?_append_right (by rw [bytesOf_len]; omega), bytesOf_len]; rfl
theorem sealed_num (kind n : Int) (load : List Int) : ((sealed kind n load).drop 1).take 8 = bytesOf n := by
  unfold sealed sealOf headOf
  rw [List.cons_append, List.drop_succ_cons, List.drop_zero, List.append_assoc, List.take_left' (bytesOf_len n)]
theorem sealed_load (kind n : Int) (load : List Int) : ((sealed kind n load).drop 10).take load.length = load := by
  unfold sealed sealOf headOf
  rw [List.cons_append, List.drop_succ_cons, List.append_assoc, List.drop_append, List.drop_of_length_le (by rw [bytesOf_len]; omega), bytesOf_len, List.nil_append, List.cons_append, show 9 - 8 = 0 + 1 from rfl, List.drop_succ_cons, List.drop_zero, List.append_assoc, List.take_left' rfl]

/-- bs is the sealed sector of that kind, number and load. -/
def SealedBy (bs : List Int) (kind n : Int) (l : List Int) : Prop := bs = sealed kind n l ∧ 1 ≤ kind ∧ kind ≤ 255 ∧ 0 ≤ n ∧ n ≤ 9223372036854775807 ∧ l.length ≤ 113 ∧ Bytes l
theorem SealedBy.one {bs : List Int} {k n n' : Int} {l l' : List Int} (h : SealedBy bs k n l) (h' : SealedBy bs k n' l') : n = n' ∧ l = l' := by
  obtain ⟨e, _, _, h3, h4, h5, _⟩ := h
  obtain ⟨e', _, _, h3', h4', h5', _⟩ := h'
  have h9 := sealed_9 k n l
  rw [← e, e', sealed_9] at h9
  have hl : l'.length = l.length := by have := Option.some.inj h9; omega
  have hn := sealed_num k n l
  rw [← e, e', sealed_num] at hn
  have hL := sealed_load k n l
  rw [← e, e', ← hl, sealed_load] at hL
  refine ⟨?_, hL.symm⟩
  rw [← get_put8 n (by omega) h4, ← hn, get_put8 n' (by omega) h4']
/-- What Open says of bs and a kind. -/
def OpenSays (bs : List Int) (kind n : Int) (l : List Int) (er : Int) : Prop := (er = 0 ∧ SealedBy bs kind n l) ∨ (er = 53 ∧ n = 0 ∧ l = [] ∧ ∀ n' l', ¬ SealedBy bs kind n' l')
theorem OpenSays.one {bs : List Int} {k n n' er er' : Int} {l l' : List Int} (h : OpenSays bs k n l er) (h' : OpenSays bs k n' l' er') : n = n' ∧ l = l' ∧ er = er' := by
  rcases h with ⟨rfl, h⟩ | ⟨rfl, rfl, rfl, h⟩
  · rcases h' with ⟨rfl, h'⟩ | ⟨rfl, rfl, rfl, h'⟩
    · exact ⟨(h.one h').1, (h.one h').2, rfl⟩
    · exact absurd h (h' _ _)
  · rcases h' with ⟨rfl, h'⟩ | ⟨rfl, rfl, rfl, h'⟩
    · exact absurd h' (h _ _)
    · exact ⟨rfl, rfl, rfl⟩
theorem OpenSays.bounds {bs : List Int} {k n er : Int} {l : List Int} (h : OpenSays bs k n l er) : (0 ≤ n ∧ n ≤ 9223372036854775807) ∧ l.length ≤ 113 ∧ Bytes l ∧ (er = 0 ∨ er = 53) := by
  rcases h with ⟨rfl, _, _, _, h3, h4, h5, h6⟩ | ⟨rfl, rfl, rfl, _⟩
  · exact ⟨⟨h3, h4⟩, h5, h6, Or.inl rfl⟩
  · exact ⟨by omega, by simp, fun u hu => by simp at hu, Or.inr rfl⟩
/-- Without the mark there is nothing. -/
theorem OpenSays.torn {bs : List Int} {k n er : Int} {l : List Int} (h : OpenSays bs k n l er) (hm : bs[127]? ≠ some 215) : er = 53 := by
  rcases h with ⟨rfl, e, _, _, _, _, h5, _⟩ | ⟨rfl, _⟩
  · exact absurd (by rw [e]; exact sealed_127 k n h5) hm
  · rfl
/-- Turned within four bytes of the first 123: nothing, or as it was. -/
theorem sealed_turned {k0 n : Int} {load bs : List Int} {k : Nat} (hk0 : 1 ≤ k0 ∧ k0 ≤ 255) (hl : load.length ≤ 113) (hb : Bytes load) (hk : k + 4 ≤ 123)
    (hbs : ∀ i, ¬ (k ≤ i ∧ i < k + 4) → bs[i]? = (sealed k0 n load)[i]?) {kind n' : Int} {l' : List Int} (h : SealedBy bs kind n' l') : bs = sealed k0 n load := by
  obtain ⟨e, h1, h2, h3, h4, h5, h6⟩ := h
  have hh : (headOf k0 n load).length = 123 := head_len k0 n hl
  have hh' : (headOf kind n' l').length = 123 := head_len kind n' h5
  have hf : four (sumOf (headOf kind n' l')) = four (sumOf (headOf k0 n load)) := by
    rw [← sealOf_four hh, ← sealOf_four hh']
    apply List.ext_getElem?
    intro i
    rw [List.getElem?_take, List.getElem?_take]
    split
    · rw [List.getElem?_drop, List.getElem?_drop]
      have := hbs (123 + i) (by omega)
      rw [e] at this
      exact this
    · rfl
  have hb1 := head_bytes (n := n) hk0 hl hb
  have hb2 := head_bytes (n := n') ⟨h1, h2⟩ h5 h6
  have hs := four_inj' (sum_lt hb2) (sum_lt hb1) hf
  have hx : headOf k0 n load = headOf kind n' l' := by
    refine sum_tells (k := k) (by rw [hh, hh']) (by rw [hh]; exact hk) hb1 hb2 ?_ hs.symm
    intro i hi
    rw [← sealOf_head hh, ← sealOf_head hh', List.getElem?_take, List.getElem?_take]
    split
    · have := hbs i hi
      rw [e] at this
      exact this
    · rfl
  rw [e, sealed, sealed, hx]

/-- What Make answers. -/
def makeErr (kind n : Int) (m : Nat) : Int := if kind < 1 ∨ 255 < kind ∨ n < 0 then 2 else if 113 < m then 3 else 0
def makeOf (kind n : Int) (load : List Int) : List Int := if makeErr kind n load.length = 0 then sealed kind n load else zeros128
theorem makeErr_zero {kind n : Int} {m : Nat} : makeErr kind n m = 0 ↔ 1 ≤ kind ∧ kind ≤ 255 ∧ 0 ≤ n ∧ m ≤ 113 := by
  unfold makeErr
  split
  · omega
  · split <;> omega
theorem makeErr_cases (kind n : Int) (m : Nat) : makeErr kind n m = 0 ∨ makeErr kind n m = 2 ∨ makeErr kind n m = 3 := by
  unfold makeErr
  split
  · omega
  · split <;> omega
theorem makeOf_len (kind n : Int) (load : List Int) : (makeOf kind n load).length = 128 := by
  unfold makeOf
  split
  · next h => exact sealed_len _ _ (makeErr_zero.1 h).2.2.2
  · exact zeros_len
theorem makeOf_bytes {kind n : Int} {load : List Int} (hb : Bytes load) : Bytes (makeOf kind n load) := by
  unfold makeOf
  split
  · next h => have h2 := makeErr_zero.1 h; exact sealed_bytes ⟨h2.1, h2.2.1⟩ h2.2.2.2 hb
  · intro u hu; have := List.eq_of_mem_replicate hu; omega
theorem makeOf_blank (kind n : Int) (load : List Int) : decide (makeOf kind n load = zeros128) = decide (makeErr kind n load.length ≠ 0) := by
  by_cases h : makeErr kind n load.length = 0
  · rw [makeOf, if_pos h]
    have : ¬ sealed kind n load = zeros128 := by
      intro e
      have h2 := sealed_127 kind n (makeErr_zero.1 h).2.2.2
      rw [e] at h2
      simp [zeros128] at h2
    rw [decide_eq_false this]; simp [h]
  · rw [makeOf, if_neg h]
    simp [h]
theorem makeOf_sealed {kind n : Int} {load : List Int} (hn : n ≤ 9223372036854775807) (hb : Bytes load) (h : makeErr kind n load.length = 0) : SealedBy (makeOf kind n load) kind n load := by
  have h2 := makeErr_zero.1 h
  rw [makeOf, if_pos h]
  exact ⟨rfl, h2.1, h2.2.1, h2.2.2.1, hn, h2.2.2.2, hb⟩
end Go.Proofs.YteliebinhdphlaaDoor

/- The document's sealed sectors: Bytes and Make. -/
namespace Go.Proofs.YteliebinhdphlaaDoor
set_option maxRecDepth 100000
open Go.RowKit Go.Deep
set_option linter.unusedSimpArgs false
set_option linter.unusedVariables false

theorem own_cat {w : World} {base n k : Nat} {e : TypeId} {v : Value} {xs ys : List Int} (h : w.ownsRow base e 1 v n (u8s xs ++ u8s ys)) (hk : n = k) : w.ownsRow base e 1 v k (u8s (xs ++ ys)) := by
  subst hk
  unfold u8s
  rw [List.map_append]
  exact h
theorem four_take (s j : Nat) (hj : j < 4) : (four s).take (j + 1) = (four s).take j ++ [((s / 256 ^ j % 256 : Nat) : Int)] := by
  match j, hj with
  | 0, _ => simp [four]
  | 1, _ => simp [four]
  | 2, _ => simp [four]
  | 3, _ => simp [four]

set_option maxRecDepth 100000 in
set_option maxHeartbeats 3200000 in
theorem rbytes_any (kind n : Int) (hk : 1 ≤ kind ∧ kind ≤ 255) (hn : 0 ≤ n ∧ n ≤ 9223372036854775807) (A : Option Addr) (m c : Nat) (load : List Int) (w : World) (hx : Sl w A m (u8s load)) (hb : Bytes load) (hm : m ≤ 113) :
    Calls Tryd.prog 86 #[.int .i64 kind, .int .i64 n, .slice A m c] w fun e w' => ∃ B cc, e = .returned (.slice B 128 cc) ∧ Sl w' B 128 (u8s (sealed kind n load)) ∧ Below w.heap.size w w' := by
  have hlen : load.length = m := by simpa using hx.1
  obtain ⟨i0, hi0, hz0, hz1, hz2⟩ := info_parts info_u8
  have hk8 : kind % 256 = kind := by omega
  have hm8 : (m : Int) % 256 = (m : Int) := by omega
  have Hlen := Lib.hid hlen
  have Hk := Lib.hid hk
  have Hb := Lib.hid hb
  clear hlen hk hb
  have hh := head_len kind n (load := load) (by rw [Hlen.out]; exact hm)
  have Hhb := Lib.hid (head_bytes (n := n) Hk.out (by rw [Hlen.out]; exact hm) Hb.out)
  obtain ⟨hd, hhd⟩ : ∃ hd, hd = headOf kind n load := ⟨_, rfl⟩
  rw [← hhd] at hh Hhb
  have Hhd := Lib.hid hhd
  have Hhh := Lib.hid hh
  clear hhd hh
  have hs1 : (w.alloc (.cells #[.int .u8 kind] 5)).ownsRow w.heap.size 5 1 (.slice (some ⟨w.heap.size, 0, none⟩) 1 1) 1 (u8s [kind]) := own_new w 5 (u8s [kind]) 1 rfl (by omega)
  have hb1 := below_alloc w (.cells #[.int .u8 kind] 5)
  obtain ⟨w1, hw1⟩ : ∃ w1, w1 = w.alloc (.cells #[.int .u8 kind] 5) := ⟨_, rfl⟩
  rw [← hw1] at hs1 hb1
  have hsz1 := hb1.size
  have Hw1 := Lib.hid hw1
  clear hw1
  go_enter Tryd.func86, Tryd.ntmps86
  go_wp2_with fail
  rw [← Hw1.out]
  refine (rput_any n w1 (by omega) hn.2).mono ?_
  rintro e w2 ⟨v2, rfl, hown2, hb2⟩
  obtain ⟨A2, c2, rfl, hsl2⟩ := own_form hown2
  clear hown2
  have hs2 := own_below hs1 hb2
  have hbt2 : Below w.heap.size w w2 := hb1.trans (hb2.mono hsz1)
  have hsz2 := hbt2.size
  go_wp2_with (first
    | (at_builtin; refine wpList_cat (.tmp 13) (.tmp 15) 22 5 i0 _ 1 rfl rfl Tryd.underlying22 hi0 hz0 hz1 hz2 rfl w.heap.size _ _ _ hs2 _ _ _ _ hsl2 rfl rfl ints_one (by omega) (by omega) hsz2 ?_; intro v3 w3 hown3 hg3 hb3 hz3; replace hown3 : w3.ownsRow w.heap.size 5 1 v3 9 (u8s ([kind] ++ bytesOf n)) := own_cat hown3 rfl; obtain ⟨A3, c3, rfl, _⟩ := own_form hown3; have hbt3 := hbt2.trans hb3; have hsz3 := hbt3.size)
    | (at_builtin; refine wpList_push (.tmp 17) (.tmp 21) 22 5 i0 _ (.int .u8 (m : Int)) 1 rfl rfl Tryd.underlying22 hi0 hz0 hz1 hz2 rfl w.heap.size _ _ _ hown3 rfl rfl rfl (by omega) (by omega) hsz3 ?_; intro v4 w4 hown4 hg4 hb4 hz4; replace hown4 : w4.ownsRow w.heap.size 5 1 v4 10 (u8s ([kind] ++ bytesOf n ++ [(m : Int)])) := own_cat (ys := [(m : Int)]) hown4 rfl; obtain ⟨A4, c4, rfl, _⟩ := own_form hown4; have hbt4 := hbt3.trans hb4; have hsz4 := hbt4.size; have hx4 := hx.below hbt4)
    | (at_builtin; refine wpList_cat (.tmp 23) (.tmp 24) 22 5 i0 _ 1 rfl rfl Tryd.underlying22 hi0 hz0 hz1 hz2 rfl w.heap.size _ _ _ hown4 _ _ _ _ hx4 rfl rfl ints_one (by omega) (by omega) hsz4 ?_; intro v5 w5 hown5 hg5 hb5 hz5; replace hown5 : w5.ownsRow w.heap.size 5 1 v5 (10 + m) (u8s ([kind] ++ bytesOf n ++ [(m : Int)] ++ load)) := own_cat hown5 rfl; obtain ⟨A5, c5, rfl, _⟩ := own_form hown5; have hbt5 := hbt4.trans hb5; have hsz5 := hbt5.size))
  obtain ⟨pre, hpre⟩ : ∃ pre, pre = [kind] ++ bytesOf n ++ [(m : Int)] ++ load := ⟨_, rfl⟩
  rw [← hpre] at hown5
  have Hpre := Lib.hid hpre
  have Hown5 := Lib.hid hown5
  clear hpre hown5 hown4 hown3 hs2 hs1 hsl2 hx4 hx hb1 hb2 hb3 hb4 hb5 hg3 hg4 hg5 hbt2 hbt3 hbt4
  go_loopw [7] (fun v wr => ∃ (k : Nat), k ≤ 113 - m ∧ wr.ownsRow w.heap.size 5 1 v (10 + m + k) (u8s (pre ++ List.replicate k 0)) ∧ Below w.heap.size w wr) (fun v _ => 123 - (match v with | .slice _ l _ => l | _ => 0))
  case atStart => exact ⟨0, Nat.zero_le _, by simpa using Hown5.out, hbt5⟩
  case round =>
    clear Hown5 hbt5
    obtain ⟨k, hk, hown, hbl⟩ := hrel
    obtain ⟨B, cc, rfl, _⟩ := own_form hown
    have hsz := hbl.size
    by_cases hlt : k < 113 - m
    · have hlI : decide (((10 + m + k : Nat) : Int) < 123) = true := decide_eq_true (by omega)
      go_wp2_with (at_builtin; refine wpList_push (.tmp 29) (.tmp 30) 22 5 i0 _ (.int .u8 0) 1 rfl rfl Tryd.underlying22 hi0 hz0 hz1 hz2 rfl w.heap.size _ _ _ hown rfl rfl rfl (by omega) (by omega) hsz ?_; intro v6 w6 hown6 hg6 hb6 hz6; obtain ⟨A6, c6, rfl, _⟩ := own_form hown6)
      go_roundw
      case rel => exact ⟨k + 1, by omega, by rw [List.replicate_succ', ← List.append_assoc]; simpa [Nat.add_assoc] using hown6, hbl.trans hb6⟩
      case measure => simp <;> omega
    · obtain hk0 : k = 113 - m := by omega
      have hpad : pre ++ List.replicate k 0 = hd := by
        rw [hk0, Hpre.out, Hhd.out, headOf, Hlen.out]; simp
      rw [hpad] at hown
      obtain ⟨k9, hk9⟩ : ∃ k9, k9 = 10 + m + k := ⟨_, rfl⟩
      have hk9' : k9 = 123 := by omega
      rw [← hk9] at hown ⊢
      subst hk9'
      clear hk9 hlt hk0 hpad hk
      obtain ⟨s, hs⟩ : ∃ s, s = sumOf hd := ⟨_, rfl⟩
      have hs32 : s < 4294967296 := by rw [hs]; exact sum_lt Hhb.out
      have Hs := Lib.hid hs
      clear hs
      obtain ⟨A6, c6, e6, hs6⟩ := own_form hown
      simp only [Value.slice.injEq] at e6
      obtain ⟨rfl, _, rfl⟩ := e6
      obtain ⟨wo, hwo⟩ : ∃ wo : World, wo = wr := ⟨_, rfl⟩
      rw [← hwo] at hown hbl hsz hs6 ⊢
      clear hwo
      go_wp2_with fail
      refine (rsum_is s B 123 cc hd wo hs6 Hhb.out (by omega) Hs.out).mono ?_
      rintro e w7 ⟨rfl, hb7⟩
      have hown7 := own_below hown hb7
      have hbt7 : Below w.heap.size w w7 := hbl.trans (hb7.mono hsz)
      clear hown hbl hs6 hb7
      go_wp2_with fail
      go_loopw [7, 8, 9] (fun v sv iv wr => ∃ (j q : Nat), j ≤ 4 ∧ iv = .int .i64 j ∧ sv = .int .i64 q ∧ q = s / 256 ^ j ∧ wr.ownsRow w.heap.size 5 1 v (123 + j) (u8s (hd ++ (four s).take j)) ∧ Below w.heap.size w wr) (fun _ _ iv _ => 4 - (intOf iv).toNat)
      case atStart => exact ⟨0, s, Nat.zero_le _, rfl, rfl, by simp, by simpa using hown7, hbt7⟩
      case round =>
        clear hown7 hbt7
        obtain ⟨j, q, hj, rfl, rfl, hq, hown, hbl⟩ := hrel
        obtain ⟨B8, c8, rfl, _⟩ := own_form hown
        have hsz8 := hbl.size
        have hqs : q ≤ s := by rw [hq]; exact Nat.div_le_self _ _
        have Hq := Lib.hid hq
        clear hq
        by_cases hlt : j < 4
        · have hlI : (j : Int) < 4 := by omega
          obtain ⟨u, hu, hu2⟩ : ∃ u : Nat, u = q % 256 ∧ u < 256 := ⟨_, rfl, by omega⟩
          obtain ⟨q2, hq2, hq3⟩ : ∃ q2 : Nat, q2 = q / 256 ∧ q2 < 4294967296 := ⟨_, rfl, by omega⟩
          have h1 : Int.tmod (q : Int) 256 = (u : Int) := by rw [Int.tmod_eq_emod_of_nonneg (by omega), hu]; rfl
          have h2 : (q : Int) % 256 = (u : Int) := by omega
          have h3 : Int.tdiv (q : Int) 256 = (q2 : Int) := by rw [Int.tdiv_eq_ediv_of_nonneg (by omega), hq2]; rfl
          have h4 : (q : Int) / 256 = (q2 : Int) := by omega
          have h5 : (u : Int) % 256 = (u : Int) := by omega
          have Hu := Lib.hid hu; have Hq2 := Lib.hid hq2
          clear hu hq2
          go_wp2_with (at_builtin; refine wpList_push (.tmp 38) (.tmp 42) 22 5 i0 _ (.int .u8 (u : Int)) 1 rfl rfl Tryd.underlying22 hi0 hz0 hz1 hz2 rfl w.heap.size _ _ _ hown rfl rfl rfl (by omega) (by omega) hsz8 ?_; intro v9 w9 hown9 hg9 hb9 hz9; obtain ⟨A9, c9, rfl, _⟩ := own_form hown9)
          go_roundw
          case rel =>
            refine ⟨j + 1, q2, by omega, by go_num, rfl, by rw [Hq2.out, Hq.out, Nat.div_div_eq_div_mul, Nat.pow_succ], ?_, hbl.trans hb9⟩
            rw [four_take s j hlt, ← List.append_assoc, ← Hq.out, ← Hu.out]
            exact own_cat (ys := [(u : Int)]) hown9 (by omega)
          case measure => simp [intOf]; omega
        · obtain hj4 : j = 4 := by omega
          subst hj4
          rw [List.take_of_length_le (by rw [four_len]; omega)] at hown
          go_wp2_with (at_builtin; refine wpList_push (.tmp 46) (.tmp 47) 22 5 i0 _ (.int .u8 215) 1 rfl rfl Tryd.underlying22 hi0 hz0 hz1 hz2 rfl w.heap.size _ _ _ hown rfl rfl rfl (by omega) (by omega) hsz8 ?_; intro v9 w9 hown9 hg9 hb9 hz9; obtain ⟨A9, c9, rfl, hs9⟩ := own_form hown9)
          go_ret
          have h9 := own_cat (ys := [215]) hown9 rfl (k := 128)
          obtain ⟨A10, c10, e10, hs10⟩ := own_form h9
          simp only [Value.slice.injEq] at e10
          obtain ⟨rfl, _, rfl⟩ := e10
          refine ⟨_, _, rfl, ?_, hbl.trans hb9⟩
          rw [sealed, sealOf, ← Hhd.out, ← Hs.out, ← List.append_assoc]
          exact hs10
end Go.Proofs.YteliebinhdphlaaDoor

/- The document's sealed sectors: Make and Open. -/
namespace Go.Proofs.YteliebinhdphlaaDoor
set_option maxRecDepth 100000
open Go.RowKit Go.Deep
set_option linter.unusedSimpArgs false
set_option linter.unusedVariables false

theorem sl_noughts {w : World} {base n : Nat} {A : Option Addr} {c : Nat} {bs : List Int} (h : w.ownsRow base 5 1 (.slice A n c) n (List.replicate n (Value.int .u8 0))) (e : bs = List.replicate n 0) : Sl w A n (u8s bs) := by
  obtain ⟨A', c', e', hs⟩ := own_form h
  simp only [Value.slice.injEq] at e'
  obtain ⟨rfl, _, rfl⟩ := e'
  rw [e]
  unfold u8s
  rw [List.map_replicate]
  exact hs
/-- A piece of a row is a slice. -/
theorem Blk.cut8 {w : World} {b : Nat} {t : TypeId} {xs : List Int} (h : Blk w b t (u8s xs)) (o n : Nat) (hn : o + n ≤ xs.length) : Sl w (some ⟨b, o, none⟩) n (u8s ((xs.drop o).take n)) := by
  refine ⟨by simp; omega, fun j u hu => ⟨_, rfl, ?_⟩⟩
  rw [show (⟨b, o, none⟩ : Addr).add j = ⟨b, o + j, none⟩ by unfold Addr.add; split <;> simp_all]
  refine h.cell ?_
  rw [List.getElem?_map, List.getElem?_take] at hu
  rw [List.getElem?_map]
  split at hu
  · rw [List.getElem?_drop] at hu; exact hu
  · simp at hu

set_option maxRecDepth 100000 in
set_option maxHeartbeats 3200000 in
theorem rmake_is (kind n : Int) (hkb : -9223372036854775808 ≤ kind ∧ kind ≤ 9223372036854775807) (hnb : -9223372036854775808 ≤ n ∧ n ≤ 9223372036854775807) (A : Option Addr) (m c : Nat) (load : List Int) (w : World) (hx : Sl w A m (u8s load)) (hb : Bytes load) (hm : m ≤ 9223372036854775807)
    (bs : List Int) (er : Int) (hbs : bs = makeOf kind n load) (her : er = makeErr kind n m) :
    Calls Tryd.prog 88 #[.int .i64 kind, .int .i64 n, .slice A m c] w fun e w' => ∃ B cc, e = .returned (.tuple #[.slice B 128 cc, .int .i64 er]) ∧ Sl w' B 128 (u8s bs) ∧ Below w.heap.size w w' := by
  have hlen : load.length = m := by simpa using hx.1
  obtain ⟨i0, hi0, hz0, hz1, hz2⟩ := info_parts info_u8
  have hbad : er = 2 → bs = List.replicate 128 0 := by
    intro h; rw [hbs, makeOf, if_neg (by rw [hlen, ← her, h]; decide)]; rfl
  have hbad3 : er = 3 → bs = List.replicate 128 0 := by
    intro h; rw [hbs, makeOf, if_neg (by rw [hlen, ← her, h]; decide)]; rfl
  have hgood : er = 0 → bs = sealed kind n load := by
    intro h; rw [hbs, makeOf, if_pos (by rw [hlen, ← her, h])]
  have Her := Lib.hid her
  have Hbad := Lib.hid hbad; have Hbad3 := Lib.hid hbad3; have Hgood := Lib.hid hgood; have Hb := Lib.hid hb
  clear hlen hbs her hbad hbad3 hgood hb
  by_cases h1 : kind < 1
  · have he : er = 2 := by rw [Her.out, makeErr, if_pos (Or.inl h1)]
    have hbs := Hbad.out he
    subst he
    have Hbs := Lib.hid hbs
    clear hbs Her Hbad Hbad3 Hgood
    go_enter Tryd.func88, Tryd.ntmps88
    go_wp2_with (at_make; refine wpList_mk _ _ 22 5 i0 _ 1 128 rfl rfl Tryd.underlying22 hi0 hz0 hz1 hz2 rfl .i64 .i64 _ _ rfl rfl rfl rfl (by omega) (by omega) ?_; intro w1 hown1 hb1)
    go_ret2
    first | exact ⟨_, ⟨128, rfl⟩, sl_noughts hown1 Hbs.out, hb1⟩ | exact ⟨_, 128, rfl, sl_noughts hown1 Hbs.out, hb1⟩
  by_cases h2 : 255 < kind
  · have he : er = 2 := by rw [Her.out, makeErr, if_pos (Or.inr (Or.inl h2))]
    have hbs := Hbad.out he
    subst he
    have Hbs := Lib.hid hbs
    clear hbs Her Hbad Hbad3 Hgood
    go_enter Tryd.func88, Tryd.ntmps88
    go_wp2_with (at_make; refine wpList_mk _ _ 22 5 i0 _ 1 128 rfl rfl Tryd.underlying22 hi0 hz0 hz1 hz2 rfl .i64 .i64 _ _ rfl rfl rfl rfl (by omega) (by omega) ?_; intro w1 hown1 hb1)
    go_ret2
    first | exact ⟨_, ⟨128, rfl⟩, sl_noughts hown1 Hbs.out, hb1⟩ | exact ⟨_, 128, rfl, sl_noughts hown1 Hbs.out, hb1⟩
  by_cases h3 : n < 0
  · have he : er = 2 := by rw [Her.out, makeErr, if_pos (Or.inr (Or.inr h3))]
    have hbs := Hbad.out he
    subst he
    have Hbs := Lib.hid hbs
    clear hbs Her Hbad Hbad3 Hgood
    go_enter Tryd.func88, Tryd.ntmps88
    go_wp2_with (at_make; refine wpList_mk _ _ 22 5 i0 _ 1 128 rfl rfl Tryd.underlying22 hi0 hz0 hz1 hz2 rfl .i64 .i64 _ _ rfl rfl rfl rfl (by omega) (by omega) ?_; intro w1 hown1 hb1)
    go_ret2
    first | exact ⟨_, ⟨128, rfl⟩, sl_noughts hown1 Hbs.out, hb1⟩ | exact ⟨_, 128, rfl, sl_noughts hown1 Hbs.out, hb1⟩
  by_cases h4 : 113 < m
  · have h4I : decide (113 < (m : Int)) = true := decide_eq_true (by omega)
    have he : er = 3 := by rw [Her.out, makeErr, if_neg (by omega), if_pos h4]
    have hbs := Hbad3.out he
    subst he
    have Hbs := Lib.hid hbs
    clear hbs Her Hbad Hbad3 Hgood
    go_enter Tryd.func88, Tryd.ntmps88
    go_wp2_with (at_make; refine wpList_mk _ _ 22 5 i0 _ 1 128 rfl rfl Tryd.underlying22 hi0 hz0 hz1 hz2 rfl .i64 .i64 _ _ rfl rfl rfl rfl (by omega) (by omega) ?_; intro w1 hown1 hb1)
    go_ret2
    first | exact ⟨_, ⟨128, rfl⟩, sl_noughts hown1 Hbs.out, hb1⟩ | exact ⟨_, 128, rfl, sl_noughts hown1 Hbs.out, hb1⟩
  have he : er = 0 := by rw [Her.out, makeErr, if_neg (by omega), if_neg h4]
  have hbs := Hgood.out he
  subst he
  have Hbs := Lib.hid hbs
  have h4I : decide (113 < (m : Int)) = false := decide_eq_false (by omega)
  clear hbs Her Hbad Hbad3 Hgood
  go_enter Tryd.func88, Tryd.ntmps88
  go_wp2_with fail
  refine (rbytes_any kind n ⟨by omega, by omega⟩ ⟨by omega, hnb.2⟩ A m c load w hx Hb.out (by omega)).mono ?_
  rintro e w1 ⟨B, cc, rfl, hs1, hb1⟩
  go_wp2_with fail
  go_ret2
  rw [Hbs.out]
  first | exact ⟨B, ⟨cc, rfl⟩, hs1, hb1⟩ | exact ⟨B, cc, rfl, hs1, hb1⟩
end Go.Proofs.YteliebinhdphlaaDoor

/- The document's Open. -/
namespace Go.Proofs.YteliebinhdphlaaDoor
set_option maxRecDepth 100000
open Go.RowKit Go.Deep
set_option linter.unusedSimpArgs false
set_option linter.unusedVariables false

/-- How a call of Open ends: what it answers, and a load that lies in memory. -/
def OpenEnd (bs : List Int) (kind : Int) (w : World) (e : Ending) (w' : World) : Prop :=
  ∃ (n : Int) (l : List Int) (B : Option Addr) (c : Nat) (er : Int), e = .returned (.tuple #[.int .i64 n, .slice B l.length c, .int .i64 er]) ∧ Sl w' B l.length (u8s l) ∧ OpenSays bs kind n l er ∧ Below w.heap.size w w' ∧ l.length ≤ c
theorem OpenEnd.not {bs : List Int} {kind : Int} {w w' : World} (h : ∀ n l, ¬ SealedBy bs kind n l) (hb : Below w.heap.size w w') : OpenEnd bs kind w (.returned (.tuple #[.int .i64 0, .slice none 0 0, .int .i64 53])) w' :=
  ⟨0, [], none, 0, 53, rfl, Sl.nil_ _ _, Or.inr ⟨rfl, rfl, rfl, h⟩, hb, Nat.le_refl _⟩
theorem OpenEnd.has {bs : List Int} {kind n : Int} {l : List Int} {m : Nat} {w w' : World} {B : Option Addr} {c : Nat} (h : SealedBy bs kind n l) (hm : l.length = m) (hs : Sl w' B m (u8s l)) (hb : Below w.heap.size w w') (hc : m ≤ c) : OpenEnd bs kind w (.returned (.tuple #[.int .i64 n, .slice B m c, .int .i64 0])) w' := by
  subst hm
  exact ⟨n, l, B, c, 0, rfl, hs, Or.inl ⟨rfl, h⟩, hb, hc⟩
theorem getVal_bounds (b : List Int) : -9223372036854775808 ≤ getVal b ∧ getVal b ≤ 9223372036854775807 := by
  unfold getVal
  split
  · unfold wrap64; omega
  · omega
theorem SealedBy.not0 {bs : List Int} {kind n x : Int} {l : List Int} (h : SealedBy bs kind n l) (hx : bs[0]? = some x) : x = kind := by
  have := sealed_0 kind n l
  rw [← h.1, hx] at this
  exact Option.some.inj this
theorem SealedBy.not127 {bs : List Int} {kind n x : Int} {l : List Int} (h : SealedBy bs kind n l) (hx : bs[127]? = some x) : x = 215 := by
  have := sealed_127 kind n h.2.2.2.2.2.1
  rw [← h.1, hx] at this
  exact Option.some.inj this
theorem SealedBy.not9 {bs : List Int} {kind n x : Int} {l : List Int} (h : SealedBy bs kind n l) (hx : bs[9]? = some x) : x = (l.length : Int) ∧ l.length ≤ 113 := by
  have := sealed_9 kind n l
  rw [← h.1, hx] at this
  exact ⟨Option.some.inj this, h.2.2.2.2.2.1⟩
theorem SealedBy.num {bs : List Int} {kind n : Int} {l : List Int} (h : SealedBy bs kind n l) : getVal ((bs.drop 1).take 8) = n := by
  have h2 := sealed_num kind n l
  rw [← h.1] at h2
  rw [h2, get_put8 n (by have := h.2.2.2.1; omega) h.2.2.2.2.1]
theorem SealedBy.load {bs : List Int} {kind n : Int} {l : List Int} (h : SealedBy bs kind n l) : (bs.drop 10).take l.length = l := by
  have h2 := sealed_load kind n l
  rw [← h.1] at h2
  exact h2

theorem same_is7 (q : Bool) (A B : Option Addr) (n m c d : Nat) (xs ys : List Int) (w : World) (hx : Sl w A n (u8s xs)) (hy : Sl w B m (u8s ys)) (hn : n ≤ 9223372036854775807) (hm : m ≤ 9223372036854775807) (hq : q = decide (xs = ys)) :
    Calls Tryd.prog 17 #[.slice A n c, .slice B m d] w fun e w' => e = .returned (.bool q) ∧ Below w.heap.size w w' := by
  rw [hq]
  exact (same_any A B n m c d xs ys w hx hy hn hm).mono fun e w' ⟨h, k, hk⟩ => ⟨h, by rw [hk]; exact below_drewN (Below.refl _ _) k⟩

/-- A piece of a row with room behind it is a slice. -/
theorem Blk.cut8s {w : World} {b : Nat} {t : TypeId} {xs : List Int} {sp : List Value} (h : Blk w b t (u8s xs ++ sp)) (o n : Nat) (hn : o + n ≤ xs.length) : Sl w (some ⟨b, o, none⟩) n (u8s ((xs.drop o).take n)) := by
  refine ⟨by simp; omega, fun j u hu => ⟨_, rfl, ?_⟩⟩
  rw [show (⟨b, o, none⟩ : Addr).add j = ⟨b, o + j, none⟩ by unfold Addr.add; split <;> simp_all]
  have hj : j < n := by have := (List.getElem?_eq_some_iff.1 hu).1; simp at this; omega
  refine h.cell ?_
  rw [List.getElem?_append_left (by rw [List.length_map]; omega)]
  rw [List.getElem?_map, List.getElem?_take] at hu
  rw [List.getElem?_map]
  split at hu
  · rw [List.getElem?_drop] at hu; exact hu
  · omega

/-- The load lies in that block. -/
def LoadAt (bb : Nat) (e : Ending) : Prop := ∀ (n er : Value) (B : Addr) (l c : Nat), e = .returned (.tuple #[n, .slice (some B) l c, er]) → B.block = bb
theorem at_none (bb : Nat) (n er : Value) : LoadAt bb (.returned (.tuple #[n, .slice none 0 0, er])) := fun _ _ _ _ _ h => by simp at h
theorem at_some (bb : Nat) (n er : Value) (B : Addr) (l c : Nat) (h : B.block = bb) : LoadAt bb (.returned (.tuple #[n, .slice (some B) l c, er])) := fun _ _ _ _ _ e => by
  simp at e
  rw [← e.2.1.1]; exact h

set_option maxRecDepth 100000 in
set_option maxHeartbeats 3200000 in
theorem ropen_at (bb : Nat) (t : TypeId) (sp : List Value) (cap : Nat) (hcap : 128 ≤ cap) (bs : List Int) (hl : bs.length = 128) (hb : Bytes bs) (w : World) (h : Blk w bb t (u8s bs ++ sp)) (kind : Int) (hkb : -9223372036854775808 ≤ kind ∧ kind ≤ 9223372036854775807) :
    Calls Tryd.prog 66 #[.slice (some ⟨bb, 0, none⟩) 128 cap, .int .i64 kind] w fun e w' => OpenEnd bs kind w e w' ∧ LoadAt bb e := by
  obtain ⟨x0, hx0⟩ : ∃ x, bs[0]? = some x := ⟨_, List.getElem?_eq_getElem (by omega)⟩
  obtain ⟨x127, hx127⟩ : ∃ x, bs[127]? = some x := ⟨_, List.getElem?_eq_getElem (by omega)⟩
  obtain ⟨x9, hx9⟩ : ∃ x, bs[9]? = some x := ⟨_, List.getElem?_eq_getElem (by omega)⟩
  have hc0 : w.cell? ⟨bb, 0, none⟩ = some (.int .u8 x0) := h.cell (by rw [List.getElem?_append_left (by rw [List.length_map]; omega), List.getElem?_map, hx0]; rfl)
  have hc127 : w.cell? ⟨bb, 127, none⟩ = some (.int .u8 x127) := h.cell (by rw [List.getElem?_append_left (by rw [List.length_map]; omega), List.getElem?_map, hx127]; rfl)
  have hc9 : w.cell? ⟨bb, 9, none⟩ = some (.int .u8 x9) := h.cell (by rw [List.getElem?_append_left (by rw [List.length_map]; omega), List.getElem?_map, hx9]; rfl)
  have hb0 := hb x0 (List.mem_of_getElem? hx0)
  have hb9 := hb x9 (List.mem_of_getElem? hx9)
  have hg := getVal_bounds ((bs.drop 1).take 8)
  have hs8 := h.cut8s 1 8 (by omega)
  have hb8 : Bytes ((bs.drop 1).take 8) := fun u hu => hb u (List.mem_of_mem_drop (List.mem_of_mem_take hu))
  have hcap1 : ¬ cap = 1 := by omega
  have hcap10 : ¬ cap = 10 := by omega
  have Hx0 := Lib.hid hx0; have Hx127 := Lib.hid hx127; have Hx9 := Lib.hid hx9; have Hb := Lib.hid hb; have Hl := Lib.hid hl
  clear hx0 hx127 hx9 hb hl
  by_cases h0 : ¬ x0 = kind
  · have Hno := Lib.hid (show ∀ n l, ¬ SealedBy bs kind n l from fun n l hs => h0 (hs.not0 Hx0.out))
    go_enter Tryd.func66, Tryd.ntmps66
    go_wp2_with fail
    go_ret3
    exact ⟨OpenEnd.not Hno.out (Below.refl _ _), at_none _ _ _⟩
  replace h0 := Classical.not_not.1 h0
  subst h0
  by_cases h127 : ¬ x127 = 215
  · have Hno := Lib.hid (show ∀ n l, ¬ SealedBy bs x0 n l from fun n l hs => h127 (hs.not127 Hx127.out))
    go_enter Tryd.func66, Tryd.ntmps66
    go_wp2_with fail
    go_ret3
    exact ⟨OpenEnd.not Hno.out (Below.refl _ _), at_none _ _ _⟩
  replace h127 := Classical.not_not.1 h127
  subst h127
  obtain ⟨g, hgv⟩ : ∃ g, g = getVal ((bs.drop 1).take 8) := ⟨_, rfl⟩
  have Hgv := Lib.hid hgv
  rw [← hgv] at hg
  clear hgv
  go_enter Tryd.func66, Tryd.ntmps66
  go_wp2_with fail
  refine (rget_any (some ⟨bb, 1, none⟩) 8 _ _ w hs8 hb8 (by omega)).mono ?_
  rintro e w1 ⟨hb1, rfl⟩
  rw [← Hgv.out]
  have h1 := h.kept (hb1.block _ h.lt)
  have hc9' : w1.cell? ⟨bb, 9, none⟩ = some (.int .u8 x9) := (hb1.cell h.lt).trans hc9
  by_cases k1 : x0 < 1
  · have Hno := Lib.hid (show ∀ n l, ¬ SealedBy bs x0 n l from fun n l hs => by have := hs.2.1; omega)
    go_wp2_with fail
    go_ret3
    exact ⟨OpenEnd.not Hno.out hb1, at_none _ _ _⟩
  have k2 : ¬ 255 < x0 := by omega
  by_cases k3 : g < 0
  · have Hno := Lib.hid (show ∀ n l, ¬ SealedBy bs x0 n l from fun n l hs => by have h2 := hs.num; rw [← Hgv.out] at h2; have := hs.2.2.2.1; omega)
    go_wp2_with fail
    go_ret3
    exact ⟨OpenEnd.not Hno.out hb1, at_none _ _ _⟩
  by_cases k4 : 113 < x9
  · have Hno := Lib.hid (show ∀ n l, ¬ SealedBy bs x0 n l from fun n l hs => by have h2 := hs.not9 Hx9.out; omega)
    go_wp2_with fail
    go_ret3
    exact ⟨OpenEnd.not Hno.out hb1, at_none _ _ _⟩
  obtain ⟨s, rfl⟩ := Int.eq_ofNat_of_zero_le hb9.1
  have hs113 : s ≤ 113 := by omega
  have hwr : IntKind.i64.wrap (10 + (s : Int)) = ((10 + s : Nat) : Int) := by rw [IntKind.wrap_i64]; omega
  obtain ⟨l, hll⟩ : ∃ l, l = (bs.drop 10).take s := ⟨_, rfl⟩
  have hlen : l.length = s := by rw [hll, List.length_take, List.length_drop, Hl.out]; omega
  have hsl := h1.cut8s 10 s (by rw [Hl.out]; omega)
  rw [← hll] at hsl
  have hlb : Bytes l := by rw [hll]; exact fun u hu => Hb.out u (List.mem_of_mem_drop (List.mem_of_mem_take hu))
  have Hll := Lib.hid hll
  have Hlen := Lib.hid hlen
  clear hll hlen
  have k4I : decide (113 < (s : Int)) = false := decide_eq_false (by omega)
  have hsz1 := hb1.size
  go_wp2_with fail
  refine (rbytes_any x0 g ⟨by omega, by omega⟩ ⟨by omega, hg.2⟩ (some ⟨bb, 10, none⟩) s _ l w1 hsl hlb hs113).mono ?_
  rintro e w2 ⟨B, cc, rfl, hs2, hb2⟩
  have hbs2 := (h1.kept (hb2.block _ h1.lt)).cut8s 0 128 (by rw [Hl.out]; omega)
  rw [List.drop_zero, List.take_of_length_le (by rw [Hl.out]; omega)] at hbs2
  obtain ⟨q, hq⟩ : ∃ q, q = decide (sealed x0 g l = bs) := ⟨_, rfl⟩
  have Hq := Lib.hid hq
  clear hq
  have hsl2 := hsl.below hb2
  go_wp2_with fail
  refine (same_is7 q B (some ⟨bb, 0, none⟩) 128 128 cc cap (sealed x0 g l) bs w2 hs2 hbs2 (by omega) (by omega) Hq.out).mono ?_
  rintro e w3 ⟨rfl, hb3⟩
  have hb23 : Below w.heap.size w w3 := hb1.trans ((hb2.trans (hb3.mono hb2.size)).mono hsz1)
  cases q with
  | false =>
    have Hno := Lib.hid (show ∀ n l, ¬ SealedBy bs x0 n l from fun n' l' hs => by
      have h2 := hs.num
      have h9 := hs.not9 Hx9.out
      have h3 := hs.load
      have e1 : l'.length = s := by omega
      rw [e1, ← Hll.out] at h3
      rw [← Hgv.out] at h2
      exact of_decide_eq_false Hq.out.symm (by rw [hs.1, h2, h3]))
    go_wp2_with fail
    go_ret3
    exact ⟨OpenEnd.not Hno.out hb23, at_none _ _ _⟩
  | true =>
    have Hyes := Lib.hid (show SealedBy bs x0 g l from ⟨(of_decide_eq_true Hq.out.symm).symm, by omega, by omega, by omega, hg.2, by rw [Hlen.out]; exact hs113, hlb⟩)
    go_wp2_with fail
    go_ret3
    exact ⟨OpenEnd.has Hyes.out Hlen.out (hsl2.below hb3) hb23 (by omega), at_some _ _ _ _ _ _ rfl⟩

theorem ropen_row (bb : Nat) (t : TypeId) (sp : List Value) (cap : Nat) (hcap : 128 ≤ cap) (bs : List Int) (hl : bs.length = 128) (hb : Bytes bs) (w : World) (h : Blk w bb t (u8s bs ++ sp)) (kind : Int) (hkb : -9223372036854775808 ≤ kind ∧ kind ≤ 9223372036854775807) :
    Calls Tryd.prog 66 #[.slice (some ⟨bb, 0, none⟩) 128 cap, .int .i64 kind] w fun e w' => OpenEnd bs kind w e w' :=
  (ropen_at bb t sp cap hcap bs hl hb w h kind hkb).mono (fun _ _ h => h.1)

theorem ropen_any (bb : Nat) (t : TypeId) (bs : List Int) (hl : bs.length = 128) (hb : Bytes bs) (w : World) (h : Blk w bb t (u8s bs)) (kind : Int) (hkb : -9223372036854775808 ≤ kind ∧ kind ≤ 9223372036854775807) :
    Calls Tryd.prog 66 #[.slice (some ⟨bb, 0, none⟩) 128 128, .int .i64 kind] w fun e w' => OpenEnd bs kind w e w' :=
  ropen_row bb t [] 128 (Nat.le_refl _) bs hl hb w (by rw [List.append_nil]; exact h) kind hkb

/-- What a sector has, of a kind: its number, its load, the error. -/
def openOf (bs : List Int) (kind : Int) : Int × List Int × Int :=
  if bs = sealed kind (getVal ((bs.drop 1).take 8)) ((bs.drop 10).take (bs.getD 9 0).toNat) ∧ 1 ≤ kind ∧ kind ≤ 255 ∧ 0 ≤ getVal ((bs.drop 1).take 8) ∧ ((bs.drop 10).take (bs.getD 9 0).toNat).length ≤ 113
  then (getVal ((bs.drop 1).take 8), (bs.drop 10).take (bs.getD 9 0).toNat, 0) else (0, [], 53)
theorem openOf_says {bs : List Int} (hb : Bytes bs) (kind : Int) : OpenSays bs kind (openOf bs kind).1 (openOf bs kind).2.1 (openOf bs kind).2.2 := by
  unfold openOf
  split
  · next h => exact Or.inl ⟨rfl, h.1, h.2.1, h.2.2.1, h.2.2.2.1, (getVal_bounds _).2, h.2.2.2.2, fun u hu => hb u (List.mem_of_mem_drop (List.mem_of_mem_take hu))⟩
  · next h =>
    refine Or.inr ⟨rfl, rfl, rfl, fun n l hs => h ?_⟩
    have h2 := hs.num
    have h9 := sealed_9 kind n l
    rw [← hs.1] at h9
    have e9 : (bs.getD 9 0).toNat = l.length := by simp [List.getD, h9]
    have h3 := hs.load
    rw [e9, h2, h3]
    exact ⟨hs.1, hs.2.1, hs.2.2.1, hs.2.2.2.1, hs.2.2.2.2.2.1⟩
theorem OpenEnd.of {bs : List Int} (hb : Bytes bs) {kind : Int} {w w' : World} {e : Ending} (h : OpenEnd bs kind w e w') (o : Int × List Int × Int) (ho : o = openOf bs kind) :
    (∃ B c, e = .returned (.tuple #[.int .i64 o.1, .slice B o.2.1.length c, .int .i64 o.2.2]) ∧ Sl w' B o.2.1.length (u8s o.2.1)) ∧ Below w.heap.size w w' := by
  obtain ⟨n, l, B, c, er, rfl, hs, hsay, hbl, _⟩ := h
  obtain ⟨e1, e2, e3⟩ := hsay.one (openOf_says hb kind)
  rw [← ho] at e1 e2 e3
  subst e1 e2 e3
  exact ⟨⟨B, c, rfl, hs⟩, hbl⟩
/-- The same, and that there is room for the load. -/
theorem OpenEnd.of_cap {bs : List Int} (hb : Bytes bs) {kind : Int} {w w' : World} {e : Ending} (h : OpenEnd bs kind w e w') (o : Int × List Int × Int) (ho : o = openOf bs kind) :
    (∃ B c, e = .returned (.tuple #[.int .i64 o.1, .slice B o.2.1.length c, .int .i64 o.2.2]) ∧ Sl w' B o.2.1.length (u8s o.2.1) ∧ o.2.1.length ≤ c) ∧ Below w.heap.size w w' := by
  obtain ⟨n, l, B, c, er, rfl, hs, hsay, hbl, hcl⟩ := h
  obtain ⟨e1, e2, e3⟩ := hsay.one (openOf_says hb kind)
  rw [← ho] at e1 e2 e3
  subst e1 e2 e3
  exact ⟨⟨B, c, rfl, hs, hcl⟩, hbl⟩
end Go.Proofs.YteliebinhdphlaaDoor

/- Pieces of an array written over: lists of bytes, cell by cell; what a copy into a piece does. -/
namespace Go.Proofs.YteliebinhdphlaaDoor
set_option maxRecDepth 100000
open Go.RowKit Go.Deep
set_option linter.unusedSimpArgs false
set_option linter.unusedVariables false

/-- ys over xs, from place o on. -/
def over (o : Nat) (ys xs : List Int) : List Int := xs.take o ++ ys ++ xs.drop (o + ys.length)
theorem over_len {o : Nat} {ys xs : List Int} (h : o + ys.length ≤ xs.length) : (over o ys xs).length = xs.length := by
  unfold over
  rw [List.length_append, List.length_append, List.length_take, List.length_drop]; omega
theorem over_at {o : Nat} {ys xs : List Int} (h : o + ys.length ≤ xs.length) (i : Nat) : (over o ys xs)[i]? = if o ≤ i ∧ i < o + ys.length then ys[i - o]? else xs[i]? := by
  unfold over
  by_cases h1 : i < o
  · rw [if_neg (by omega), List.append_assoc, List.getElem?_append_left (by rw [List.length_take]; omega), List.getElem?_take, if_pos h1]
  · by_cases h2 : i < o + ys.length
    · rw [if_pos ⟨by omega, h2⟩, List.getElem?_append_left (by rw [List.length_append, List.length_take]; omega), List.getElem?_append_right (by rw [List.length_take]; omega), List.length_take, Nat.min_eq_left (by omega)]
    · rw [if_neg (by omega), List.getElem?_append_right (by rw [List.length_append, List.length_take]; omega), List.length_append, List.length_take, List.getElem?_drop]
      congr 1
      omega
theorem set_at_int (xs : List Int) (o : Nat) (v : Int) (i : Nat) (ho : o < xs.length) : (xs.set o v)[i]? = if i = o then some v else xs[i]? := by
  by_cases h : i = o
  · subst h; rw [if_pos rfl, List.getElem?_set_self ho]
  · rw [if_neg h, List.getElem?_set_ne (fun e => h e.symm)]

/-- A sealed sector, place by place. -/
theorem sealed_at (kind n : Int) {load : List Int} (hl : load.length ≤ 113) (i : Nat) : (sealed kind n load)[i]? =
    if i = 0 then some kind else if i < 9 then (bytesOf n)[i - 1]? else if i = 9 then some (load.length : Int) else if i < 10 + load.length then load[i - 10]? else if i < 123 then some 0
    else if i < 127 then (four (sumOf (headOf kind n load)))[i - 123]? else if i = 127 then some 215 else none := by
  have hh := head_len kind n hl
  unfold sealed sealOf
  by_cases h123 : i < 123
  · rw [List.getElem?_append_left (by rw [hh]; exact h123)]
    unfold headOf
    rcases i with _ | i
    · rw [if_pos rfl]; rfl
    · rw [if_neg (by omega), List.getElem?_cons_succ]
      by_cases h9 : i < 8
      · rw [if_pos (by omega), List.getElem?_append_left (by rw [bytesOf_len]; exact h9)]; rfl
      · rw [if_neg (by omega), List.getElem?_append_right (by rw [bytesOf_len]; omega), bytesOf_len]
        by_cases h10 : i = 8
        · subst h10; rw [if_pos rfl]; rfl
        · rw [if_neg (by omega), show i - 8 = (i - 9) + 1 by omega, List.getElem?_cons_succ]
          by_cases hL : i - 9 < load.length
          · rw [if_pos (by omega), List.getElem?_append_left hL, show i + 1 - 10 = i - 9 by omega]
          · rw [if_neg (by omega), if_pos h123, List.getElem?_append_right (by omega), List.getElem?_replicate, if_pos (by omega)]
  · rw [if_neg (by omega), if_neg (by omega), if_neg (by omega), if_neg (by omega), if_neg h123, List.getElem?_append_right (by omega), hh]
    by_cases h127 : i < 127
    · rw [if_pos h127, List.getElem?_append_left (by rw [four_len]; omega)]
    · rw [if_neg h127, List.getElem?_append_right (by rw [four_len]; omega), four_len]
      by_cases he : i = 127
      · subst he; rfl
      · rw [if_neg he, List.getElem?_eq_none (by simp; omega)]

/-- What a copy into a piece of a row does, its source a slice, nil too. -/
theorem copy_into {w : World} {b : Nat} {t : TypeId} {xs ys : List Int} {A : Option Addr} {n c o m cap : Nat} (h : Blk w b t (u8s xs)) (hs : Sl w A n (u8s ys)) (hn : n ≤ m) (ho : o + m ≤ xs.length) :
    (Builtin.copy_ #[22, 22] 3 #[.slice (some ⟨b, o, none⟩) m cap, .slice A n c]).run Tryd.prog w = .ok (.int .i64 (n : Int)) (w.setCells b o (u8s ys)) ∧ Blk (w.setCells b o (u8s ys)) b t (u8s (over o ys xs)) := by
  have hyl : ys.length = n := by simpa using hs.1
  have hcl : (u8s ys).length = n := by rw [List.length_map, hyl]
  have hblk : Blk (w.setCells b o (u8s ys)) b t (u8s (over o ys xs)) := by
    have := setCells_blk (u8s ys) o w (u8s xs) h (by rw [hcl, List.length_map]; omega)
    unfold over u8s
    rw [List.map_append, List.map_append, List.map_take, List.map_drop]
    rw [hcl] at this
    rw [hyl]
    exact this
  refine ⟨?_, hblk⟩
  cases A with
  | none =>
    have hn0 : n = 0 := by
      rcases n with _ | n
      · rfl
      · obtain ⟨ad, u, e, _⟩ := hs.num (k := 0) (by omega)
        cases e
    subst hn0
    have : ys = [] := List.eq_nil_of_length_eq_zero hyl
    subst this
    exact run_copy_none w _ _ _ 5 _ _ _ _ _ _ Tryd.underlying22 (by kernel_rfl) (by show min 0 m = 0; omega)
  | some ad =>
    rw [show (Value.int .i64 (n : Int)) = goInt (u8s ys).length by rw [hcl]; rfl]
    refine run_copy_cells w _ _ _ 5 _ _ _ _ _ _ _ _ Tryd.underlying22 (by kernel_rfl) (by rw [hcl]; show n = min n m; omega) ?_ ?_ (fun j _ => h.frozen _) (one_u8s _)
    · intro j v hj
      obtain ⟨ad', e, hc⟩ := hs.2 j v hj
      cases e; exact hc
    · intro j hj
      rw [hcl] at hj
      rw [h.cell (List.getElem?_eq_getElem (show o + j < (u8s xs).length by rw [List.length_map]; omega))]; rfl
end Go.Proofs.YteliebinhdphlaaDoor

/- The program's seal: what Make builds, as lists. -/
namespace Go.Proofs.YteliebinhdphlaaDoor
set_option maxRecDepth 100000
open Go.RowKit Go.Deep
set_option linter.unusedSimpArgs false
set_option linter.unusedVariables false
attribute [local irreducible] Tryd.zeroCells72

/-- An array that was answered, kept in a block of its own. -/
theorem arr_new (w7 : World) (r : List Int) (hr : r.length = 128) : ∃ w8, w8 = (w7.alloc (.cells Tryd.zeroCells72 72)).setCells w7.heap.size 0 (u8s r) ∧ Below w7.heap.size w7 w8 ∧ Blk w8 w7.heap.size 72 (u8s r)
    ∧ (w7.alloc (.cells Tryd.zeroCells72 72)).there w7.heap.size 0 (u8s r).toArray.size ∧ (Tryd.prog.info? 72).map (·.size) = some (u8s r).toArray.size ∧ (Tryd.prog.info? 72).map (·.size) = some (u8s r).length := by
  have hz := zero_new w7
  exact ⟨_, rfl, below_setCells (below_alloc _ _) (Nat.le_refl _) _ _, setCells_whole hz (by simp [hr, zeros_len]), hz.there (by rw [List.size_toArray, List.length_map, List.length_map, hr, zeros_len]; omega), by rw [size_arr, List.size_toArray, List.length_map, hr], by rw [size_arr, List.length_map, hr]⟩

/-- An array argument, kept in a block of its own. -/
theorem box_new7 (w : World) (bs : List Int) (hl : bs.length = 128) : ∃ w1, w1 = w.alloc (.cells (u8s bs).toArray 72) ∧ Blk w1 w.heap.size 72 (u8s bs) ∧ Below w.heap.size w w1 ∧ (Tryd.prog.info? 72).map (·.size) = some (u8s bs).length :=
  ⟨_, rfl, Blk.new w 72 (u8s bs), below_alloc _ _, by rw [size_arr, List.length_map, hl]⟩

/-- What Make builds, step by step. -/
def built (kind n : Int) (load : List Int) : List Int := over 10 load ((over 1 (bytesOf n) (zeros128.set 0 kind)).set 9 (load.length : Int))
theorem built_len (kind n : Int) {load : List Int} (hl : load.length ≤ 113) : (built kind n load).length = 128 := by
  have h1 : (over 1 (bytesOf n) (zeros128.set 0 kind)).length = 128 := by
    rw [over_len (by rw [bytesOf_len, List.length_set, zeros_len]; omega), List.length_set, zeros_len]
  unfold built
  rw [over_len (by rw [List.length_set, h1]; omega), List.length_set, h1]
theorem built_at (kind n : Int) {load : List Int} (hl : load.length ≤ 113) {i : Nat} (hi : i < 123) : (built kind n load)[i]? = (sealed kind n load)[i]? := by
  have h1 : (over 1 (bytesOf n) (zeros128.set 0 kind)).length = 128 := by
    rw [over_len (by rw [bytesOf_len, List.length_set, zeros_len]; omega), List.length_set, zeros_len]
  unfold built
  rw [over_at (by rw [List.length_set, h1]; omega), sealed_at kind n hl]
  by_cases h10 : 10 ≤ i ∧ i < 10 + load.length
  · rw [if_pos h10, if_neg (by omega), if_neg (by omega), if_neg (by omega), if_pos h10.2]
  · rw [if_neg h10, set_at_int _ _ _ _ (by rw [h1]; omega)]
    by_cases h9 : i = 9
    · subst h9; rw [if_pos rfl, if_neg (by omega), if_neg (by omega), if_pos rfl]
    · rw [if_neg h9, over_at (by rw [bytesOf_len, List.length_set, zeros_len]; omega), bytesOf_len]
      by_cases h1 : 1 ≤ i ∧ i < 1 + 8
      · rw [if_pos h1, if_neg (by omega), if_pos (by omega)]
      · rw [if_neg h1, set_at_int _ _ _ _ (by rw [zeros_len]; omega)]
        by_cases h0 : i = 0
        · subst h0; rw [if_pos rfl, if_pos rfl]
        · rw [if_neg h0, if_neg h0, if_neg (by omega), if_neg h9, if_neg (by omega), if_pos hi, zeros128, List.getElem?_replicate, if_pos (by omega)]
theorem built_head (kind n : Int) {load : List Int} (hl : load.length ≤ 113) : (built kind n load).take 123 = headOf kind n load := by
  rw [← sealOf_head (head_len kind n hl)]
  apply List.ext_getElem?
  intro i
  rw [List.getElem?_take, List.getElem?_take]
  by_cases hi : i < 123
  · rw [if_pos hi, if_pos hi, built_at kind n hl hi]; rfl
  · rw [if_neg hi, if_neg hi]
theorem built_all (kind n : Int) {load : List Int} (hl : load.length ≤ 113) : (over 123 (four (sumOf (headOf kind n load))) (built kind n load)).set 127 215 = sealed kind n load := by
  have h1 := built_len kind n hl
  apply List.ext_getElem?
  intro i
  rw [set_at_int _ _ _ _ (by rw [over_len (by rw [four_len, h1]; omega), h1]; omega), over_at (by rw [four_len, h1]; omega), four_len]
  by_cases h127 : i = 127
  · subst h127; rw [if_pos rfl, sealed_127 kind n hl]
  · rw [if_neg h127]
    by_cases h4 : 123 ≤ i ∧ i < 123 + 4
    · rw [if_pos h4, sealed_at kind n hl, if_neg (by omega), if_neg (by omega), if_neg (by omega), if_neg (by omega), if_neg (by omega), if_pos (by omega)]
    · rw [if_neg h4]
      by_cases hi : i < 123
      · exact built_at kind n hl hi
      · rw [List.getElem?_eq_none (by omega), List.getElem?_eq_none (by rw [sealed_len kind n hl]; omega)]
theorem four_of {s b0 b1 b2 b3 : Nat} (h0 : b0 < 256) (h1 : b1 < 256) (h2 : b2 < 256) (h3 : b3 < 256) (h : b0 + 256 * b1 + 65536 * b2 + 16777216 * b3 = s) : four s = [(b0 : Int), (b1 : Int), (b2 : Int), (b3 : Int)] := by
  subst h
  simp only [four, List.cons.injEq, and_true]
  refine ⟨?_, ?_, ?_, ?_⟩ <;> omega
end Go.Proofs.YteliebinhdphlaaDoor

/- The program's seal: Make, where there is no sector. -/
namespace Go.Proofs.YteliebinhdphlaaDoor
set_option maxRecDepth 100000
open Go.RowKit Go.Deep
set_option linter.unusedSimpArgs false
set_option linter.unusedVariables false
attribute [local irreducible] Tryd.zeroCells72

/-- Two new arrays of noughts, the first for what is answered. -/
theorem two_new (w : World) : ∃ w1, w1 = (w.alloc (.cells Tryd.zeroCells72 72)).alloc (.cells Tryd.zeroCells72 72) ∧ Blk w1 w.heap.size 72 (u8s zeros128) ∧ Blk w1 (w.heap.size + 1) 72 (u8s zeros128) ∧ Below w.heap.size w w1 := by
  refine ⟨_, rfl, (zero_new w).alloc _, ?_, (below_alloc _ _).trans ((below_alloc _ _).mono (by rw [nblk_alloc]; omega))⟩
  have := zero_new (w.alloc (.cells Tryd.zeroCells72 72))
  rw [nblk_alloc] at this
  exact this

set_option maxRecDepth 100000 in
set_option maxHeartbeats 3200000 in
theorem pmake_bad (kind n : Int) (A : Option Addr) (m c : Nat) (w : World) (hm : m ≤ 9223372036854775807) (er : Int) (her : er = makeErr kind n m) (hne : er ≠ 0) :
    Calls Tryd.prog 33 #[.int .i64 kind, .int .i64 n, .slice A m c] w fun e w' => e = .returned (.tuple #[.agg (u8s zeros128).toArray, .int .i64 er]) ∧ Below w.heap.size w w' := by
  obtain ⟨w1, hw1, hB1, hB2, hb1⟩ := two_new w
  have hsL : (Tryd.prog.info? 72).map (·.size) = some (u8s zeros128).length := by rw [size_arr, List.length_map, zeros_len]
  have hsA : (Tryd.prog.info? 72).map (·.size) = some (u8s zeros128).toArray.size := by rw [size_arr, List.size_toArray, List.length_map, zeros_len]
  have hth := hB1.there (n := (u8s zeros128).toArray.size) (by rw [List.size_toArray]; omega)
  have Hw1 := Lib.hid hw1; have Hr := Lib.hid hB2.range; have Hth := Lib.hid hth

  clear hw1 hth
  obtain ⟨w2, hw2⟩ : ∃ w2, w2 = w1.setCells w.heap.size 0 (u8s zeros128) := ⟨_, rfl⟩
  have hB3 : Blk w2 w.heap.size 72 (u8s zeros128) := by rw [hw2]; exact setCells_whole hB1 rfl
  have hb2 : Below w.heap.size w w2 := by rw [hw2]; exact below_setCells hb1 (Nat.le_refl _) _ _
  have Hw2 := Lib.hid hw2
  have Her := Lib.hid her
  have Hne := Lib.hid hne
  clear hw2 her hne hB1 hB2
  by_cases h1 : kind < 1
  · have he : er = 2 := by rw [Her.out, makeErr, if_pos (Or.inl h1)]
    subst he
    clear Her Hne
    go_enter Tryd.func33, Tryd.ntmps33
    go_wp2_with (first
      | (rw [← Hw1.out]; refine wpList_load_mid rfl 72 (.tmp 8) rfl (w.heap.size + 1) 0 rfl (u8s zeros128) _ Hr.out Tryd.underlying72 rfl hsL ?_)
      | (refine wpList_store_mid rfl 72 (.tmp 6) (.tmp 21) rfl w.heap.size 0 (u8s zeros128).toArray rfl rfl Hth.out hsA (all_oneCell_toArray (one_u8s _)) ?_; rw [show (u8s zeros128).toArray.toList = u8s zeros128 from rfl, ← Hw2.out]))
    refine bodyPost_ret (v := .tuple #[.agg (u8s zeros128).toArray, .int .i64 2]) ?_ rfl ⟨rfl, hb2⟩
    exact results_arr_int rfl _ _ w.heap.size 72 _ (0, 0) _ rfl hB3 Tryd.underlying72 rfl hsA _ rfl
  by_cases h2 : 255 < kind
  · have he : er = 2 := by rw [Her.out, makeErr, if_pos (Or.inr (Or.inl h2))]
    subst he
    clear Her Hne
    go_enter Tryd.func33, Tryd.ntmps33
    go_wp2_with (first
      | (rw [← Hw1.out]; refine wpList_load_mid rfl 72 (.tmp 8) rfl (w.heap.size + 1) 0 rfl (u8s zeros128) _ Hr.out Tryd.underlying72 rfl hsL ?_)
      | (refine wpList_store_mid rfl 72 (.tmp 6) (.tmp 21) rfl w.heap.size 0 (u8s zeros128).toArray rfl rfl Hth.out hsA (all_oneCell_toArray (one_u8s _)) ?_; rw [show (u8s zeros128).toArray.toList = u8s zeros128 from rfl, ← Hw2.out]))
    refine bodyPost_ret (v := .tuple #[.agg (u8s zeros128).toArray, .int .i64 2]) ?_ rfl ⟨rfl, hb2⟩
    exact results_arr_int rfl _ _ w.heap.size 72 _ (0, 0) _ rfl hB3 Tryd.underlying72 rfl hsA _ rfl
  by_cases h3 : n < 0
  · have he : er = 2 := by rw [Her.out, makeErr, if_pos (Or.inr (Or.inr h3))]
    subst he
    clear Her Hne
    go_enter Tryd.func33, Tryd.ntmps33
    go_wp2_with (first
      | (rw [← Hw1.out]; refine wpList_load_mid rfl 72 (.tmp 8) rfl (w.heap.size + 1) 0 rfl (u8s zeros128) _ Hr.out Tryd.underlying72 rfl hsL ?_)
      | (refine wpList_store_mid rfl 72 (.tmp 6) (.tmp 21) rfl w.heap.size 0 (u8s zeros128).toArray rfl rfl Hth.out hsA (all_oneCell_toArray (one_u8s _)) ?_; rw [show (u8s zeros128).toArray.toList = u8s zeros128 from rfl, ← Hw2.out]))
    refine bodyPost_ret (v := .tuple #[.agg (u8s zeros128).toArray, .int .i64 2]) ?_ rfl ⟨rfl, hb2⟩
    exact results_arr_int rfl _ _ w.heap.size 72 _ (0, 0) _ rfl hB3 Tryd.underlying72 rfl hsA _ rfl
  by_cases h4 : 113 < m
  · have he : er = 3 := by rw [Her.out, makeErr, if_neg (by omega), if_pos h4]
    subst he
    clear Her Hne
    have h4I : decide (113 < (m : Int)) = true := decide_eq_true (by omega)
    go_enter Tryd.func33, Tryd.ntmps33
    go_wp2_with (first
      | (rw [← Hw1.out]; refine wpList_load_mid rfl 72 (.tmp 8) rfl (w.heap.size + 1) 0 rfl (u8s zeros128) _ Hr.out Tryd.underlying72 rfl hsL ?_)
      | (refine wpList_store_mid rfl 72 (.tmp 6) (.tmp 26) rfl w.heap.size 0 (u8s zeros128).toArray rfl rfl Hth.out hsA (all_oneCell_toArray (one_u8s _)) ?_; rw [show (u8s zeros128).toArray.toList = u8s zeros128 from rfl, ← Hw2.out]))
    refine bodyPost_ret (v := .tuple #[.agg (u8s zeros128).toArray, .int .i64 3]) ?_ rfl ⟨rfl, hb2⟩
    exact results_arr_int rfl _ _ w.heap.size 72 _ (0, 0) _ rfl hB3 Tryd.underlying72 rfl hsA _ rfl
  exact absurd (by rw [Her.out, makeErr, if_neg (by omega), if_neg h4]) Hne.out
end Go.Proofs.YteliebinhdphlaaDoor

/- The program's seal: Make, where there is a sector. -/
namespace Go.Proofs.YteliebinhdphlaaDoor
set_option maxRecDepth 100000
open Go.RowKit Go.Deep
set_option linter.unusedSimpArgs false
set_option linter.unusedVariables false

/-- A block of bytes with one byte set. -/
theorem Blk.set8 {w : World} {b : Nat} {t : TypeId} {xs : List Int} (h : Blk w b t (u8s xs)) (i : Nat) (v : Int) : Blk (w.setCell ⟨b, i, none⟩ (.int .u8 v)) b t (u8s (xs.set i v)) := by
  have := h.set i (.int .u8 v)
  rw [← List.map_set] at this
  exact this

set_option maxRecDepth 100000 in
set_option maxHeartbeats 6400000 in
theorem pmake_good (kind n : Int) (hk : 1 ≤ kind ∧ kind ≤ 255) (hn : 0 ≤ n ∧ n ≤ 9223372036854775807) (A : Option Addr) (m c : Nat) (load : List Int) (w : World) (ht : Tabs w) (hx : Sl w A m (u8s load)) (hb : Bytes load) (hm : m ≤ 113) :
    Calls Tryd.prog 33 #[.int .i64 kind, .int .i64 n, .slice A m c] w fun e w' => e = .returned (.tuple #[.agg (u8s (sealed kind n load)).toArray, .int .i64 0]) ∧ Below w.heap.size w w' := by
  have hlen : load.length = m := by simpa using hx.1
  have hk8 : kind % 256 = kind := by omega
  have hm8 : (m : Int) % 256 = (m : Int) := by omega
  have h1 : ¬ kind < 1 := by omega
  have h2 : ¬ 255 < kind := by omega
  have h3 : ¬ n < 0 := by omega
  have h4I : decide (113 < (m : Int)) = false := decide_eq_false (by omega)
  have hm113 : m ≤ 113 := hm
  have Hlen := Lib.hid hlen; have Hb := Lib.hid hb; have Hk := Lib.hid hk; have Hn := Lib.hid hn; have Ht := Lib.hid ht; have Hx := Lib.hid hx
  clear hlen hb hk hn ht hx
  obtain ⟨w1, hw1, hB1, hB2, hb1⟩ := two_new w
  have hc0 : w1.cell? ⟨w.heap.size + 1, 0, none⟩ = some (.int .u8 0) := hB2.cell (by rw [List.getElem?_map, zeros128, List.getElem?_replicate, if_pos (by omega)]; rfl)
  have hf0 := hB2.frozen 0
  have hR2 := hB2.set8 0 kind
  have hr1 := hB1.setOther (a := ⟨w.heap.size + 1, 0, none⟩) (by show w.heap.size ≠ w.heap.size + 1; omega) (.int .u8 kind)
  have hb2 := hb1.setCell (p := ⟨w.heap.size + 1, 0, none⟩) (by show w.heap.size ≤ w.heap.size + 1; omega) (.int .u8 kind)
  obtain ⟨w2, hw2⟩ : ∃ w2, w2 = w1.setCell ⟨w.heap.size + 1, 0, none⟩ (.int .u8 kind) := ⟨_, rfl⟩
  rw [← hw2] at hR2 hr1 hb2
  have Hw1 := Lib.hid hw1; have Hw2 := Lib.hid hw2
  obtain ⟨bb, hbb⟩ : ∃ bb, bb = w.heap.size + 1 := ⟨_, rfl⟩
  have Hbb := Lib.hid hbb
  clear hw1 hw2 hB1 hB2 hb1 hbb
  go_enter Tryd.func33, Tryd.ntmps33
  go_upto_region 6 with fail
  rw [← Hw1.out]
  go_upto_region 7 with fail
  rw [← Hw2.out, ← Hbb.out]
  rw [← Hbb.out] at hR2
  have hbbl : w.heap.size ≤ bb := by have := Hbb.out; omega
  have hne : w.heap.size ≠ bb := by have := Hbb.out; omega
  clear hc0 hf0 Hw1 Hw2 Hbb
  refine wp_region_any (by kernel_rfl) ?_
  try (change wpAny _ _ _ _ _ _ _ (World.drew _))
  refine wpAny_take (i := 0) (oi := ?oiy6) (v := ?vy6) ?hiy6 ?hay6 ?hby6 ?hcy6 ?hqy6 ?hyy6 ?resty6
  case hiy6 => (simp only [List.getElem?_toArray, List.getElem?_cons_zero, List.getElem?_cons_succ]; rfl)
  case hay6 => kernel_rfl
  case hby6 => kernel_rfl
  case hcy6 => kernel_rfl
  case hyy6 => exact Or.inl ⟨by rfl, by (intro w; go_simp; (try with_reducible rfl))⟩
  case hqy6 => exact fun _ _ _ h => h
  try simp only [Act.put, List.setIfInBounds_toArray, List.set_cons_zero, List.set_cons_succ]
  refine wpAny_take (i := 1) (oi := ?oiy7) (v := ?vy7) ?hiy7 ?hay7 ?hby7 ?hcy7 ?hqy7 ?hyy7 ?resty7
  case hiy7 => (simp only [List.getElem?_toArray, List.getElem?_cons_zero, List.getElem?_cons_succ]; rfl)
  case hay7 => kernel_rfl
  case hby7 => kernel_rfl
  case hcy7 => kernel_rfl
  case hyy7 => exact Or.inl ⟨by rfl, by (intro w; go_simp; (try with_reducible rfl))⟩
  case hqy7 => exact fun _ _ _ h => h
  try simp only [Act.put, List.setIfInBounds_toArray, List.set_cons_zero, List.set_cons_succ]
  refine wpAny_ready (rs := [2]) (by kernel_rfl) (by simp) ?_
  refine AllReady.cons (o := ?oiy8f0) ?hiy8f0 (fun K hK => ?stepy8f0) ?morey8f0
  case hiy8f0 => (simp only [List.getElem?_toArray, List.getElem?_cons_zero, List.getElem?_cons_succ]; rfl)
  case stepy8f0 =>
    go_simp
    refine (put_any n _).mono ?_
    rintro e w3 ⟨v3, rfl, hown3, hb3⟩
    obtain ⟨A3, c3, rfl, hs3⟩ := own_form hown3
    have hB3 : Blk w3 bb 72 (u8s (zeros128.set 0 kind)) := hR2.drew.kept (hb3.block _ hR2.lt)
    have hr3 : Blk w3 w.heap.size 72 (u8s zeros128) := hr1.drew.kept (hb3.block _ hr1.lt)
    have hb3t : Below w.heap.size w w3 := hb2.drew.trans (hb3.mono hb2.size)
    have hcp := copy_into (o := 1) (c := c3) (cap := 8) (m := 8) hB3 hs3 (Nat.le_refl _) (by rw [List.length_set, zeros_len]; omega)
    have hr4 : Blk (w3.setCells bb 1 (u8s (bytesOf n))) w.heap.size 72 (u8s zeros128) := hr3.kept (setCells_other _ _ _ _ _ hne)
    have hb4 := below_setCells hb3t hbbl (u8s (bytesOf n)) 1
    obtain ⟨w4, hw4⟩ : ∃ w4, w4 = w3.setCells bb 1 (u8s (bytesOf n)) := ⟨_, rfl⟩
    rw [← hw4] at hcp hr4 hb4
    obtain ⟨hcp, hB4⟩ := hcp
    have Hcp := Lib.hid hcp
    clear hcp hw4 hb3t hr3 hB3 hb3 hown3 hs3
    refine hK _ _ ?_
    clear hK K
    try simp only [Act.put, List.setIfInBounds_toArray, List.set_cons_zero, List.set_cons_succ]
    refine wpAny_ready (rs := [3]) (by kernel_rfl) (by simp) ?_
    refine AllReady.cons (o := ?oiy9f0) ?hiy9f0 (fun K hK => ?stepy9f0) ?morey9f0
    case hiy9f0 => (simp only [List.getElem?_toArray, List.getElem?_cons_zero, List.getElem?_cons_succ]; rfl)
    case stepy9f0 =>
      refine step_copy rfl (.tmp 30) (.tmp 32) 22 22 rfl _ _ (by simp [Act.eval]) (by simp [Act.eval]) Hcp.out ?_
      refine hK _ _ ?_
      clear hK K
      try simp only [Act.put, List.setIfInBounds_toArray, List.set_cons_zero, List.set_cons_succ]
      refine wpAny_done (by kernel_rfl) ?_ _
      obtain ⟨x9, hx9⟩ : ∃ x, (over 1 (bytesOf n) (zeros128.set 0 kind))[9]? = some x := ⟨_, List.getElem?_eq_getElem (by rw [over_len (by rw [bytesOf_len, List.length_set, zeros_len]; omega), List.length_set, zeros_len]; omega)⟩
      have hc9 : w4.cell? ⟨bb, 9, none⟩ = some (.int .u8 x9) := hB4.cell (by rw [List.getElem?_map, hx9]; rfl)
      have hf9 := hB4.frozen 9
      have hB5 := hB4.set8 9 (m : Int)
      have hr5 := hr4.setOther (a := ⟨bb, 9, none⟩) (by show w.heap.size ≠ bb; exact hne) (.int .u8 (m : Int))
      have hb5 := hb4.setCell (p := ⟨bb, 9, none⟩) hbbl (.int .u8 (m : Int))
      obtain ⟨w5, hw5⟩ : ∃ w5, w5 = w4.setCell ⟨bb, 9, none⟩ (.int .u8 (m : Int)) := ⟨_, rfl⟩
      rw [← hw5] at hB5 hr5 hb5
      have Hw5 := Lib.hid hw5
      have hcp9 := copy_into (o := 10) (c := c) (cap := 113) (m := 113) hB5 (Hx.out.below hb5) hm113 (by rw [List.length_set, over_len (by rw [bytesOf_len, List.length_set, zeros_len]; omega), List.length_set, zeros_len]; omega)
      have hr6 : Blk (w5.setCells bb 10 (u8s load)) w.heap.size 72 (u8s zeros128) := hr5.kept (setCells_other _ _ _ _ _ hne)
      have hb6 := below_setCells hb5 hbbl (u8s load) 10
      obtain ⟨w6, hw6⟩ : ∃ w6, w6 = w5.setCells bb 10 (u8s load) := ⟨_, rfl⟩
      rw [← hw6] at hcp9 hr6 hb6
      obtain ⟨hcp9, hB6⟩ := hcp9
      have hbu : over 10 load ((over 1 (bytesOf n) (zeros128.set 0 kind)).set 9 (m : Int)) = built kind n load := by rw [built, Hlen.out]
      rw [hbu] at hB6
      have hs6 := hB6.cut8 0 123 (by rw [built_len kind n (by rw [Hlen.out]; exact hm113)]; omega)
      rw [List.drop_zero, built_head kind n (by rw [Hlen.out]; exact hm113)] at hs6
      have Hcp9 := Lib.hid hcp9
      have Hhb := Lib.hid (head_bytes (n := n) Hk.out (by rw [Hlen.out]; exact hm113) Hb.out)
      obtain ⟨s, hs⟩ : ∃ s, s = sumOf (headOf kind n load) := ⟨_, rfl⟩
      have hs32 : s < 4294967296 := by rw [hs]; exact sum_lt Hhb.out
      have Hs := Lib.hid hs
      have Ht6 := Lib.hid (Ht.out.below hb6)
      clear hcp9 hw5 hw6 hB4 hB5 hr4 hr5 hb4 hb5 hbu hx9 hs hR2 hr1 hb2 Hcp
      go_wp2_with (first
        | (rw [← Hw5.out]; refine wpList_copy rfl (.tmp 38) (.tmp 39) 22 22 rfl _ _ rfl rfl Hcp9.out ?_))
      refine (sum_one_is s (some ⟨bb, 0, none⟩) 123 123 (headOf kind n load) w6 _ Ht6.out hs6 Hhb.out (by omega) Hs.out).mono ?_
      rintro e w7 ⟨rfl, hb7⟩
      have hB7 := hB6.kept (hb7.block _ hB6.lt)
      have hr7 := hr6.kept (hb7.block _ hr6.lt)
      have hb7t := hb6.trans (hb7.mono hb6.size)
      go_wp2_with fail
      refine (bytes_any s hs32 w7).mono ?_
      rintro e w8 ⟨⟨b0, b1, b2, b3, rfl, hb0, hb1, hb2, hb3, hsum⟩, hb8⟩
      have hB8 := hB7.kept (hb8.block _ hB7.lt)
      have hr8 := hr7.kept (hb8.block _ hr7.lt)
      have hb8t := hb7t.trans (hb8.mono hb7t.size)
      have Hfour := Lib.hid (show four s = [(b0 : Int), (b1 : Int), (b2 : Int), (b3 : Int)] from four_of hb0 hb1 hb2 hb3 hsum)
      clear hB6 hB7 hr6 hr7 hb6 hb7 hb7t hb8 hs6 Hcp9 Hw5 hc9 hf9 Ht6 hsum hb0 hb1 hb2 hb3 hs32
      go_upto_region 11 with fail
      have hb9 := hb8t.trans ((below_alloc w8 (.cells #[.int .u8 (b0 : Int), .int .u8 (b1 : Int), .int .u8 (b2 : Int), .int .u8 (b3 : Int)] 120)).mono hb8t.size)
      have hB9 := hB8.alloc (.cells #[.int .u8 (b0 : Int), .int .u8 (b1 : Int), .int .u8 (b2 : Int), .int .u8 (b3 : Int)] 120)
      have hr9 := hr8.alloc (.cells #[.int .u8 (b0 : Int), .int .u8 (b1 : Int), .int .u8 (b2 : Int), .int .u8 (b3 : Int)] 120)
      have hs9 : Sl (w8.alloc (.cells #[.int .u8 (b0 : Int), .int .u8 (b1 : Int), .int .u8 (b2 : Int), .int .u8 (b3 : Int)] 120)) (some ⟨w8.heap.size, 0, none⟩) 4 (u8s (four s)) := by
        rw [Hfour.out]
        exact Sl.new_ w8 120 [.int .u8 (b0 : Int), .int .u8 (b1 : Int), .int .u8 (b2 : Int), .int .u8 (b3 : Int)] 4 rfl
      obtain ⟨w9, hw9⟩ : ∃ w9, w9 = w8.alloc (.cells #[.int .u8 (b0 : Int), .int .u8 (b1 : Int), .int .u8 (b2 : Int), .int .u8 (b3 : Int)] 120) := ⟨_, rfl⟩
      rw [← hw9] at hb9 hB9 hr9 hs9 ⊢
      have hul := built_len kind n (load := load) (by rw [Hlen.out]; exact hm113)
      have hcp8 := copy_into (w := w9.drew) (o := 123) (c := 4) (cap := 4) (m := 4) hB9.drew hs9 (Nat.le_refl _) (by rw [hul]; omega)
      have hr10 : Blk (w9.drew.setCells bb 123 (u8s (four s))) w.heap.size 72 (u8s zeros128) := hr9.drew.kept (setCells_other _ _ _ _ _ hne)
      have hb10 := below_setCells hb9.drew hbbl (u8s (four s)) 123
      obtain ⟨w10, hw10⟩ : ∃ w10, w10 = w9.drew.setCells bb 123 (u8s (four s)) := ⟨_, rfl⟩
      rw [← hw10] at hcp8 hr10 hb10
      obtain ⟨hcp8, hB10⟩ := hcp8
      obtain ⟨x127, hx127⟩ : ∃ x, (over 123 (four s) (built kind n load))[127]? = some x := ⟨_, List.getElem?_eq_getElem (by rw [over_len (by rw [four_len, hul]; omega), hul]; omega)⟩
      have hc127 : w10.cell? ⟨bb, 127, none⟩ = some (.int .u8 x127) := hB10.cell (by rw [List.getElem?_map, hx127]; rfl)
      have hf127 := hB10.frozen 127
      have hB11 := hB10.set8 127 215
      rw [Hs.out, built_all kind n (by rw [Hlen.out]; exact hm113)] at hB11
      have hr11 := hr10.setOther (a := ⟨bb, 127, none⟩) (by show w.heap.size ≠ bb; exact hne) (.int .u8 215)
      have hb11 := hb10.setCell (p := ⟨bb, 127, none⟩) hbbl (.int .u8 215)
      obtain ⟨bs, hbs⟩ : ∃ bs, bs = sealed kind n load := ⟨_, rfl⟩
      have hl : bs.length = 128 := by rw [hbs]; exact sealed_len kind n (by rw [Hlen.out]; exact hm113)
      rw [← hbs] at hB11
      obtain ⟨w11, hw11⟩ : ∃ w11, w11 = w10.setCell ⟨bb, 127, none⟩ (.int .u8 215) := ⟨_, rfl⟩
      rw [← hw11] at hB11 hr11 hb11
      have Hw11 := Lib.hid hw11
      have Hcp8 := Lib.hid hcp8
      have Hr11 := Lib.hid hB11.range
      have Hth11 := Lib.hid (hr11.there (n := (u8s bs).toArray.size) (by rw [List.size_toArray, List.length_map, List.length_map, hl, zeros_len]; omega))
      have hsL : (Tryd.prog.info? 72).map (·.size) = some (u8s bs).length := by rw [size_arr, List.length_map, hl]
      have hsA : (Tryd.prog.info? 72).map (·.size) = some (u8s bs).toArray.size := by rw [size_arr, List.size_toArray, List.length_map, hl]
      have hB12 : Blk (w11.setCells w.heap.size 0 (u8s bs)) w.heap.size 72 (u8s bs) := setCells_whole hr11 (by rw [List.length_map, List.length_map, hl, zeros_len])
      have hb12 := below_setCells hb11 (Nat.le_refl _) (u8s bs) 0
      have Hbs := Lib.hid hbs
      clear hw9 hw10 hw11 hcp8 hB8 hB9 hB10 hr8 hr9 hr10 hb8t hb9 hb10 hs9 hx127 hbs hl hul hB11 hr11 hb11 Hfour
      refine wp_region_any (by kernel_rfl) ?_
      try (change wpAny _ _ _ _ _ _ _ (World.drew _))
      refine wpAny_take (i := 0) (oi := ?oiy1) (v := ?vy1) ?hiy1 ?hay1 ?hby1 ?hcy1 ?hqy1 ?hyy1 ?resty1
      case hiy1 => (simp only [List.getElem?_toArray, List.getElem?_cons_zero, List.getElem?_cons_succ]; rfl)
      case hay1 => kernel_rfl
      case hby1 => kernel_rfl
      case hcy1 => kernel_rfl
      case hyy1 => exact Or.inl ⟨by rfl, by (intro w; go_simp; (try with_reducible rfl))⟩
      case hqy1 => exact fun _ _ _ h => h
      try simp only [Act.put, List.setIfInBounds_toArray, List.set_cons_zero, List.set_cons_succ]
      refine wpAny_take (i := 1) (oi := ?oiy2) (v := ?vy2) ?hiy2 ?hay2 ?hby2 ?hcy2 ?hqy2 ?hyy2 ?resty2
      case hiy2 => (simp only [List.getElem?_toArray, List.getElem?_cons_zero, List.getElem?_cons_succ]; rfl)
      case hay2 => kernel_rfl
      case hby2 => kernel_rfl
      case hcy2 => kernel_rfl
      case hyy2 => exact Or.inl ⟨by rfl, by (intro w; go_simp; (try with_reducible rfl))⟩
      case hqy2 => exact fun _ _ _ h => h
      try simp only [Act.put, List.setIfInBounds_toArray, List.set_cons_zero, List.set_cons_succ]
      refine wpAny_ready (rs := [2]) (by kernel_rfl) (by simp) ?_
      refine AllReady.cons (o := ?oiy3f0) ?hiy3f0 (fun K hK => ?stepy3f0) ?morey3f0
      case hiy3f0 => (simp only [List.getElem?_toArray, List.getElem?_cons_zero, List.getElem?_cons_succ]; rfl)
      case stepy3f0 =>
        refine step_copy rfl (.tmp 45) (.tmp 46) 22 22 rfl _ _ (by simp [Act.eval]) (by simp [Act.eval]) Hcp8.out ?_
        refine hK _ _ ?_
        clear hK K
        try simp only [Act.put, List.setIfInBounds_toArray, List.set_cons_zero, List.set_cons_succ]
        refine wpAny_done (by kernel_rfl) ?_ _
        go_wp2_with (first
          | (rw [← Hw11.out]; refine wpList_load_mid rfl 72 (.tmp 8) rfl bb 0 rfl (u8s bs) _ Hr11.out Tryd.underlying72 rfl hsL ?_)
          | (refine wpList_store_mid rfl 72 (.tmp 6) (.tmp 49) rfl w.heap.size 0 (u8s bs).toArray rfl rfl Hth11.out hsA (all_oneCell_toArray (one_u8s _)) ?_; rw [show (u8s bs).toArray.toList = u8s bs from rfl]))
        rw [← Hbs.out]
        refine bodyPost_ret (v := .tuple #[.agg (u8s bs).toArray, .int .i64 0]) ?_ rfl ⟨rfl, hb12⟩
        exact results_arr_int rfl _ _ w.heap.size 72 _ (0, 0) _ rfl hB12 Tryd.underlying72 rfl hsA _ rfl
      case morey3f0 => exact AllReady.nil
    case morey9f0 => exact AllReady.nil
  case morey8f0 => exact AllReady.nil
end Go.Proofs.YteliebinhdphlaaDoor

/- The program's seal by contract: Make and Open. -/
namespace Go.Proofs.YteliebinhdphlaaDoor
set_option maxRecDepth 100000
open Go.RowKit Go.Deep
set_option linter.unusedSimpArgs false
set_option linter.unusedVariables false

theorem pmake_is (kind n : Int) (hkb : -9223372036854775808 ≤ kind ∧ kind ≤ 9223372036854775807) (hnb : -9223372036854775808 ≤ n ∧ n ≤ 9223372036854775807) (A : Option Addr) (m c : Nat) (load : List Int) (w : World) (ht : Tabs w) (hx : Sl w A m (u8s load)) (hb : Bytes load) (hm : m ≤ 9223372036854775807)
    (bs : List Int) (er : Int) (hbs : bs = makeOf kind n load) (her : er = makeErr kind n m) :
    Calls Tryd.prog 33 #[.int .i64 kind, .int .i64 n, .slice A m c] w fun e w' => e = .returned (.tuple #[.agg (u8s bs).toArray, .int .i64 er]) ∧ Below w.heap.size w w' := by
  have hlen : load.length = m := by simpa using hx.1
  by_cases h : er = 0
  · have h2 := makeErr_zero.1 (her.symm.trans h)
    rw [hbs, makeOf, if_pos (by rw [hlen, ← her, h]), h]
    exact pmake_good kind n ⟨h2.1, h2.2.1⟩ ⟨h2.2.2.1, hnb.2⟩ A m c load w ht hx hb h2.2.2.2
  · rw [hbs, makeOf, if_neg (by rw [hlen, ← her]; exact h)]
    exact pmake_bad kind n A m c w hm er her h

/-- What a load lies in is new. -/
def FreshLoad (w : World) (e : Ending) : Prop := ∀ (n er : Value) (B : Addr) (l c : Nat), e = .returned (.tuple #[n, .slice (some B) l c, er]) → w.heap.size ≤ B.block
theorem fresh_none (w : World) (n er : Value) : FreshLoad w (.returned (.tuple #[n, .slice none 0 0, er])) := fun _ _ _ _ _ h => by simp at h
theorem fresh_some (w : World) (n er : Value) (B : Addr) (l c : Nat) (h : w.heap.size ≤ B.block) : FreshLoad w (.returned (.tuple #[n, .slice (some B) l c, er])) := fun _ _ _ _ _ e => by
  simp at e
  rw [← e.2.1.1]; exact h

/-- The load's part of an array, cut with its end (where it is nothing, it begins elsewhere). -/
theorem cut_three (bb z s : Nat) (hz : z = 10 + s) (hs : s ≤ 118) : ∃ p : Addr, p.block = bb ∧ (∀ (w : World) (xs : List Value), Sl w (some ⟨bb, 10, none⟩) s xs → Sl w (some p) s xs) ∧
    ∀ w : World, (Instr.sliceAt 72 (.pointer (some ⟨bb, 0, none⟩)) (some (.int .i64 10)) (some (.int .i64 (z : Int))) (some (.int .i64 (z : Int)))).run Tryd.prog w = .ok (.slice (some p) s s) w := by
  have hu := Tryd.underlying72
  have hlen : Tryd.prog.arrayLen 72 = 128 := by simp [Program.arrayLen, hu]
  have hel : Tryd.prog.elem 72 = 5 := by simp [Program.elem, hu]
  have hsz : ∀ w : World, (sizeOf 5).run Tryd.prog w = .ok 1 w := fun w => by kernel_rfl
  have hr : ∀ w : World, (Instr.sliceAt 72 (.pointer (some ⟨bb, 0, none⟩)) (some (.int .i64 10)) (some (.int .i64 (z : Int))) (some (.int .i64 (z : Int)))).run Tryd.prog w = .ok (slicedAt ⟨bb, 0, none⟩ 10 z z 1) w := fun w => by
    have h := run_sliceAt_array_lhm (P := Tryd.prog) w 72 ⟨bb, 0, none⟩ (by rw [hlen, hel]; exact hu) .i64 .i64 .i64 10 (z : Int) (z : Int) (by omega) (by omega) (by omega) (by rw [hlen]; omega)
    rw [h, hel, hsz]
    rfl
  by_cases h0 : s = 0
  · subst h0
    refine ⟨⟨bb, 0, none⟩, rfl, fun w xs h => ⟨h.1, fun j u hu => ?_⟩, fun w => ?_⟩
    · have := (List.getElem?_eq_some_iff.1 hu).1; have := h.1; omega
    · rw [hr w, hz]; rfl
  · refine ⟨⟨bb, 10, none⟩, rfl, fun w xs h => h, fun w => ?_⟩
    rw [hr w]
    unfold slicedAt
    rw [if_neg (by omega), hz, Nat.add_sub_cancel_left]
    rfl

set_option maxRecDepth 100000 in
set_option maxHeartbeats 6400000 in
theorem popen_both (bs : List Int) (hl : bs.length = 128) (hb : Bytes bs) (w : World) (ht : Tabs w) (kind : Int) (hkb : -9223372036854775808 ≤ kind ∧ kind ≤ 9223372036854775807) :
    Calls Tryd.prog 60 #[.agg (u8s bs).toArray, .int .i64 kind] w fun e w' => OpenEnd bs kind w e w' ∧ FreshLoad w e := by
  obtain ⟨x9, hx9⟩ : ∃ x, bs[9]? = some x := ⟨_, List.getElem?_eq_getElem (by omega)⟩
  obtain ⟨w1, hw1, hB1, hb1, hsz⟩ := box_new7 w bs hl
  have hc9 : w1.cell? ⟨w.heap.size, 9, none⟩ = some (.int .u8 x9) := hB1.cell (by rw [List.getElem?_map, hx9]; rfl)
  have hb9 := hb x9 (List.mem_of_getElem? hx9)
  have hs8 := hB1.cut8 1 8 (by omega)
  have hb8 : Bytes ((bs.drop 1).take 8) := fun u hu => hb u (List.mem_of_mem_drop (List.mem_of_mem_take hu))
  have hw9 : IntKind.i64.wrap x9 = x9 := by rw [IntKind.wrap_i64]; omega
  obtain ⟨g, hgv⟩ : ∃ g, g = getVal ((bs.drop 1).take 8) := ⟨_, rfl⟩
  have hg : -9223372036854775808 ≤ g ∧ g ≤ 9223372036854775807 := by rw [hgv]; exact getVal_bounds _
  have Hgv := Lib.hid hgv; have Hx9 := Lib.hid hx9; have Hb := Lib.hid hb; have Hl := Lib.hid hl; have Hw1 := Lib.hid hw1; have Ht := Lib.hid ht
  obtain ⟨bb, hbb⟩ : ∃ bb, bb = w.heap.size := ⟨_, rfl⟩
  rw [← hbb] at hB1 hc9 hs8
  have Hbb := Lib.hid hbb
  clear hgv hx9 hb hl hw1 ht hbb
  by_cases k4 : 113 < x9
  · have Hno := Lib.hid (show ∀ n l, ¬ SealedBy bs kind n l from fun n l hs => by have h2 := hs.not9 Hx9.out; omega)
    go_enter Tryd.func60, Tryd.ntmps60
    go_upto_region 1 with fail
    rw [← Hw1.out, ← Hbb.out]
    go_wp2_with fail
    go_ret3
    exact ⟨OpenEnd.not Hno.out hb1, fresh_none _ _ _⟩
  obtain ⟨s, rfl⟩ := Int.eq_ofNat_of_zero_le hb9.1
  have hs113 : s ≤ 113 := by omega
  have k4I : decide (113 < (s : Int)) = false := decide_eq_false (by omega)
  obtain ⟨z, hz⟩ : ∃ z : Nat, z = 10 + s := ⟨_, rfl⟩
  have hwr : IntKind.i64.wrap (10 + (s : Int)) = (z : Int) := by rw [IntKind.wrap_i64, hz]; omega
  obtain ⟨p, hpb, hp, hcut⟩ := cut_three bb z s hz (by omega)
  clear hz
  obtain ⟨l, hll⟩ : ∃ l, l = (bs.drop 10).take s := ⟨_, rfl⟩
  have hlen : l.length = s := by rw [hll, List.length_take, List.length_drop, Hl.out]; omega
  have hlb : Bytes l := by rw [hll]; exact fun u hu => Hb.out u (List.mem_of_mem_drop (List.mem_of_mem_take hu))
  have Hll := Lib.hid hll
  have Hlen := Lib.hid hlen
  obtain ⟨er, her⟩ : ∃ er, er = makeErr kind g s := ⟨_, rfl⟩
  obtain ⟨ms, hms⟩ : ∃ ms, ms = makeOf kind g l := ⟨_, rfl⟩
  have hml : ms.length = 128 := by rw [hms]; exact makeOf_len _ _ _
  have Her := Lib.hid her; have Hms := Lib.hid hms; have Hlb := Lib.hid hlb; have Hml := Lib.hid hml
  have hsz1 := hb1.size
  clear hll hlen her hms hlb hml
  -- what there is, if anything is
  have Hone := Lib.hid (show ∀ n' l', SealedBy bs kind n' l' → n' = g ∧ l' = l ∧ er = 0 ∧ ms = bs from fun n' l' hs => by
    have h2 := hs.num
    have h9 := hs.not9 Hx9.out
    have h3 := hs.load
    have e1 : l'.length = s := by omega
    rw [e1, ← Hll.out] at h3
    rw [← Hgv.out] at h2
    subst h2
    subst h3
    have he : er = 0 := by rw [Her.out, ← Hlen.out]; exact makeErr_zero.2 ⟨hs.2.1, hs.2.2.1, hs.2.2.2.1, hs.2.2.2.2.2.1⟩
    exact ⟨rfl, rfl, he, by rw [Hms.out, makeOf, if_pos (by rw [Hlen.out, ← Her.out, he])]; exact hs.1.symm⟩)
  go_enter Tryd.func60, Tryd.ntmps60
  go_upto_region 1 with fail
  rw [← Hw1.out, ← Hbb.out]
  clear Hw1
  go_wp2_with fail
  refine (get_any (some ⟨bb, 1, none⟩) 8 8 _ w1 hs8 hb8 (by omega)).mono ?_
  rintro e w2 ⟨hb2, rfl⟩
  rw [← Hgv.out]
  have hB2 := hB1.kept (hb2.block _ hB1.lt)
  have hb2t : Below w.heap.size w w2 := hb1.trans (hb2.mono hsz1)
  have hsl := hB2.cut8 10 s (by rw [Hl.out]; omega)
  rw [← Hll.out] at hsl
  have hsl := hp _ _ hsl
  have hcut2 := hcut w2
  clear hcut hp
  have Ht2 := Lib.hid (Ht.out.below hb2t)
  clear hB1 hb2 hs8 hc9
  go_wp2_with fail
  refine (pmake_is kind g hkb hg (some p) s s l w2 Ht2.out hsl Hlb.out (by omega) ms er Hms.out Her.out).mono ?_
  rintro e w3 ⟨rfl, hb3⟩
  obtain ⟨w4, hw4, hb4, hB4, hth, hsA, hsL⟩ := arr_new w3 ms Hml.out
  have hB24 := hB2.kept (hb3.block _ hB2.lt)
  have hB24 := hB24.kept (hb4.block _ hB24.lt)
  have hs4 := (hsl.below hb3).below hb4
  have hb4t : Below w.heap.size w w4 := hb2t.trans ((hb3.trans (hb4.mono hb3.size)).mono hb2t.size)
  have Hw4 := Lib.hid hw4; have Hth := Lib.hid hth
  have HrM := Lib.hid hB4.range; have HrB := Lib.hid hB24.range
  clear hw4 hth hB2 hB4 hB24 hb3 hb4 hb2t hsl Ht2
  by_cases he : ¬ er = 0
  · have hne : (er != 0) = true := by simpa using he
    have Hno := Lib.hid (show ∀ n l, ¬ SealedBy bs kind n l from fun n l hs => he (Hone.out n l hs).2.2.1)
    clear he
    go_wp2_with (refine wpList_store_mid rfl 72 (.tmp 9) (.tmp 30) rfl w3.heap.size 0 (u8s ms).toArray rfl rfl Hth.out hsA (all_oneCell_toArray (one_u8s _)) ?_; rw [show (u8s ms).toArray.toList = u8s ms from rfl, ← Hw4.out])
    go_ret3
    exact ⟨OpenEnd.not Hno.out hb4t, fresh_none _ _ _⟩
  replace he := Classical.not_not.1 he
  subst he
  obtain ⟨q, hq⟩ : ∃ q, q = decide (ms = bs) := ⟨_, rfl⟩
  have heq : (Op.equalIn 10000 72 (.agg (u8s ms).toArray) (.agg (u8s bs).toArray)).run Tryd.prog w4 = .ok q w4 := by
    rw [hq]; exact arr128_eq ms bs Hml.out Hl.out w4
  have Hq := Lib.hid hq
  clear hq
  cases q with
  | false =>
    have Hno := Lib.hid (show ∀ n l, ¬ SealedBy bs kind n l from fun n l hs => of_decide_eq_false Hq.out.symm (Hone.out n l hs).2.2.2)
    go_wp2_with (first
      | (refine wpList_store_mid rfl 72 (.tmp 9) (.tmp 30) rfl w3.heap.size 0 (u8s ms).toArray rfl rfl Hth.out hsA (all_oneCell_toArray (one_u8s _)) ?_; rw [show (u8s ms).toArray.toList = u8s ms from rfl, ← Hw4.out])
      | (refine wpList_load_want (by rfl) 72 (.tmp 9) rfl w3.heap.size 0 rfl (u8s ms) _ HrM.out Tryd.underlying72 rfl hsL ?_)
      | (refine wpList_load_want (by rfl) 72 (.tmp 2) rfl bb 0 rfl (u8s bs) _ HrB.out Tryd.underlying72 rfl hsz ?_))
    go_ret3
    exact ⟨OpenEnd.not Hno.out hb4t, fresh_none _ _ _⟩
  | true =>
    have Hyes := Lib.hid (show SealedBy bs kind g l from by
      have h := makeOf_sealed (kind := kind) (n := g) hg.2 Hlb.out (by rw [Hlen.out]; exact Her.out.symm)
      rw [← Hms.out, of_decide_eq_true Hq.out.symm] at h
      exact h)
    go_wp2_with (first
      | (refine wpList_store_mid rfl 72 (.tmp 9) (.tmp 30) rfl w3.heap.size 0 (u8s ms).toArray rfl rfl Hth.out hsA (all_oneCell_toArray (one_u8s _)) ?_; rw [show (u8s ms).toArray.toList = u8s ms from rfl, ← Hw4.out])
      | (refine wpList_load_want (by rfl) 72 (.tmp 9) rfl w3.heap.size 0 rfl (u8s ms) _ HrM.out Tryd.underlying72 rfl hsL ?_)
      | (refine wpList_load_want (by rfl) 72 (.tmp 2) rfl bb 0 rfl (u8s bs) _ HrB.out Tryd.underlying72 rfl hsz ?_))
    go_ret3
    exact ⟨OpenEnd.has Hyes.out Hlen.out hs4 hb4t (by omega), fresh_some _ _ _ _ _ _ (by rw [hpb, Hbb.out]; exact Nat.le_refl _)⟩
theorem popen_is (bs : List Int) (hl : bs.length = 128) (hb : Bytes bs) (w : World) (ht : Tabs w) (kind : Int) (hkb : -9223372036854775808 ≤ kind ∧ kind ≤ 9223372036854775807) :
    Calls Tryd.prog 60 #[.agg (u8s bs).toArray, .int .i64 kind] w fun e w' => OpenEnd bs kind w e w' :=
  (popen_both bs hl hb w ht kind hkb).mono fun _ _ h => h.1
/-- Open, its answer by name, its load new. -/
theorem popen_of (bs : List Int) (hl : bs.length = 128) (hb : Bytes bs) (w : World) (ht : Tabs w) (kind : Int) (hkb : -9223372036854775808 ≤ kind ∧ kind ≤ 9223372036854775807) (o : Int × List Int × Int) (ho : o = openOf bs kind) :
    Calls Tryd.prog 60 #[.agg (u8s bs).toArray, .int .i64 kind] w fun e w' => ∃ B c, e = .returned (.tuple #[.int .i64 o.1, .slice B o.2.1.length c, .int .i64 o.2.2]) ∧ Sl w' B o.2.1.length (u8s o.2.1) ∧ (∀ ad, B = some ad → w.heap.size ≤ ad.block) ∧ Below w.heap.size w w' := by
  refine (popen_both bs hl hb w ht kind hkb).mono ?_
  rintro e w' ⟨h, hf⟩
  obtain ⟨⟨B, c, rfl, hs⟩, hbl⟩ := h.of hb o ho
  exact ⟨B, c, rfl, hs, fun ad e => by subst e; exact hf _ _ _ _ _ rfl, hbl⟩
/-- The same, and that there is room for the load. -/
theorem popen_cap (bs : List Int) (hl : bs.length = 128) (hb : Bytes bs) (w : World) (ht : Tabs w) (kind : Int) (hkb : -9223372036854775808 ≤ kind ∧ kind ≤ 9223372036854775807) (o : Int × List Int × Int) (ho : o = openOf bs kind) :
    Calls Tryd.prog 60 #[.agg (u8s bs).toArray, .int .i64 kind] w fun e w' => ∃ B c, e = .returned (.tuple #[.int .i64 o.1, .slice B o.2.1.length c, .int .i64 o.2.2]) ∧ Sl w' B o.2.1.length (u8s o.2.1) ∧ (∀ ad, B = some ad → w.heap.size ≤ ad.block) ∧ o.2.1.length ≤ c ∧ Below w.heap.size w w' := by
  refine (popen_both bs hl hb w ht kind hkb).mono ?_
  rintro e w' ⟨h, hf⟩
  obtain ⟨⟨B, c, rfl, hs, hcl⟩, hbl⟩ := h.of_cap hb o ho
  exact ⟨B, c, rfl, hs, fun ad e => by subst e; exact hf _ _ _ _ _ rfl, hcl, hbl⟩
end Go.Proofs.YteliebinhdphlaaDoor
