import Derived.Test.YtpmhjmbiiihfoaaDoorCTurn
namespace Go.Proofs.YtpmhjmbiiihfoaaDoor
open Go.RowKit

set_option maxRecDepth 100000 in
set_option maxHeartbeats 6400000 in
theorem rbits_any (A : Option Addr) (n c : Nat) (xs : List Int) (w : World) (hx : Sl w A n (u8s xs)) (hb : Bytes xs) (hn : n ≤ 1000) :
    Calls Tryd.prog 26 #[.slice A n c] w fun e w' => ∃ v, e = .returned v ∧ w'.ownsRow w.heap.size 3 1 v 32 (i64s (bl (ones ^^^ reg ones xs))) ∧ Below w.heap.size w w' := by
  obtain ⟨i0, hi0, hz0, hz1, hz2⟩ := info_parts info_int
  have hlen : xs.length = n := by simpa using hx.1
  have Hlen := Lib.hid hlen
  have Hb := Lib.hid hb
  clear hlen hb
  go_enter Tryd.func26, Tryd.ntmps26
  go_wp2_with fail
  refine (cturn_any w).mono ?_
  rintro e w1 ⟨v1, rfl, hown1, hb1⟩
  obtain ⟨T, ct, rfl, ht⟩ := own_form hown1
  have hx1 := hx.below hb1
  have hsz1 := hb1.size
  clear hown1 hx
  go_wp2_with fail
  go_loopw [4, 5] (fun v i wr => ∃ k : Nat, k ≤ 32 ∧ i = .int .i64 k ∧ wr.ownsRow w1.heap.size 3 1 v k (i64s (List.replicate k 1)) ∧ Below w1.heap.size w1 wr) (fun _ i _ => 32 - (intOf i).toNat)
  case atStart => exact ⟨0, by omega, rfl, World.ownsRow_nil _ _ _ _, Below.refl _ _⟩
  case round =>
    obtain ⟨k, hk, rfl, hown, hbl⟩ := hrel
    have hszk := hbl.size
    by_cases hlt : k < 32
    · go_wp2_with (at_builtin; refine wpList_push _ _ 55 3 i0 _ _ 8 rfl rfl Tryd.underlying55 hi0 hz0 hz1 hz2 rfl w1.heap.size _ _ _ hown rfl rfl rfl (by omega) (by omega) hszk ?_; intro v' w2 hown3 hg2 hb2 hs2)
      go_roundw
      case rel => exact ⟨k + 1, by omega, by go_num, by simpa [List.replicate_succ'] using hown3, hbl.trans hb2⟩
      case measure => simp [intOf] <;> omega
    · have hk32 : 32 ≤ k := by omega
      have hown0 := hown
      rw [show k = 32 by omega, bl_start] at hown0
      obtain ⟨g, cap, rfl, hg1, hg2⟩ := hown0.form (by omega)
      have hd0 : decide ((k : Int) < 32) = false := decide_eq_false (by omega)
      clear hlt hk hg2 hown
      obtain ⟨wo, rfl⟩ : ∃ wo : World, wo = wr := ⟨_, rfl⟩
      go_wp2
      go_loopw [6] (fun i wr => ∃ m : Nat, m ≤ n ∧ i = .int .i64 m ∧ wr.ownsRow w1.heap.size 3 1 (.slice (some ⟨g, 0, none⟩) 32 cap) 32 (i64s (bl (reg ones (xs.take m)))) ∧ Below w1.heap.size w1 wr) (fun i _ => n - (intOf i).toNat)
      case atStart => exact ⟨0, by omega, rfl, hown0, hbl⟩
      case round =>
        obtain ⟨m, hm, rfl, hown2, hbl2⟩ := hrel
        clear hown0 hbl hszk
        by_cases hlt : m < n
        · obtain ⟨ad, u, rfl, hc, hu⟩ := (hx1.below hbl2).num hlt
          have hu1 := Hb.out u (List.mem_of_getElem? hu)
          obtain ⟨x, rfl⟩ := Int.eq_ofNat_of_zero_le hu1.1
          have hx256 : x < 256 := by omega
          obtain ⟨r0, hr0, hr1⟩ : ∃ r0, r0 = reg ones (xs.take m) ∧ r0 < 4294967296 := ⟨_, rfl, reg_lt ones_lt (fun y hy => Hb.out y (List.mem_of_mem_take hy))⟩
          have Hstep := Lib.hid (show reg ones (xs.take (m + 1)) = half8 (r0 ^^^ x) by rw [take_snoc _ _ _ hu, reg_snoc, hr0]; rfl)
          rw [← hr0] at hown2
          clear hu hu1 hr0
          obtain ⟨wp, rfl⟩ : ∃ wp : World, wp = wr := ⟨_, rfl⟩
          have hd : decide ((m : Int) < (n : Int)) = true := decide_eq_true (by omega)
          go_wp2
          go_loopw [7, 8] (fun v i wr => ∃ k q : Nat, k ≤ 8 ∧ i = .int .i64 k ∧ v = .int .i64 q ∧ q < 256 ∧ q = x / 2 ^ k ∧ wr.ownsRow w1.heap.size 3 1 (.slice (some ⟨g, 0, none⟩) 32 cap) 32 (i64s (mixTo (fun i => (bitN r0 i + bitN x i) % 2) (bitN r0) 32 k)) ∧ Below w1.heap.size w1 wr) (fun _ i _ => 8 - (intOf i).toNat)
          case atStart => exact ⟨0, x, by omega, rfl, rfl, hx256, by simp, by rw [mixTo_zero]; exact hown2, hbl2⟩
          case round =>
            obtain ⟨j, q, hj, rfl, rfl, hq256, hq, hown3, hbl3⟩ := hrel
            clear hown2 hbl2
            have Hq := Lib.hid hq
            clear hq
            by_cases hlt : j < 8
            · obtain ⟨u, hu, hu1⟩ : ∃ u, u = bitN r0 j ∧ 0 ≤ u ∧ u < 2 := ⟨_, rfl, bit_range _ _⟩
              have hcu : wr.cell? ⟨g, j, none⟩ = some (.int .i64 u) := own_cell hown3 (by omega) (by rw [hu]; exact mixTo_at _ _ (by omega) (by omega))
              have hfu := hown3.frozenAt j
              obtain ⟨z, hz, hz1⟩ : ∃ z : Int, z = (u + (q : Int) % 2) % 2 ∧ 0 ≤ z ∧ z < 2 := ⟨_, rfl, by omega⟩
              have hset := own_set hown3 (k := j) (u := z) (L' := mixTo (fun i => (bitN r0 i + bitN x i) % 2) (bitN r0) 32 (j + 1)) (by
                rw [hz, hu, Hq.out]
                exact mixTo_set (fun i => (bitN r0 i + bitN x i) % 2) (bitN r0) 32 j)
              have Hset := Lib.hid hset
              have hz' : (u + (q : Int) % 2) % 2 = z := hz.symm
              clear hu hset hz
              go_wp2
              go_roundw
              case rel => exact ⟨j + 1, q / 2, by omega, by go_num, val_int (by omega), by omega, by rw [Hq.out, Nat.div_div_eq_div_mul, Nat.pow_succ], Hset.out, hbl3.setCell (p := ⟨g, j, none⟩) hg1 _⟩
              case measure => simp [intOf] <;> omega
            · have hj8 : 8 ≤ j := by omega
              have hown4 := hown3
              rw [show j = 8 by omega, bl_byte r0 x hx256] at hown4
              obtain ⟨d0, hd0', hd1⟩ : ∃ d0, d0 = r0 ^^^ x ∧ d0 < 4294967296 := ⟨_, rfl, Nat.xor_lt_two_pow (n := 32) hr1 (by omega)⟩
              rw [← hd0'] at hown4 Hstep
              have hdj : decide ((j : Int) < 8) = false := decide_eq_false (by omega)
              clear hown3 hlt hj hd0' Hq
              obtain ⟨wq, rfl⟩ : ∃ wq : World, wq = wr := ⟨_, rfl⟩
              go_wp2
              go_loopw [9] (fun i wr => ∃ r : Nat, r ≤ 8 ∧ i = .int .i64 r ∧ wr.ownsRow w1.heap.size 3 1 (.slice (some ⟨g, 0, none⟩) 32 cap) 32 (i64s (bl (halves r d0))) ∧ Below w1.heap.size w1 wr) (fun i _ => 8 - (intOf i).toNat)
              case atStart => exact ⟨0, by omega, rfl, hown4, hbl3⟩
              case round =>
                obtain ⟨r, hr, rfl, hown5, hbl5⟩ := hrel
                clear hown4 hbl3
                by_cases hlt : r < 8
                · obtain ⟨d, hdd, hd2⟩ : ∃ d, d = halves r d0 ∧ d < 4294967296 := ⟨_, rfl, halves_lt hd1 r⟩
                  have Hnext := Lib.hid (show halves (r + 1) d0 = half d by rw [hdd]; rfl)
                  rw [← hdd] at hown5
                  clear hdd
                  obtain ⟨o, ho, ho1⟩ : ∃ o, o = bitN d 0 ∧ 0 ≤ o ∧ o < 2 := ⟨_, rfl, bit_range _ _⟩
                  have hc0 : wr.cell? ⟨g, 0, none⟩ = some (.int .i64 o) := own_cell hown5 (by omega) (by rw [ho]; exact bl_at d (by omega))
                  have Ho := Lib.hid (ho.trans (bit_low d))
                  clear ho
                  have hdr : decide ((r : Int) < 8) = true := decide_eq_true (by omega)
                  obtain ⟨ws, rfl⟩ : ∃ ws : World, ws = wr := ⟨_, rfl⟩
                  go_wp2
                  go_loopw [11] (fun i wr => ∃ k : Nat, k ≤ 31 ∧ i = .int .i64 k ∧ wr.ownsRow w1.heap.size 3 1 (.slice (some ⟨g, 0, none⟩) 32 cap) 32 (i64s (mixTo (fun i => bitN d (i + 1)) (bitN d) 32 k)) ∧ Below w1.heap.size w1 wr) (fun i _ => 31 - (intOf i).toNat)
                  case atStart => exact ⟨0, by omega, rfl, by rw [mixTo_zero]; exact hown5, hbl5⟩
                  case round =>
                    obtain ⟨y, hy, rfl, hown6, hbl6⟩ := hrel
                    clear hown5 hbl5
                    by_cases hlt : y < 31
                    · obtain ⟨u, hu⟩ : ∃ u, u = bitN d (y + 1) := ⟨_, rfl⟩
                      obtain ⟨u', hu'⟩ : ∃ u', u' = bitN d y := ⟨_, rfl⟩
                      have hcu : wr.cell? ⟨g, y + 1, none⟩ = some (.int .i64 u) := own_cell hown6 (by omega) (by rw [hu]; exact mixTo_at _ _ (by omega) (by omega))
                      have hcy : wr.cell? ⟨g, y, none⟩ = some (.int .i64 u') := own_cell hown6 (by omega) (by rw [hu']; exact mixTo_at _ _ (by omega) (by omega))
                      have hfu := hown6.frozenAt y
                      have Hset := Lib.hid (own_set hown6 (k := y) (u := u) (L' := mixTo (fun i => bitN d (i + 1)) (bitN d) 32 (y + 1)) (by
                        rw [hu]
                        exact mixTo_set (fun i => bitN d (i + 1)) (bitN d) 32 y))
                      clear hu hu'
                      go_wp2
                      go_roundw
                      case rel => exact ⟨y + 1, by omega, by go_num, Hset.out, hbl6.setCell (p := ⟨g, y, none⟩) hg1 _⟩
                      case measure => simp [intOf] <;> omega
                    · have hy31 : 31 ≤ y := by omega
                      have hown7 := hown6
                      rw [show y = 31 by omega] at hown7
                      obtain ⟨u', hu'⟩ : ∃ u', u' = bitN d 31 := ⟨_, rfl⟩
                      have hc31 : wr.cell? ⟨g, 31, none⟩ = some (.int .i64 u') := own_cell hown7 (by omega) (by rw [hu']; exact mixTo_at _ _ (by omega) (by omega))
                      have hf31 := hown7.frozenAt 31
                      have hset : (wr.setCell ⟨g, 31, none⟩ (.int .i64 0)).ownsRow w1.heap.size 3 1 (.slice (some ⟨g, 0, none⟩) 32 cap) 32 (i64s (bl (d / 2))) := own_set hown7 (bl_down d hd2)
                      have hblz : Below w1.heap.size w1 (wr.setCell ⟨g, 31, none⟩ (.int .i64 0)) := hbl6.setCell (p := ⟨g, 31, none⟩) hg1 _
                      have hdy : decide ((y : Int) < 31) = false := decide_eq_false (by omega)
                      clear hown6 hown7 hu' hlt hy
                      obtain ⟨wt, rfl⟩ : ∃ wt : World, wt = wr := ⟨_, rfl⟩
                      go_wp2
                      go_loopw [12] (fun i wr => ∃ z : Nat, z ≤ 32 ∧ i = .int .i64 z ∧ (o = 1 ∨ z = 0) ∧ wr.ownsRow w1.heap.size 3 1 (.slice (some ⟨g, 0, none⟩) 32 cap) 32 (i64s (mixTo (fun i => (bitN (d / 2) i + bitN poly i) % 2) (bitN (d / 2)) 32 z)) ∧ Below w1.heap.size w1 wr) (fun i _ => 32 - (intOf i).toNat)
                      case atStart => exact ⟨0, by omega, rfl, .inr rfl, by rw [mixTo_zero]; exact hset, hblz⟩
                      case round =>
                        obtain ⟨z, hz, rfl, hoz, hown8, hbl8⟩ := hrel
                        clear hset hblz hbl6
                        by_cases hgo : z < 32 ∧ o = 1
                        · obtain ⟨hlt, rfl⟩ := hgo
                          obtain ⟨u, hu, hu1⟩ : ∃ u, u = bitN (d / 2) z ∧ 0 ≤ u ∧ u < 2 := ⟨_, rfl, bit_range _ _⟩
                          have hcu : wr.cell? ⟨g, z, none⟩ = some (.int .i64 u) := own_cell hown8 (by omega) (by rw [hu]; exact mixTo_at _ _ (by omega) (by omega))
                          have hfu := hown8.frozenAt z
                          obtain ⟨at_, p, rfl, hct, hpt⟩ := (ht.below hbl8).num hlt
                          have hp : p = bitN poly z := by rw [bl_at poly hlt] at hpt; exact (Option.some.inj hpt).symm
                          have hp1 : 0 ≤ p ∧ p < 2 := by rw [hp]; exact bit_range _ _
                          obtain ⟨v, hv, hv1⟩ : ∃ v : Int, v = (u + p) % 2 ∧ 0 ≤ v ∧ v < 2 := ⟨_, rfl, by omega⟩
                          have Hset := Lib.hid (own_set hown8 (k := z) (u := v) (L' := mixTo (fun i => (bitN (d / 2) i + bitN poly i) % 2) (bitN (d / 2)) 32 (z + 1)) (by
                            rw [hv, hu, hp]
                            exact mixTo_set (fun i => (bitN (d / 2) i + bitN poly i) % 2) (bitN (d / 2)) 32 z))
                          have hv' : (u + p) % 2 = v := hv.symm
                          have hdz : decide ((z : Int) < 32) = true := decide_eq_true (by omega)
                          clear hu hv hp hpt
                          go_wp2
                          go_region
                          all_goals
                            go_wp2
                            go_roundw
                          case rel => exact ⟨z + 1, by omega, by go_num, .inl trivial, Hset.out.drew, (hbl8.setCell (p := ⟨g, z, none⟩) hg1 _).drew⟩
                          case measure => simp [intOf] <;> omega
                        · have hown9 : wr.ownsRow w1.heap.size 3 1 (.slice (some ⟨g, 0, none⟩) 32 cap) 32 (i64s (bl (half d))) := by
                            have ho := Ho.out
                            by_cases ho2 : o = 1
                            · rw [show z = 32 by omega, bl_turn d (by omega)] at hown8
                              exact hown8
                            · rw [show z = 0 by omega, mixTo_zero] at hown8
                              have h : i64s (bl (d / 2)) = i64s (bl (half d)) := by rw [bl_stay d (by omega)]
                              rw [← h]
                              exact hown8
                          rw [← Hnext.out] at hown9
                          clear hown8
                          by_cases h32 : z < 32
                          · have ho2 : ¬ o = 1 := fun h => hgo ⟨h32, h⟩
                            have hdz : decide ((z : Int) < 32) = true := decide_eq_true (by omega)
                            have hdo : (o == 1) = false := by simpa using ho2
                            clear hgo hoz
                            go_wp2
                            go_roundw
                            case rel => exact ⟨r + 1, by omega, by go_num, hown9, hbl8⟩
                            case measure => simp [intOf] <;> omega
                          · have hdz : decide ((z : Int) < 32) = false := decide_eq_false (by omega)
                            clear hgo hoz
                            go_wp2
                            go_roundw
                            case rel => exact ⟨r + 1, by omega, by go_num, hown9, hbl8⟩
                            case measure => simp [intOf] <;> omega
                · have hr8 : 8 ≤ r := by omega
                  have hown6 := hown5
                  rw [show r = 8 by omega, halves_eight, ← Hstep.out] at hown6
                  have hdr : decide ((r : Int) < 8) = false := decide_eq_false (by omega)
                  clear hown5 hlt hr
                  go_wp2
                  go_roundw
                  case rel => exact ⟨m + 1, by omega, by go_num, hown6, hbl5⟩
                  case measure => simp [intOf] <;> omega
        · have hmn : n ≤ m := by omega
          have hown3 := hown2
          rw [List.take_of_length_le (by rw [Hlen.out]; omega)] at hown3
          have hdm : decide ((m : Int) < (n : Int)) = false := decide_eq_false (by omega)
          obtain ⟨f, hf, hf1⟩ : ∃ f, f = reg ones xs ∧ f < 4294967296 := ⟨_, rfl, reg_lt ones_lt Hb.out⟩
          rw [← hf] at hown3
          have Hf := Lib.hid hf
          clear hown2 hlt hm hf
          obtain ⟨wp, rfl⟩ : ∃ wp : World, wp = wr := ⟨_, rfl⟩
          go_wp2
          go_loopw [13] (fun i wr => ∃ z : Nat, z ≤ 32 ∧ i = .int .i64 z ∧ wr.ownsRow w1.heap.size 3 1 (.slice (some ⟨g, 0, none⟩) 32 cap) 32 (i64s (mixTo (fun i => 1 - bitN f i) (bitN f) 32 z)) ∧ Below w1.heap.size w1 wr) (fun i _ => 32 - (intOf i).toNat)
          case atStart => exact ⟨0, by omega, rfl, by rw [mixTo_zero]; exact hown3, hbl2⟩
          case round =>
            obtain ⟨z, hz, rfl, hown4, hbl4⟩ := hrel
            clear hown3 hbl2
            by_cases hlt : z < 32
            · obtain ⟨u, hu, hu1⟩ : ∃ u, u = bitN f z ∧ 0 ≤ u ∧ u < 2 := ⟨_, rfl, bit_range _ _⟩
              have hcu : wr.cell? ⟨g, z, none⟩ = some (.int .i64 u) := own_cell hown4 (by omega) (by rw [hu]; exact mixTo_at _ _ (by omega) (by omega))
              have hfu := hown4.frozenAt z
              have Hset := Lib.hid (own_set hown4 (k := z) (u := 1 - u) (L' := mixTo (fun i => 1 - bitN f i) (bitN f) 32 (z + 1)) (by
                rw [hu]
                exact mixTo_set (fun i => 1 - bitN f i) (bitN f) 32 z))
              clear hu
              go_wp2
              go_roundw
              case rel => exact ⟨z + 1, by omega, by go_num, Hset.out, hbl4.setCell (p := ⟨g, z, none⟩) hg1 _⟩
              case measure => simp [intOf] <;> omega
            · rw [show z = 32 by omega, bl_ones, Hf.out] at hown4
              have hfin := own_base hown4 hsz1
              have hbw := hb1.trans (hbl4.mono hsz1)
              clear hown4
              go_wp2
              go_ret
              exact ⟨_, rfl, hfin, hbw⟩
end Go.Proofs.YtpmhjmbiiihfoaaDoor
