import Derived.Test.YtcfpjbbahpjhdaaRZag
import Derived.Test.YtcfpjbbahpjhdaaEnds
namespace Go.Proofs.Ytcfpjbbahpjhdaa
open Go.RowKit

theorem pad10_in {b : List Int} {s k : Nat} {u : Int} (h : s ≤ b.length) (hk : k < s) (hu : b[k]? = some u) : (pad10 b s)[k]? = some (u % 128) := by
  unfold pad10
  rw [List.getElem?_append_left (by rw [digs_length h]; omega)]
  unfold digs
  rw [List.getElem?_map, List.getElem?_take, if_pos hk, hu]; rfl
theorem pad10_out {b : List Int} {s k : Nat} (h : s ≤ b.length) (hk : s ≤ k) (h10 : k < 10) : (pad10 b s)[k]? = some 0 := by
  unfold pad10
  rw [List.getElem?_append_right (by rw [digs_length h]; omega), digs_length h, List.getElem?_replicate, if_pos (by omega)]

set_option maxHeartbeats 4000000 in
theorem rzag_any (A : Option Addr) (n c : Nat) (b : List Int) (w : World) (hx : Sl w A n (u8s b)) (hb : ∀ x ∈ b, 0 ≤ x ∧ x < 256) (hn : n ≤ 9223372036854775807) :
    Calls Try.prog 28 #[.slice A n c] w fun e w' => Below w.heap.size w w' ∧ e = .returned (.tuple #[.int .i64 (back (zTurned b)), .int .i64 (zSize b), .int .i64 (zErr b)]) := by
  have hlen : b.length = n := by simpa using hx.1
  have Hlen := Lib.hid hlen
  have Hb := Lib.hid hb
  clear hlen hb
  by_cases he : endErr b 10 = 0
  · obtain ⟨s1, s2, s3⟩ := end_good he
    have He := Lib.hid he
    clear he
    rw [Hlen.out] at s3
    obtain ⟨sz, hsz⟩ : ∃ sz, sz = endSize b 10 := ⟨_, rfl⟩
    rw [← hsz] at s1 s2 s3
    have Hz : Hid (endErr b 10 = 0 ∧ endSize b 10 = sz) := Lib.hid ⟨He.out, hsz.symm⟩
    clear hsz
    by_cases hbad : sz = 10 ∧ 1 < b.getD 9 0
    · obtain ⟨hb1, hb2⟩ := hbad
      have Hq : Hid (zErr b = 11 ∧ zSize b = 0) := Lib.hid (zbad_two Hz.out.1 (by rw [Hz.out.2]; omega) hb2)
      obtain ⟨ad, u, rfl, hc, hu⟩ := hx.num (k := 9) (by omega)
      have hu2 : 1 < u := by simp only [List.getD, hu] at hb2; exact hb2
      have hc : w.cell? ⟨ad.block, ad.off + 9, none⟩ = some (.int .u8 u) := hc
      clear hb2 hu
      subst hb1
      go_enter Try.func28, Try.ntmps28
      go_wp2_with (go_at_call 32; refine (ends_any _ _ _ _ 10 _ hx Hb.out hn (by omega)).mono ?_; rintro e w' ⟨rfl, rfl⟩; rw [Hz.out.1, Hz.out.2])
      go_ret3
      exact ⟨Below.refl _ _, ret_three (by rw [zTurned, Hq.out.2]; rfl) (by rw [Hq.out.2]; rfl) Hq.out.1.symm⟩
    · have hq : zErr b = 0 ∧ zSize b = sz := by
        by_cases h10 : sz = 10
        · have := zbad_one (b := b) (by omega)
          rw [this.1, this.2]; exact Hz.out
        · have := zbad_small (b := b) (by rw [Hz.out.2]; exact h10)
          rw [this.1, this.2]; exact Hz.out
      have hguard : sz ≠ 10 ∨ ∃ ad u, 10 ≤ sz ∧ A = some ad ∧ w.cell? ⟨ad.block, ad.off + 9, none⟩ = some (.int .u8 u) ∧ u ≤ 1 := by
        by_cases h10 : sz = 10
        · obtain ⟨ad, u, rfl, hc, hu⟩ := hx.num (k := 9) (by omega)
          refine .inr ⟨ad, u, by omega, rfl, hc, ?_⟩
          have h11 : ¬ 1 < b.getD 9 0 := fun h => hbad ⟨h10, h⟩
          simp only [List.getD, hu] at h11
          simp at h11
          exact h11
        · exact .inl h10
      obtain ⟨t, ht⟩ : ∃ t, t = zTurned b := ⟨_, rfl⟩
      have htr := zTurned_range Hb.out
      rw [← ht] at htr
      obtain ⟨t0, t1⟩ := htr
      have htv : t = val 128 (digs b sz) := by rw [ht, zTurned, hq.2]
      have Ht := Lib.hid ht
      have Htv := Lib.hid htv
      have Hq := Lib.hid hq
      clear hq hbad ht htv
      rw [← Ht.out]
      obtain ⟨i0, hi0, hz0, hz1, hz2⟩ := info_parts info_int
      have Hguard := Lib.hid hguard
      clear hguard
      go_enter Try.func28, Try.ntmps28
      go_wp2_with fail
      refine (ends_any _ _ _ _ 10 _ hx Hb.out hn (by omega)).mono ?_
      rintro e w' ⟨rfl, rfl⟩
      rw [Hz.out.1, Hz.out.2]
      have hgd : (∃ ad, A = some ad ∧ sz < 10 ∧ ((sz : Int) == 10) = false) ∨ (∃ ad u, A = some ad ∧ 10 ≤ sz ∧ ((sz : Int) == 10) = true ∧ w'.cell? ⟨ad.block, ad.off + 9, none⟩ = some (.int .u8 u) ∧ decide (1 < u) = false) := by
        obtain ⟨ad0, hA0, _⟩ := hx.at_ (k := 0) (by omega)
        rcases Hguard.out with hne | ⟨adg, ug, h10, hAg, hcg, hug⟩
        · exact .inl ⟨ad0, hA0, by omega, by simp; omega⟩
        · exact .inr ⟨adg, ug, hAg, h10, by simp; omega, hcg, by simpa using hug⟩
      clear Hguard
      rcases hgd with ⟨ad, rfl, hne, hbb⟩ | ⟨ad, ug, rfl, h10, hbb, hcg, hug⟩
      all_goals
        go_wp2
        go_loopw [7, 8] (fun v i wr => ∃ k : Nat, k ≤ 10 ∧ i = .int .i64 k ∧ wr.ownsRow w'.heap.size 3 1 v (7 * k) (i64s (((pad10 b sz).take k).flatMap fun x => bitsTo x 7)) ∧ Below w'.heap.size w' wr) (fun _ i _ => 10 - (intOf i).toNat)
        case atStart => exact ⟨0, by omega, rfl, World.ownsRow_nil _ _ _ _, Below.refl _ _⟩
        case round =>
          obtain ⟨k, hk, rfl, hown, hbl⟩ := hrel
          by_cases hlt : k < 10
          · have hsz := hbl.size
            have hd : decide ((k : Int) < 10) = true := decide_eq_true (by omega)
            have hcu : (k < sz ∧ ∃ u, wr.cell? (ad.add k) = some (.int .u8 u) ∧ 0 ≤ u ∧ u < 256 ∧ (pad10 b sz)[k]? = some (u % 128)) ∨ (sz ≤ k ∧ (pad10 b sz)[k]? = some 0) := by
              by_cases hks : k < sz
              · obtain ⟨ad', u, he', hc, hu⟩ := (hx.below hbl).num (k := k) (by omega)
                obtain rfl : ad = ad' := by simpa using he'
                have := Hb.out u (List.mem_of_getElem? hu)
                exact .inl ⟨hks, u, hc, this.1, this.2, pad10_in (by rw [Hlen.out]; omega) hks hu⟩
              · exact .inr ⟨by omega, pad10_out (by rw [Hlen.out]; omega) (by omega) hlt⟩
            have Hcu := Lib.hid hcu
            clear hcu
            obtain ⟨wo, rfl⟩ : ∃ wo : World, wo = wr := ⟨_, rfl⟩
            have hcase : (∃ u, k < sz ∧ decide (k < sz) = true ∧ wo.cell? (ad.add k) = some (.int .u8 u) ∧ 0 ≤ u ∧ u < 256 ∧ Hid ((pad10 b sz)[k]? = some (u % 128))) ∨ (∃ u : Int, Hid (u = 0) ∧ sz ≤ k ∧ decide (k < sz) = false ∧ Hid ((pad10 b sz)[k]? = some (u % 128))) := by
              rcases Hcu.out with ⟨h1, u, h2, h3, h4, h5⟩ | ⟨h1, h2⟩
              · exact .inl ⟨u, h1, by simp; omega, h2, h3, h4, Lib.hid h5⟩
              · exact .inr ⟨0, Lib.hid rfl, h1, by simp; omega, Lib.hid (by rw [h2]; rfl)⟩
            rcases hcase with ⟨u, hks, hdk, hc, u1, u2, Hp⟩ | ⟨u, hu0, hks, hdk, Hp⟩
            all_goals try (exfalso; omega)
            all_goals
              go_wp2
              go_loopw [7, 9, 10] (fun v q i wr => ∃ (j : Nat) (r : Int), j ≤ 7 ∧ i = .int .i64 j ∧ q = .int .i64 r ∧ 0 ≤ r ∧ r < 256 ∧ r = u % 128 / 2 ^ j ∧ wr.ownsRow w'.heap.size 3 1 v (7 * k + j) (i64s (((pad10 b sz).take k).flatMap (fun x => bitsTo x 7) ++ bitsTo (u % 128) j)) ∧ Below w'.heap.size w' wr) (fun _ _ i _ => 7 - (intOf i).toNat)
              case atStart => first | exact ⟨0, u % 128, by omega, rfl, rfl, by omega, by omega, by simp, by simpa [bitsTo] using hown, hbl⟩ | exact ⟨0, 0, by omega, rfl, rfl, by omega, by omega, by rw [hu0.out]; rfl, by simpa [bitsTo] using hown, hbl⟩
              case round =>
                obtain ⟨j, r, hj, rfl, rfl, r1, r2, hr, hown2, hbl2⟩ := hrel
                have Hr := Lib.hid hr
                clear hr
                by_cases hjl : j < 7
                · have hsz2 := hbl2.size
                  go_wp2_with (at_builtin; refine wpList_push _ _ 22 3 i0 _ _ 8 rfl rfl Try.underlying22 hi0 hz0 hz1 hz2 rfl w'.heap.size _ _ _ hown2 rfl rfl rfl (by omega) (by omega) hsz2 ?_; intro v' w2 hown3 hg2 hb2 hs2)
                  go_roundw
                  case rel =>
                    refine ⟨j + 1, r / 2, by omega, by go_num, rfl, by omega, by omega, by rw [Hr.out, half_pow], ?_, hbl2.trans hb2⟩
                    rw [bitsTo_succ, ← Hr.out, ← List.append_assoc]
                    simpa [i64s, Nat.add_assoc] using hown3
                  case measure => simp [intOf] <;> omega
                · obtain rfl : j = 7 := by omega
                  go_wp2
                  go_roundw
                  case rel =>
                    refine ⟨k + 1, by omega, by go_num, ?_, hbl2⟩
                    rw [take_snoc _ _ _ Hp.out, List.flatMap_append]
                    simpa [Nat.mul_add] using hown2
                  case measure => simp [intOf] <;> omega
          · have hk9 : 10 ≤ k := by omega
            rw [List.take_of_length_le (by rw [pad10_length b sz (by rw [Hlen.out]; omega) s2]; omega), flat7_is b sz (by rw [Hlen.out]; omega) s2, ← Htv.out] at hown
            obtain ⟨B, cB, rfl, hsl⟩ := own_form hown
            obtain ⟨bd, l0, rfl, hc0, hl0⟩ := hsl.num (k := 0) (by omega)
            rw [bitsTo_at t 70 0 (by omega)] at hl0
            have hl0' : l0 = t % 2 := by simpa using hl0.symm
            have hodd : (t % 2 = 1 ∧ (l0 == 1) = true) ∨ (t % 2 = 0 ∧ (l0 == 1) = false) := by
              rcases (show t % 2 = 1 ∨ t % 2 = 0 by omega) with h | h
              · exact .inl ⟨h, by rw [hl0', h]; rfl⟩
              · exact .inr ⟨h, by rw [hl0', h]; rfl⟩
            have Hl0 := Lib.hid hl0'
            have hl01 : 0 ≤ l0 ∧ l0 ≤ 1 := by omega
            have hc0 : wr.cell? bd = some (.int .i64 l0) := hc0
            clear hown hl0 hl0'
            obtain ⟨n1, n2⟩ := back_range t0 t1
            have hszr := hbl.size
            obtain ⟨wb, rfl⟩ : ∃ wb : World, wb = wr := ⟨_, rfl⟩
            go_wp2
            go_loopw [11, 12] (fun v i wq => ∃ k : Nat, k ≤ 63 ∧ i = .int .i64 ((k : Int) + 1) ∧ wq.ownsRow wb.heap.size 3 1 v k (i64s (bitsTo (back t) k)) ∧ Below wb.heap.size wb wq) (fun _ i _ => 64 - (intOf i).toNat)
            case atStart => exact ⟨0, by omega, by go_num, World.ownsRow_nil _ _ _ _, Below.refl _ _⟩
            case round =>
              obtain ⟨j, hk3, rfl, hown3, hbl3⟩ := hrel
              have hsz3 := hbl3.size
              have hc0' : wr.cell? bd = some (.int .i64 l0) := (hbl3.cell (World.block_lt_of_cell? wb _ hc0)).trans hc0
              by_cases hlt3 : j < 63
              · obtain ⟨bd', u, he', hc, hu⟩ := (hsl.below hbl3).num (k := j + 1) (by omega)
                obtain rfl : bd = bd' := by simpa using he'
                have hc : wr.cell? ⟨bd.block, bd.off + (j + 1), none⟩ = some (.int .i64 u) := hc
                rw [bitsTo_at t 70 (j + 1) (by omega)] at hu
                have hu' : u = t / 2 ^ (j + 1) % 2 := by simpa using hu.symm
                have hu1 : 0 ≤ u ∧ u ≤ 1 := by omega
                have Hu := Lib.hid hu'
                clear hu hu' he'
                rcases hodd with ⟨ho, hob⟩ | ⟨ho, hob⟩
                · have hbk := back_bit_odd j t0 ho
                  rw [← Hu.out] at hbk
                  have Hbk := Lib.hid hbk
                  clear hbk ho
                  go_wp2_with (at_builtin; refine wpList_push _ _ 22 3 i0 _ _ 8 rfl rfl Try.underlying22 hi0 hz0 hz1 hz2 rfl wb.heap.size _ _ _ hown3 rfl rfl rfl (by omega) (by omega) hsz3 ?_; intro v' w2 hown4 hg2 hb2 hs2)
                  go_roundw
                  case rel => exact ⟨j + 1, by omega, by go_num, by rw [bitsTo_succ, Hbk.out]; simpa [i64s] using hown4, hbl3.trans hb2⟩
                  case measure => simp [intOf] <;> omega
                · have hbk := back_bit_even j t0 ho
                  rw [← Hu.out] at hbk
                  have Hbk := Lib.hid hbk
                  clear hbk ho
                  go_wp2_with (at_builtin; refine wpList_push _ _ 22 3 i0 _ _ 8 rfl rfl Try.underlying22 hi0 hz0 hz1 hz2 rfl wb.heap.size _ _ _ hown3 rfl rfl rfl (by omega) (by omega) hsz3 ?_; intro v' w2 hown4 hg2 hb2 hs2)
                  go_roundw
                  case rel => exact ⟨j + 1, by omega, by go_num, by rw [bitsTo_succ, Hbk.out]; simpa [i64s] using hown4, hbl3.trans hb2⟩
                  case measure => simp [intOf] <;> omega
              · obtain rfl : j = 63 := by omega
                clear hodd
                go_wp2_with (at_builtin; refine wpList_push _ _ 22 3 i0 _ _ 8 rfl rfl Try.underlying22 hi0 hz0 hz1 hz2 rfl wb.heap.size _ _ _ hown3 rfl rfl rfl (by omega) (by omega) hsz3 ?_; intro v' w2 hown4 hg2 hb2 hs2; obtain ⟨B4, c4, rfl, hsl4⟩ := own_form hown4)
                have hbb := back_bit_last t0 t1
                rw [← Hl0.out] at hbb
                have hsl5 : Sl w2 B4 64 (i64s (bitsTo (back t) 64)) := by rw [bitsTo_succ, hbb]; simpa [i64s] using hsl4
                refine (number_any _ _ _ _ hsl5 (bits_bit _ _)).mono ?_
                rintro e w' ⟨rfl, rfl⟩
                rw [numOf_bits _ n1 n2]
                go_wp2
                go_ret3
                exact ⟨hbl.trans ((hbl3.trans hb2).mono hszr), ret_three rfl (by rw [Hq.out.2]) Hq.out.1.symm⟩
  · have He := Lib.hid he
    have hne : (endErr b 10 == 0) = false := by simpa using he
    have hne2 : (endErr b 10 != 0) = true := by simpa using he
    have Hz := Lib.hid (zbad_err he)
    clear he
    go_enter Try.func28, Try.ntmps28
    go_wp2_with (go_at_call 32; refine (ends_any _ _ _ _ 10 _ hx Hb.out hn (by omega)).mono ?_; rintro e w' ⟨rfl, rfl⟩)
    go_ret3
    exact ⟨Below.refl _ _, ret_three (by rw [zTurned, Hz.out.2]; rfl) (by rw [Hz.out.2]; rfl) Hz.out.1.symm⟩
end Go.Proofs.Ytcfpjbbahpjhdaa
