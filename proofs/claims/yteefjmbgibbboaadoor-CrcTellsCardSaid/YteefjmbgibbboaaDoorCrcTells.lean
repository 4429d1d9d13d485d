import Derived.Test.YteefjmbgibbboaaDoorTells
import Derived.Test.YteefjmbgibbboaaDoorSame
import Derived.StillTailTactics
namespace Go.Proofs.YteefjmbgibbboaaDoor
open Go.RowKit

theorem same_is (q : Bool) (A B : Option Addr) (n m c d : Nat) (xs ys : List Int) (w : World) (hx : Sl w A n (u8s xs)) (hy : Sl w B m (u8s ys)) (hn : n ≤ 9223372036854775807) (hm : m ≤ 9223372036854775807) (hq : q = decide (xs = ys)) :
    Calls Tryd.prog 13 #[.slice A n c, .slice B m d] w fun e w' => e = .returned (.bool q) ∧ Below w.heap.size w w' := by
  rw [hq]
  exact (same_any A B n m c d xs ys w hx hy hn hm).mono fun e w' ⟨h, k, hk⟩ => ⟨h, by rw [hk]; exact below_drewN (Below.refl _ _) k⟩

set_option maxHeartbeats 1600000 in
theorem crcTells_walk (w : World) (ht : Tabs w) (A : Option Addr) (n c : Nat) (xs : List Int) (hx : Sl w A n (u8s xs)) (hxb : Bytes xs) (hn : n ≤ 9223372036854775807)
    (at_ : Int) (hat : 0 ≤ at_ ∧ at_ ≤ 65535) (a b c' d : Int) (hy : (0 ≤ a ∧ a < 256) ∧ (0 ≤ b ∧ b < 256) ∧ (0 ≤ c' ∧ c' < 256) ∧ (0 ≤ d ∧ d < 256)) :
    Calls Tryd.prog 6 #[.slice A n c, .int .u16 at_, .agg #[.int .u8 a, .int .u8 b, .int .u8 c', .int .u8 d]] w fun e w' => e = .returned (.bool true) ∧ Below w.heap.size w w' := by
  obtain ⟨i0, hi0, hz0, hz1, hz2⟩ := info_parts info_u8
  have hlen : xs.length = n := by simpa using hx.1
  have Hlen := Lib.hid hlen
  have Hxb := Lib.hid hxb
  have Hyb := Lib.hid (show Bytes [a, b, c', d] by intro u hu; simp at hu; rcases hu with rfl | rfl | rfl | rfl; exact hy.1; exact hy.2.1; exact hy.2.2.1; exact hy.2.2.2)
  obtain ⟨at_, rfl⟩ := Int.eq_ofNat_of_zero_le hat.1
  have hat2 : at_ ≤ 65535 := by omega
  have hbox : ∀ j y, [a, b, c', d][j]? = some y → (w.alloc (.cells #[.int .u8 a, .int .u8 b, .int .u8 c', .int .u8 d] 25)).cell? ⟨w.heap.size, j, none⟩ = some (.int .u8 y) := by
    intro j y hj
    rw [cell_of_row _ w.heap.size j #[.int .u8 a, .int .u8 b, .int .u8 c', .int .u8 d] 25 (0, 0) (heap_alloc_new w _)]
    match j, hj with
    | 0, hj => simp at hj; subst hj; rfl
    | 1, hj => simp at hj; subst hj; rfl
    | 2, hj => simp at hj; subst hj; rfl
    | 3, hj => simp at hj; subst hj; rfl
  have Hbox := Lib.hid hbox
  have htb := ht.below (below_alloc w (.cells #[.int .u8 a, .int .u8 b, .int .u8 c', .int .u8 d] 25))
  have hxb2 := hx.below (below_alloc w (.cells #[.int .u8 a, .int .u8 b, .int .u8 c', .int .u8 d] 25))
  have Htb := Lib.hid htb
  clear hlen hxb hy hat hbox ht hx htb
  go_enter Tryd.func6, Tryd.ntmps6
  go_wp2_with fail
  refine (awake_any _ Htb.out).mono ?_
  rintro e w1 ⟨rfl, hb1⟩
  have hbw : Below w.heap.size w w1 := (below_alloc w (.cells #[.int .u8 a, .int .u8 b, .int .u8 c', .int .u8 d] 25)).trans (hb1.mono (by simp))
  have hx1 := hxb2.below hb1
  have Ht1 := Lib.hid (Htb.out.below hb1)
  have hlt1 : w.heap.size < w1.heap.size := by have := hb1.size; simp at this; omega
  have Hbox1 : Hid (∀ j y, [a, b, c', d][j]? = some y → w1.cell? ⟨w.heap.size, j, none⟩ = some (.int .u8 y)) :=
    Lib.hid fun j y hj => (hb1.cell (World.block_lt_of_cell? _ _ (Hbox.out j y hj))).trans (Hbox.out j y hj)
  clear Hbox Htb hxb2 hb1
  obtain ⟨ys, hys⟩ : ∃ ys, ys = [a, b, c', d] := ⟨_, rfl⟩
  have hyl : ys.length = 4 := by rw [hys]; rfl
  rw [← hys] at Hbox1 Hyb
  clear hys
  by_cases h1 : 300 < n
  · go_wp2_with fail
    go_ret
    exact ⟨rfl, hbw⟩
  · by_cases h2 : n < 4
    · go_wp2_with fail
      go_ret
      exact ⟨rfl, hbw⟩
    · obtain ⟨k, hk, hk4⟩ : ∃ k : Nat, k = at_ % (n - 3) ∧ k + 4 ≤ n := ⟨_, rfl, by have := Nat.mod_lt at_ (show 0 < n - 3 by omega); omega⟩
      have hkt : Int.tmod (at_ : Int) ((n : Int) - 3) = (k : Int) := by
        rw [Int.tmod_eq_emod_of_nonneg (by omega), show (n : Int) - 3 = ((n - 3 : Nat) : Int) by omega, hk]; rfl
      have hke : (at_ : Int) % ((n : Int) - 3) = (k : Int) := by
        rw [show (n : Int) - 3 = ((n - 3 : Nat) : Int) by omega, hk]; rfl
      clear hk
      have ho0 : (w1.alloc (.cells #[] 5)).ownsRow w1.heap.size 5 1 (.slice (some ⟨w1.heap.size, 0, none⟩) 0 0) 0 [] := own_new w1 5 [] 0 rfl (by omega)
      have hx2 := hx1.below (below_alloc w1 (.cells #[] 5))
      have hz2' : w1.heap.size ≤ (w1.alloc (.cells #[] 5)).heap.size := by simp
      go_wp2_with (at_builtin; refine wpList_cat (.tmp 20) (.tmp 21) 22 5 i0 _ 1 rfl rfl Tryd.underlying22 hi0 hz0 hz1 hz2 rfl w1.heap.size _ _ _ ho0 _ _ _ _ hx2 rfl rfl ints_one (by omega) (by omega) hz2' ?_; intro v3 w3 hown3 hg3 hb3 hz3; obtain ⟨g, cap, rfl, hg1, hg2⟩ := hown3.form (by omega))
      have hb3' : Below w1.heap.size w1 w3 := (below_alloc w1 (.cells #[] 5)).trans hb3
      have hown4 : w3.ownsRow w1.heap.size 5 1 (.slice (some ⟨g, 0, none⟩) n cap) n (u8s xs) := by simpa using hown3
      clear hown3 hb3 hg3 hx2 hz2' ho0 hz3
      go_loopw [29] (fun i wr => ∃ j : Nat, j ≤ 4 ∧ i = .int .i64 j ∧ wr.ownsRow w1.heap.size 5 1 (.slice (some ⟨g, 0, none⟩) n cap) n (u8s (flipTo xs k ys j)) ∧ Below w1.heap.size w1 wr) (fun i _ => 4 - (intOf i).toNat)
      case atStart => exact ⟨0, by omega, rfl, by rw [flip_zero]; exact hown4, hb3'⟩
      case round =>
        obtain ⟨j, hj, rfl, hown, hbl⟩ := hrel
        by_cases hlt : j < 4
        · obtain ⟨x, hxk⟩ : ∃ x, xs[k + j]? = some x := ⟨_, List.getElem?_eq_getElem (by rw [Hlen.out]; omega)⟩
          obtain ⟨kj, hkj⟩ : ∃ kj, kj = k + j := ⟨_, rfl⟩
          have hkjn : kj < n := by omega
          have hkw : IntKind.i64.wrap ((k : Int) + (j : Int)) = (kj : Int) := by rw [IntKind.wrap_i64]; omega
          obtain ⟨y, hyj⟩ : ∃ y, ys[j]? = some y := ⟨_, List.getElem?_eq_getElem (by omega)⟩
          have hc : wr.cell? ⟨g, kj, none⟩ = some (.int .u8 x) := by
            rw [hkj, hown.cellAt (k + j) (by omega), List.getElem?_map, flip_at hxk (by omega)]; rfl
          have hf := hown.frozenAt kj
          have hbox : wr.cell? ⟨w.heap.size, j, none⟩ = some (.int .u8 y) := (hbl.cell hlt1).trans (Hbox1.out j y hyj)
          have hx2 := Hxb.out x (List.mem_of_getElem? hxk)
          have hy2 := Hyb.out y (List.mem_of_getElem? hyj)
          have Hset := Lib.hid (flip_set hxk hyj)
          obtain ⟨x, rfl⟩ := Int.eq_ofNat_of_zero_le hx2.1
          obtain ⟨y, rfl⟩ := Int.eq_ofNat_of_zero_le hy2.1
          simp only [Int.toNat_natCast] at Hset
          obtain ⟨z, hz, hz1⟩ : ∃ z : Nat, z = x ^^^ y ∧ z < 256 := ⟨_, rfl, Nat.xor_lt_two_pow (n := 8) (by omega) (by omega)⟩
          have hzx : bits .xor .u8 (x : Int) (y : Int) = (z : Int) := by rw [u8_xor_nat _ _ (by omega) (by omega), hz]
          rw [← hz, ← hkj] at Hset
          have hst := hown.stored kj (.int .u8 (z : Int))
          clear hz hxk hyj hkj
          have hd : decide ((j : Int) < 4) = true := decide_eq_true (by omega)
          go_wp2
          go_region
          all_goals
            go_wp2
            go_roundw
          case rel =>
            refine ⟨j + 1, by omega, by go_num, ?_, (hbl.setCell (p := ⟨g, kj, none⟩) hg1 _).drew⟩
            have h := hst.1
            rw [← List.map_set, Hset.out] at h
            exact h.drew
          case measure => simp [intOf] <;> omega
        · obtain rfl : j = 4 := by omega
          have hbw4 := hbw.trans (hbl.mono (by omega))
          have hsz4 := hbw4.size
          have hx4 := hx1.below hbl
          have Ht4 := Lib.hid (Ht1.out.below hbl)
          obtain ⟨A4, cap4, hv4, hs4⟩ := own_form hown
          simp only [Value.slice.injEq] at hv4
          obtain ⟨rfl, _, rfl⟩ := hv4
          have Hz := Lib.hid (flip_bytes (k := k) (j := 4) Hxb.out Hyb.out)
          have hout : ∀ i, ¬ (k ≤ i ∧ i < k + 4) → (flipTo xs k ys 4)[i]? = xs[i]? := fun i hi => flip_out hi
          have Htell := Lib.hid (sum_tells (flip_length xs k ys 4) (by rw [Hlen.out]; omega) Hxb.out Hz.out hout)
          clear hout hown hown4 hb3' hbl hx1 Hbox1 hyl hkt hke
          generalize flipTo xs k ys 4 = zs at *
          obtain ⟨ra, hra, hra2⟩ : ∃ r, r = sumOf xs ∧ r < 4294967296 := ⟨_, rfl, sum_lt Hxb.out⟩
          obtain ⟨rb, hrb, hrb2⟩ : ∃ r, r = sumOf zs ∧ r < 4294967296 := ⟨_, rfl, sum_lt Hz.out⟩
          have heq : ∃ q : Bool, q = decide (xs = zs) ∧ ((ra : Int) == (rb : Int)) = q := by
            refine ⟨_, rfl, ?_⟩
            by_cases h : xs = zs
            · rw [decide_eq_true h, hra, hrb, h]; simp
            · rw [decide_eq_false h]
              have : ¬ ra = rb := fun e => h (Htell.out (by rw [← hra, ← hrb]; exact e))
              simp; omega
          obtain ⟨q, hq, hqe⟩ := heq
          have Hra := Lib.hid hra; have Hrb := Lib.hid hrb; have Hq := Lib.hid hq
          clear hra hrb hq Htell
          go_wp2_with fail
          refine (sum_one_is ra A n c xs wr _ Ht4.out hx4 Hxb.out (by omega) Hra.out).mono ?_
          rintro e w5 ⟨rfl, hb5⟩
          go_wp2_with fail
          refine (sum_one_is rb (some ⟨g, 0, none⟩) n cap zs w5 _ (Ht4.out.below hb5) (hs4.below hb5) Hz.out (by omega) Hrb.out).mono ?_
          rintro r w6 ⟨rfl, hn6⟩
          have hb6 := hb5.trans (hn6.mono hb5.size)
          clear hn6
          go_wp2_with fail
          refine (same_is q A (some ⟨g, 0, none⟩) n n c cap xs zs w6 (hx4.below hb6) (hs4.below hb6) (by omega) (by omega) Hq.out).mono ?_
          rintro r w7 ⟨rfl, hn7⟩
          have hb7 := hb6.trans (hn7.mono hb6.size)
          clear hn7
          go_wp2_with fail
          go_ret
          exact ⟨rfl, hbw4.trans (hb7.mono hsz4)⟩
end Go.Proofs.YteefjmbgibbboaaDoor
