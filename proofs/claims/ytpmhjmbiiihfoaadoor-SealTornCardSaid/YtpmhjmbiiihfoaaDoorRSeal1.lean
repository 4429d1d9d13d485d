/- The document's sealed sectors: Bytes and Make. -/
import Derived.Test.YtpmhjmbiiihfoaaDoorSeal0
import Derived.Test.YtpmhjmbiiihfoaaDoorCrcBytes
import Derived.Test.YtpmhjmbiiihfoaaDoorSame
namespace Go.Proofs.YtpmhjmbiiihfoaaDoor
open Go.RowKit Go.Deep
set_option linter.unusedSimpArgs false
set_option linter.unusedVariables false

theorem own_cat {w : World} {base n k : Nat} {e : TypeId} {v : Value} {xs ys : List Int} (h : w.ownsRow base e 1 v n (u8s xs ++ u8s ys)) (hk : n = k) : w.ownsRow base e 1 v k (u8s (xs ++ ys)) := by
  subst hk
  unfold u8s
  rw [List.map_append]
  exact h
theorem four_take (s j : Nat) (hj : j < 4) : (four s).take (j + 1) = (four s).take j ++ [((s / 256 ^ j % 256 : Nat) : Int)] := by
  match j, hj with
  | 0, _ => simp [four]
  | 1, _ => simp [four]
  | 2, _ => simp [four]
  | 3, _ => simp [four]

set_option maxRecDepth 100000 in
set_option maxHeartbeats 3200000 in
theorem rbytes_any (kind n : Int) (hk : 1 ≤ kind ∧ kind ≤ 255) (hn : 0 ≤ n ∧ n ≤ 9223372036854775807) (A : Option Addr) (m c : Nat) (load : List Int) (w : World) (hx : Sl w A m (u8s load)) (hb : Bytes load) (hm : m ≤ 113) :
    Calls Tryd.prog 18 #[.int .i64 kind, .int .i64 n, .slice A m c] w fun e w' => ∃ B cc, e = .returned (.slice B 128 cc) ∧ Sl w' B 128 (u8s (sealed kind n load)) ∧ Below w.heap.size w w' := by
  have hlen : load.length = m := by simpa using hx.1
  obtain ⟨i0, hi0, hz0, hz1, hz2⟩ := info_parts info_u8
  have hk8 : kind % 256 = kind := by omega
  have hm8 : (m : Int) % 256 = (m : Int) := by omega
  have Hlen := Lib.hid hlen
  have Hk := Lib.hid hk
  have Hb := Lib.hid hb
  clear hlen hk hb
  have hh := head_len kind n (load := load) (by rw [Hlen.out]; exact hm)
  have Hhb := Lib.hid (head_bytes (n := n) Hk.out (by rw [Hlen.out]; exact hm) Hb.out)
  obtain ⟨hd, hhd⟩ : ∃ hd, hd = headOf kind n load := ⟨_, rfl⟩
  rw [← hhd] at hh Hhb
  have Hhd := Lib.hid hhd
  have Hhh := Lib.hid hh
  clear hhd hh
  have hs1 : (w.alloc (.cells #[.int .u8 kind] 5)).ownsRow w.heap.size 5 1 (.slice (some ⟨w.heap.size, 0, none⟩) 1 1) 1 (u8s [kind]) := own_new w 5 (u8s [kind]) 1 rfl (by omega)
  have hb1 := below_alloc w (.cells #[.int .u8 kind] 5)
  obtain ⟨w1, hw1⟩ : ∃ w1, w1 = w.alloc (.cells #[.int .u8 kind] 5) := ⟨_, rfl⟩
  rw [← hw1] at hs1 hb1
  have hsz1 := hb1.size
  have Hw1 := Lib.hid hw1
  clear hw1
  go_enter Tryd.func18, Tryd.ntmps18
  go_wp2_with fail
  rw [← Hw1.out]
  refine (rput_any n w1 (by omega) hn.2).mono ?_
  rintro e w2 ⟨v2, rfl, hown2, hb2⟩
  obtain ⟨A2, c2, rfl, hsl2⟩ := own_form hown2
  clear hown2
  have hs2 := own_below hs1 hb2
  have hbt2 : Below w.heap.size w w2 := hb1.trans (hb2.mono hsz1)
  have hsz2 := hbt2.size
  go_wp2_with (first
    | (at_builtin; refine wpList_cat (.tmp 13) (.tmp 15) 22 5 i0 _ 1 rfl rfl Tryd.underlying22 hi0 hz0 hz1 hz2 rfl w.heap.size _ _ _ hs2 _ _ _ _ hsl2 rfl rfl ints_one (by omega) (by omega) hsz2 ?_; intro v3 w3 hown3 hg3 hb3 hz3; replace hown3 : w3.ownsRow w.heap.size 5 1 v3 9 (u8s ([kind] ++ bytesOf n)) := own_cat hown3 rfl; obtain ⟨A3, c3, rfl, _⟩ := own_form hown3; have hbt3 := hbt2.trans hb3; have hsz3 := hbt3.size)
    | (at_builtin; refine wpList_push (.tmp 17) (.tmp 21) 22 5 i0 _ (.int .u8 (m : Int)) 1 rfl rfl Tryd.underlying22 hi0 hz0 hz1 hz2 rfl w.heap.size _ _ _ hown3 rfl rfl rfl (by omega) (by omega) hsz3 ?_; intro v4 w4 hown4 hg4 hb4 hz4; replace hown4 : w4.ownsRow w.heap.size 5 1 v4 10 (u8s ([kind] ++ bytesOf n ++ [(m : Int)])) := own_cat (ys := [(m : Int)]) hown4 rfl; obtain ⟨A4, c4, rfl, _⟩ := own_form hown4; have hbt4 := hbt3.trans hb4; have hsz4 := hbt4.size; have hx4 := hx.below hbt4)
    | (at_builtin; refine wpList_cat (.tmp 23) (.tmp 24) 22 5 i0 _ 1 rfl rfl Tryd.underlying22 hi0 hz0 hz1 hz2 rfl w.heap.size _ _ _ hown4 _ _ _ _ hx4 rfl rfl ints_one (by omega) (by omega) hsz4 ?_; intro v5 w5 hown5 hg5 hb5 hz5; replace hown5 : w5.ownsRow w.heap.size 5 1 v5 (10 + m) (u8s ([kind] ++ bytesOf n ++ [(m : Int)] ++ load)) := own_cat hown5 rfl; obtain ⟨A5, c5, rfl, _⟩ := own_form hown5; have hbt5 := hbt4.trans hb5; have hsz5 := hbt5.size))
  obtain ⟨pre, hpre⟩ : ∃ pre, pre = [kind] ++ bytesOf n ++ [(m : Int)] ++ load := ⟨_, rfl⟩
  rw [← hpre] at hown5
  have Hpre := Lib.hid hpre
  have Hown5 := Lib.hid hown5
  clear hpre hown5 hown4 hown3 hs2 hs1 hsl2 hx4 hx hb1 hb2 hb3 hb4 hb5 hg3 hg4 hg5 hbt2 hbt3 hbt4
  go_loopw [7] (fun v wr => ∃ (k : Nat), k ≤ 113 - m ∧ wr.ownsRow w.heap.size 5 1 v (10 + m + k) (u8s (pre ++ List.replicate k 0)) ∧ Below w.heap.size w wr) (fun v _ => 123 - (match v with | .slice _ l _ => l | _ => 0))
  case atStart => exact ⟨0, Nat.zero_le _, by simpa using Hown5.out, hbt5⟩
  case round =>
    clear Hown5 hbt5
    obtain ⟨k, hk, hown, hbl⟩ := hrel
    obtain ⟨B, cc, rfl, _⟩ := own_form hown
    have hsz := hbl.size
    by_cases hlt : k < 113 - m
    · have hlI : decide (((10 + m + k : Nat) : Int) < 123) = true := decide_eq_true (by omega)
      go_wp2_with (at_builtin; refine wpList_push (.tmp 29) (.tmp 30) 22 5 i0 _ (.int .u8 0) 1 rfl rfl Tryd.underlying22 hi0 hz0 hz1 hz2 rfl w.heap.size _ _ _ hown rfl rfl rfl (by omega) (by omega) hsz ?_; intro v6 w6 hown6 hg6 hb6 hz6; obtain ⟨A6, c6, rfl, _⟩ := own_form hown6)
      go_roundw
      case rel => exact ⟨k + 1, by omega, by rw [List.replicate_succ', ← List.append_assoc]; simpa [Nat.add_assoc] using hown6, hbl.trans hb6⟩
      case measure => simp <;> omega
    · obtain hk0 : k = 113 - m := by omega
      have hpad : pre ++ List.replicate k 0 = hd := by
        rw [hk0, Hpre.out, Hhd.out, headOf, Hlen.out]; simp
      rw [hpad] at hown
      obtain ⟨k9, hk9⟩ : ∃ k9, k9 = 10 + m + k := ⟨_, rfl⟩
      have hk9' : k9 = 123 := by omega
      rw [← hk9] at hown ⊢
      subst hk9'
      clear hk9 hlt hk0 hpad hk
      obtain ⟨s, hs⟩ : ∃ s, s = sumOf hd := ⟨_, rfl⟩
      have hs32 : s < 4294967296 := by rw [hs]; exact sum_lt Hhb.out
      have Hs := Lib.hid hs
      clear hs
      obtain ⟨A6, c6, e6, hs6⟩ := own_form hown
      simp only [Value.slice.injEq] at e6
      obtain ⟨rfl, _, rfl⟩ := e6
      obtain ⟨wo, hwo⟩ : ∃ wo : World, wo = wr := ⟨_, rfl⟩
      rw [← hwo] at hown hbl hsz hs6 ⊢
      clear hwo
      go_wp2_with fail
      refine (rsum_is s B 123 cc hd wo hs6 Hhb.out (by omega) Hs.out).mono ?_
      rintro e w7 ⟨rfl, hb7⟩
      have hown7 := own_below hown hb7
      have hbt7 : Below w.heap.size w w7 := hbl.trans (hb7.mono hsz)
      clear hown hbl hs6 hb7
      go_wp2_with fail
      go_loopw [7, 8, 9] (fun v sv iv wr => ∃ (j q : Nat), j ≤ 4 ∧ iv = .int .i64 j ∧ sv = .int .i64 q ∧ q = s / 256 ^ j ∧ wr.ownsRow w.heap.size 5 1 v (123 + j) (u8s (hd ++ (four s).take j)) ∧ Below w.heap.size w wr) (fun _ _ iv _ => 4 - (intOf iv).toNat)
      case atStart => exact ⟨0, s, Nat.zero_le _, rfl, rfl, by simp, by simpa using hown7, hbt7⟩
      case round =>
        clear hown7 hbt7
        obtain ⟨j, q, hj, rfl, rfl, hq, hown, hbl⟩ := hrel
        obtain ⟨B8, c8, rfl, _⟩ := own_form hown
        have hsz8 := hbl.size
        have hqs : q ≤ s := by rw [hq]; exact Nat.div_le_self _ _
        have Hq := Lib.hid hq
        clear hq
        by_cases hlt : j < 4
        · have hlI : (j : Int) < 4 := by omega
          obtain ⟨u, hu, hu2⟩ : ∃ u : Nat, u = q % 256 ∧ u < 256 := ⟨_, rfl, by omega⟩
          obtain ⟨q2, hq2, hq3⟩ : ∃ q2 : Nat, q2 = q / 256 ∧ q2 < 4294967296 := ⟨_, rfl, by omega⟩
          have h1 : Int.tmod (q : Int) 256 = (u : Int) := by rw [Int.tmod_eq_emod_of_nonneg (by omega), hu]; rfl
          have h2 : (q : Int) % 256 = (u : Int) := by omega
          have h3 : Int.tdiv (q : Int) 256 = (q2 : Int) := by rw [Int.tdiv_eq_ediv_of_nonneg (by omega), hq2]; rfl
          have h4 : (q : Int) / 256 = (q2 : Int) := by omega
          have h5 : (u : Int) % 256 = (u : Int) := by omega
          have Hu := Lib.hid hu; have Hq2 := Lib.hid hq2
          clear hu hq2
          go_wp2_with (at_builtin; refine wpList_push (.tmp 38) (.tmp 42) 22 5 i0 _ (.int .u8 (u : Int)) 1 rfl rfl Tryd.underlying22 hi0 hz0 hz1 hz2 rfl w.heap.size _ _ _ hown rfl rfl rfl (by omega) (by omega) hsz8 ?_; intro v9 w9 hown9 hg9 hb9 hz9; obtain ⟨A9, c9, rfl, _⟩ := own_form hown9)
          go_roundw
          case rel =>
            refine ⟨j + 1, q2, by omega, by go_num, rfl, by rw [Hq2.out, Hq.out, Nat.div_div_eq_div_mul, Nat.pow_succ], ?_, hbl.trans hb9⟩
            rw [four_take s j hlt, ← List.append_assoc, ← Hq.out, ← Hu.out]
            exact own_cat (ys := [(u : Int)]) hown9 (by omega)
          case measure => simp [intOf]; omega
        · obtain hj4 : j = 4 := by omega
          subst hj4
          rw [List.take_of_length_le (by rw [four_len]; omega)] at hown
          go_wp2_with (at_builtin; refine wpList_push (.tmp 46) (.tmp 47) 22 5 i0 _ (.int .u8 215) 1 rfl rfl Tryd.underlying22 hi0 hz0 hz1 hz2 rfl w.heap.size _ _ _ hown rfl rfl rfl (by omega) (by omega) hsz8 ?_; intro v9 w9 hown9 hg9 hb9 hz9; obtain ⟨A9, c9, rfl, hs9⟩ := own_form hown9)
          go_ret
          have h9 := own_cat (ys := [215]) hown9 rfl (k := 128)
          obtain ⟨A10, c10, e10, hs10⟩ := own_form h9
          simp only [Value.slice.injEq] at e10
          obtain ⟨rfl, _, rfl⟩ := e10
          refine ⟨_, _, rfl, ?_, hbl.trans hb9⟩
          rw [sealed, sealOf, ← Hhd.out, ← Hs.out, ← List.append_assoc]
          exact hs10
end Go.Proofs.YtpmhjmbiiihfoaaDoor
