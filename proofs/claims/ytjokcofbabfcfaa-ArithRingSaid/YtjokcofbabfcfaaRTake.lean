import Derived.Test.YtjokcofbabfcfaaRHigh
namespace Go.Proofs.Ytjokcofbabfcfaa
open Go.RowKit

/-- One number taken from another one, from the j-th bit on. -/
structure Taken (X Y : List Int) (n j : Nat) (bo : Int) (T : List Int) : Prop where
  len : T.length = n - j
  bits : Bit2 T
  borrow : 0 ≤ bo ∧ bo < 2
  eq : hv T = hv (X.drop j) - hv (Y.drop j) + 2 ^ (n - j) * bo
theorem Taken.start {X Y : List Int} {n : Nat} (hx : X.length = n) (hy : Y.length = n) : Taken X Y n n 0 [] :=
  ⟨by simp, (fun x h => nomatch h), by omega, by rw [List.drop_of_length_le (by omega), List.drop_of_length_le (by omega)]; simp [hv_nil]⟩
theorem Taken.next {X Y : List Int} {n j : Nat} {bo : Int} {T : List Int} (h : Taken X Y n (j + 1) bo T) (hj : j < n) (hlx : X.length = n) (hly : Y.length = n) {x y z b2 : Int} (hx : X[j]? = some x) (hy : Y[j]? = some y)
    (hz : z = x - y - bo + 2 * b2) (hz1 : 0 ≤ z ∧ z < 2) (hb2 : 0 ≤ b2 ∧ b2 < 2) : Taken X Y n j b2 (z :: T) := by
  refine ⟨by simp [h.len]; omega, ?_, hb2, ?_⟩
  · intro u hu
    simp only [List.mem_cons] at hu
    rcases hu with rfl | hu
    · exact hz1
    · exact h.bits u hu
  · rw [drop_at X j x hx, drop_at Y j y hy, hv_cons, hv_cons, hv_cons, h.len, List.length_drop, List.length_drop, hlx, hly, h.eq, hz, show n - j = n - (j + 1) + 1 by omega, Int.pow_succ]
    generalize (2 : Int) ^ (n - (j + 1)) = p
    have e1 : p * (x - y - bo + 2 * b2) = p * x - p * y - p * bo + p * 2 * b2 := by
      rw [Int.mul_add, Int.mul_sub, Int.mul_sub, Int.mul_assoc]
    omega
theorem Taken.full {X Y : List Int} {n : Nat} {bo : Int} {T : List Int} (h : Taken X Y n 0 bo T) (hx : X.length = n) (hle : hv Y ≤ hv X) : hv T = hv X - hv Y := by
  have e := h.eq
  have hr := hv_range h.bits
  rw [h.len] at hr
  have hb := h.borrow
  simp only [List.drop_zero, Nat.sub_zero] at e hr
  generalize (2 : Int) ^ n = p at *
  rcases (show bo = 0 ∨ bo = 1 by omega) with rfl | rfl <;> omega

theorem set_mid {X T : List Int} {j : Nat} {z : Int} (hj : j < X.length) : (X.take (j + 1) ++ T).set j z = X.take j ++ z :: T := by
  apply List.ext_getElem?
  intro i
  have hl : (X.take (j + 1)).length = j + 1 := by rw [List.length_take]; omega
  have hl2 : (X.take j).length = j := by rw [List.length_take]; omega
  rcases (show i < j ∨ i = j ∨ j < i by omega) with h | h | h
  · rw [List.getElem?_set_ne (by omega), List.getElem?_append_left (by omega), List.getElem?_append_left (by omega), List.getElem?_take, List.getElem?_take, if_pos (by omega), if_pos h]
  · subst h
    rw [List.getElem?_set_self (by rw [List.length_append]; omega), List.getElem?_append_right (by omega), hl2]
    simp
  · rw [List.getElem?_set_ne (by omega), List.getElem?_append_right (by omega), List.getElem?_append_right (by omega), hl, hl2, show i - j = (i - (j + 1)) + 1 by omega]
    rfl

set_option maxHeartbeats 1600000 in
theorem rtake_any (A B : Option Addr) (n c d : Nat) (X Y : List Int) (w : World) (hx : Sl w A n (i64s X)) (hy : Sl w B n (i64s Y)) (hX : Bit2 X) (hY : Bit2 Y) (hn : n ≤ 1000) (hn0 : 0 < n) (hle : hv Y ≤ hv X) :
    Calls Try.prog 32 #[.slice A n c, .slice B n d] w fun e w' => ∃ v Z, e = .returned v ∧ w'.ownsRow w.heap.size 3 1 v n (i64s Z) ∧ Below w.heap.size w w' ∧ Bit2 Z ∧ hv Z = hv X - hv Y := by
  obtain ⟨i0, hi0, hz0, hz1, hz2⟩ := info_parts info_int
  have hlx : X.length = n := by simpa using hx.1
  have hly : Y.length = n := by simpa using hy.1
  have Hlx := Lib.hid hlx; have Hly := Lib.hid hly; have HX := Lib.hid hX; have HY := Lib.hid hY; have Hle := Lib.hid hle
  have Hst := Lib.hid (Taken.start hlx hly)
  clear hlx hly hX hY hle
  have ho0 : (w.alloc (.cells #[] 3)).ownsRow w.heap.size 3 1 (.slice (some ⟨w.heap.size, 0, none⟩) 0 0) 0 [] := own_new w 3 [] 0 rfl (by omega)
  have hba := below_alloc w (.cells #[] 3)
  have hx2 := hx.below hba
  have hz2' : w.heap.size ≤ (w.alloc (.cells #[] 3)).heap.size := by simp
  go_enter Try.func32, Try.ntmps32
  go_wp2_with (at_builtin; refine wpList_cat (.tmp 9) (.tmp 10) 34 3 i0 _ 8 rfl rfl Try.underlying34 hi0 hz0 hz1 hz2 rfl w.heap.size _ _ _ ho0 _ _ _ _ hx2 rfl rfl ints_one (by omega) (by omega) hz2' ?_; intro v3 w3 hown3 hg3 hb3 hz3; obtain ⟨g, cap, rfl, hg1, hg2⟩ := hown3.form (by omega))
  have hown4 : w3.ownsRow w.heap.size 3 1 (.slice (some ⟨g, 0, none⟩) n cap) n (i64s (X.take n ++ [])) := by
    rw [List.take_of_length_le (by rw [Hlx.out]; omega)]; simpa using hown3
  have hb4 := hba.trans hb3
  clear hown3 hg3 hb3 hx2 ho0 hba hz2' hz3
  go_loopw [6, 7] (fun b i wr => ∃ (j : Nat) (iv bo : Int) (T : List Int), j ≤ n ∧ i = .int .i64 iv ∧ iv = (j : Int) - 1 ∧ b = .int .i64 bo ∧ 0 ≤ bo ∧ bo < 2 ∧ Taken X Y n j bo T ∧ wr.ownsRow w.heap.size 3 1 (.slice (some ⟨g, 0, none⟩) n cap) n (i64s (X.take j ++ T)) ∧ Below w.heap.size w wr) (fun _ i _ => (intOf i + 1).toNat)
  case atStart => exact ⟨n, (n : Int) - 1, 0, [], by omega, by go_num, rfl, rfl, by omega, by omega, Hst.out, hown4, hb4⟩
  case round =>
    obtain ⟨j, iv, bo, T, hj, rfl, hiv, rfl, bo1, bo2, htk, hown, hbl⟩ := hrel
    have Ht := Lib.hid htk
    clear htk hown4 hb4
    rcases j with _ | j
    · obtain rfl : iv = -1 := by omega
      have hown2 := hown
      rw [List.take_zero, List.nil_append] at hown2
      have Hf := Lib.hid (Ht.out.full Hlx.out Hle.out)
      clear hiv hown
      go_wp2
      go_ret
      exact ⟨_, T, rfl, hown2, hbl, Ht.out.bits, Hf.out⟩
    · obtain rfl : iv = (j : Int) := by omega
      clear hiv
      obtain ⟨ad, x, rfl, hcx, hux⟩ := (hx.below hbl).num (k := j) (by omega)
      obtain ⟨bd, y, rfl, hcy, huy⟩ := (hy.below hbl).num (k := j) (by omega)
      have hx1 := HX.out x (List.mem_of_getElem? hux)
      have hy1 := HY.out y (List.mem_of_getElem? huy)
      have hcu : wr.cell? ⟨g, j, none⟩ = some (.int .i64 x) := own_cell hown (by omega) (by rw [List.getElem?_append_left (by rw [List.length_take, Hlx.out]; omega), List.getElem?_take, if_pos (by omega)]; exact hux)
      have hfu := hown.frozenAt j
      obtain ⟨nv, hnv⟩ : ∃ nv, nv = x - y - bo := ⟨_, rfl⟩
      have hnv1 : -2 ≤ nv ∧ nv < 2 := by omega
      have hxy : x - y - bo = nv := hnv.symm
      have hd : decide (0 ≤ (j : Int)) = true := decide_eq_true (by omega)
      by_cases hneg : nv < 0
      · have Hn := Lib.hid (Ht.out.next (by omega) Hlx.out Hly.out hux huy (z := nv + 2) (b2 := 1) (by rw [hnv]; omega) (by omega) (by omega))
        have Hset := Lib.hid (set_mid (X := X) (T := T) (j := j) (z := nv + 2) (by rw [Hlx.out]; omega))
        clear hux huy hnv
        go_wp2
        go_quiet (fail)
        go_wp2
        go_roundw
        case rel => exact ⟨j, (j : Int) - 1, 1, (nv + 2) :: T, by omega, by go_num, rfl, rfl, by omega, by omega, Hn.out, own_set (show (wr.drewN _).ownsRow _ _ _ _ _ _ from hown) Hset.out, (below_drewN hbl _).setCell (p := ⟨g, j, none⟩) hg1 _⟩
        case measure => simp [intOf] <;> omega
      · have Hn := Lib.hid (Ht.out.next (by omega) Hlx.out Hly.out hux huy (z := nv) (b2 := 0) (by rw [hnv]; omega) (by omega) (by omega))
        have Hset := Lib.hid (set_mid (X := X) (T := T) (j := j) (z := nv) (by rw [Hlx.out]; omega))
        clear hux huy hnv
        go_wp2
        go_quiet (fail)
        go_wp2
        go_roundw
        case rel => exact ⟨j, (j : Int) - 1, 0, (nv) :: T, by omega, by go_num, rfl, rfl, by omega, by omega, Hn.out, own_set (show (wr.drewN _).ownsRow _ _ _ _ _ _ from hown) Hset.out, (below_drewN hbl _).setCell (p := ⟨g, j, none⟩) hg1 _⟩
        case measure => simp [intOf] <;> omega
end Go.Proofs.Ytjokcofbabfcfaa
