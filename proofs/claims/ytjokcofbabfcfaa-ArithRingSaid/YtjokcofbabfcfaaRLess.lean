import Derived.Test.YtjokcofbabfcfaaRMul
namespace Go.Proofs.Ytjokcofbabfcfaa
open Go.RowKit

/-- The number of digits, the highest first. -/
def hv (L : List Int) : Int := val 2 L.reverse
theorem hv_nil : hv [] = 0 := rfl
theorem hv_snoc (L : List Int) (x : Int) : hv (L ++ [x]) = 2 * hv L + x := by
  unfold hv; rw [List.reverse_append]; simp [val]; omega
theorem hv_cons (x : Int) (L : List Int) : hv (x :: L) = 2 ^ L.length * x + hv L := by
  unfold hv; rw [List.reverse_cons, val_snoc, List.length_reverse]; omega
theorem hv_append (K L : List Int) : hv (K ++ L) = 2 ^ L.length * hv K + hv L := by
  unfold hv; rw [List.reverse_append, val_append, List.length_reverse]; omega
theorem bit2_rev {L : List Int} (h : Bit2 L) : Bit2 L.reverse := fun x hx => h x (List.mem_reverse.1 hx)
theorem hv_range {L : List Int} (h : Bit2 L) : 0 ≤ hv L ∧ hv L < 2 ^ L.length := by
  have := val_range 2 (by omega) L.reverse (bit2_rev h)
  rw [List.length_reverse] at this
  exact this
theorem bit2_drop {L : List Int} (h : Bit2 L) (k : Nat) : Bit2 (L.drop k) := fun x hx => h x (List.mem_of_mem_drop hx)
theorem bit2_take {L : List Int} (h : Bit2 L) (k : Nat) : Bit2 (L.take k) := fun x hx => h x (List.mem_of_mem_take hx)

theorem hv_split {L : List Int} {k : Nat} {x : Int} (hx : L[k]? = some x) : hv L = 2 ^ (L.length - k) * hv (L.take k) + (2 ^ (L.length - (k + 1)) * x + hv (L.drop (k + 1))) := by
  have hk : k < L.length := (List.getElem?_eq_some_iff.1 hx).1
  conv => lhs; rw [← List.take_append_drop k L, drop_at L k x hx, hv_append, hv_cons]
  rw [List.length_cons, List.length_drop, show L.length - (k + 1) + 1 = L.length - k by omega]

theorem less_at {X Y : List Int} {k : Nat} {x y : Int} (hl : X.length = Y.length) (hX : Bit2 X) (hY : Bit2 Y) (ht : X.take k = Y.take k) (hx : X[k]? = some x) (hy : Y[k]? = some y) (hne : x ≠ y) : (x < y) ↔ (hv X < hv Y) := by
  have h1 := hX x (List.mem_of_getElem? hx)
  have h2 := hY y (List.mem_of_getElem? hy)
  rw [hv_split hx, hv_split hy, ht, hl]
  have d1 := hv_range (bit2_drop hX (k + 1))
  have d2 := hv_range (bit2_drop hY (k + 1))
  rw [List.length_drop, hl] at d1
  rw [List.length_drop] at d2
  generalize (2 : Int) ^ (Y.length - (k + 1)) = p at *
  generalize hv (X.drop (k + 1)) = u at *
  generalize hv (Y.drop (k + 1)) = v at *
  generalize 2 ^ (Y.length - k) * hv (Y.take k) = c at *
  rcases (show x = 0 ∧ y = 1 ∨ x = 1 ∧ y = 0 by omega) with ⟨rfl, rfl⟩ | ⟨rfl, rfl⟩ <;> constructor <;> intro h <;> omega

set_option maxHeartbeats 1600000 in
theorem rless_any (A B : Option Addr) (n c d : Nat) (X Y : List Int) (w : World) (hx : Sl w A n (i64s X)) (hy : Sl w B n (i64s Y)) (hX : Bit2 X) (hY : Bit2 Y) (hn : n ≤ 1000) :
    Calls Try.prog 31 #[.slice A n c, .slice B n d] w fun e w' => e = .returned (.bool (decide (hv X < hv Y))) ∧ ∃ q, w' = w.drewN q := by
  have hlx : X.length = n := by simpa using hx.1
  have hly : Y.length = n := by simpa using hy.1
  have Hlx := Lib.hid hlx; have Hly := Lib.hid hly; have HX := Lib.hid hX; have HY := Lib.hid hY
  clear hlx hly hX hY
  go_enter Try.func31, Try.ntmps31
  go_wp2
  go_loopw [5] (fun i wr => ∃ k : Nat, k ≤ n ∧ i = .int .i64 k ∧ X.take k = Y.take k ∧ ∃ q, wr = w.drewN q) (fun i _ => n - (intOf i).toNat)
  case atStart => exact ⟨0, by omega, rfl, by simp, 0, rfl⟩
  case round =>
    obtain ⟨k, hk, rfl, ht, q, rfl⟩ := hrel
    have Ht := Lib.hid ht
    clear ht
    by_cases hlt : k < n
    · obtain ⟨ad, x, rfl, hcx, hux⟩ := hx.num hlt
      obtain ⟨bd, y, rfl, hcy, huy⟩ := hy.num hlt
      have Hux := Lib.hid hux; have Huy := Lib.hid huy
      clear hux huy
      by_cases hxy : x = y
      · subst hxy
        go_wp2
        go_quiet (fail)
        go_wp2
        go_roundw
        case rel => exact ⟨k + 1, by omega, by go_num, by rw [take_snoc _ _ _ Hux.out, take_snoc _ _ _ Huy.out, Ht.out], _, rfl⟩
        case measure => simp [intOf]; omega
      · have hl := less_at (by rw [Hlx.out, Hly.out]) HX.out HY.out Ht.out Hux.out Huy.out hxy
        have Hl := Lib.hid hl
        clear hl
        go_wp2
        go_quiet (fail)
        go_wp2
        go_quiet (fail)
        go_wp2
        go_ret
        exact ⟨ret_bool (decide_eq_decide.2 Hl.out), _, (congrArg (fun z => World.drewN z _) (World.drewN_drewN _ _ _)).trans (World.drewN_drewN _ _ _)⟩
    · have he : X = Y := by
        have := Ht.out
        rwa [List.take_of_length_le (by rw [Hlx.out]; omega), List.take_of_length_le (by rw [Hly.out]; omega)] at this
      have He := Lib.hid he
      clear he
      go_wp2
      go_ret
      exact ⟨ret_bool (by rw [He.out]; simp), _, rfl⟩
end Go.Proofs.Ytjokcofbabfcfaa
