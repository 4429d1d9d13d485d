/- The chapter's example of layer 6. -/
import Derived.Test.YthdclncgmhgmfaaOneWrite
namespace Go.Proofs.Ythdclncgmhgmfaa
open Go.RowKit Go.Deep
set_option linter.unusedSimpArgs false
set_option linter.unusedVariables false

def sevens : List Int := List.replicate 128 7
def sevenTo (k : Nat) : List Int := List.replicate k 7 ++ List.replicate (128 - k) 0
theorem sevenTo_len (k : Nat) (hk : k ≤ 128) : (sevenTo k).length = 128 := by simp [sevenTo]; omega
theorem sevenTo_succ (k : Nat) (hk : k < 128) : (sevenTo k).set k 7 = sevenTo (k + 1) := by
  apply List.ext_getElem?
  intro i
  by_cases hi : i = k
  · subst hi
    rw [List.getElem?_set_self (by rw [sevenTo_len i (by omega)]; exact hk)]
    simp [sevenTo, List.getElem?_append, List.getElem?_replicate]
  · rw [List.getElem?_set_ne (fun e => hi e.symm)]
    simp only [sevenTo, List.getElem?_append, List.getElem?_replicate, List.length_replicate]
    by_cases h1 : i < k
    · rw [if_pos h1, if_pos h1, if_pos (by omega), if_pos (by omega)]
    · rw [if_neg h1, if_neg (show ¬ i < k + 1 by omega)]
      by_cases h2 : i - k < 128 - k
      · rw [if_pos h2, if_pos (by omega)]
      · rw [if_neg h2, if_neg (by omega)]
theorem sevens_byte : Byte128 sevens := ⟨by simp [sevens], fun x hx => by have := List.eq_of_mem_replicate hx; omega⟩
theorem goes_still (S : DS) (k : Nat) (h : S.cut = -1) : S.goes k = (S.count k, false) := by
  unfold DS.goes; rw [if_pos (by omega)]

/-- What the example's disk is, step by step. -/
def awS1 : DS := ((DS.new 3 3).put 1 sevens).count 1
def awS2 : DS := awS1.crashed [2]
theorem aw_row : awS2.at_ 1 = 7 :: 7 :: List.replicate 126 0 := by decide +kernel
theorem aw_left : (awS2.room - (awS2.used : Int)) = 2 := by decide +kernel
theorem aw_left0 : ((DS.new 3 3).room - ((DS.new 3 3).used : Int)) = 3 := by decide +kernel
theorem aw_use : (DS.new 3 3).used = 0 := by decide +kernel
theorem aw_left3 : ((awS2.count 0).room - ((awS2.count 0).used : Int)) = 2 := by decide +kernel

set_option maxRecDepth 100000 in
set_option maxHeartbeats 6400000 in
theorem awake6_any (w : World) : Calls Try.prog 7 #[] w fun e w' => e = .returned (.bool true) ∧ Below w.heap.size w w' := by
  have Hleft0 := Lib.hid aw_left0
  go_enter Try.func7, Try.ntmps7
  go_wp2_with fail
  refine (dnew_is w 3 3 (by omega) (by omega) (by omega)).mono ?_
  rintro e w1 ⟨d, rfl, hF, hb1⟩
  go_wp2_with fail
  refine (dsize_is _ w1 d _ hF).mono ?_
  rintro e w2 ⟨rfl, hO2⟩
  have hlen3 : ((DS.new 3 3).kept.length : Int) = 3 := by decide +kernel
  rw [show (((DS.new 3 ((3 : Nat) : Int)).kept.length : Nat) : Int) = 3 from hlen3]
  have hF2 := hF.only hO2 (fun _ _ hk => hk)
  have hb2 := hb1.trans (hO2.nothing_below hb1.size)
  clear hlen3
  go_wp2_with fail
  refine (dleft_is _ w2 d _ hF2).mono ?_
  rintro e w3 ⟨rfl, hO3⟩
  rw [show (DS.new 3 ((3 : Nat) : Int)).room - ((DS.new 3 ((3 : Nat) : Int)).used : Int) = 3 from Hleft0.out]
  have hF3 := hF2.only hO3 (fun _ _ hk => hk)
  have hb3 := hb2.trans (hO3.nothing_below hb2.size)
  obtain ⟨w4, hw4⟩ : ∃ w4, w4 = w3.alloc (.cells Try.zeroCells52 52) := ⟨_, rfl⟩
  have hz : Blk w4 w3.heap.size 52 (u8s (sevenTo 0)) := by rw [hw4, zero_arr]; exact Blk.new _ 52 (u8s zeros128)
  have hbz : Below w3.heap.size w3 w4 := by rw [hw4]; exact below_alloc _ _
  have Hw4 := Lib.hid hw4
  clear hw4 hF hF2 hO2 hO3 hb1 hb2 Hleft0
  go_wp2_with fail
  rw [← Hw4.out]
  clear Hw4
  go_loopw [23] (fun i wr => ∃ k : Nat, k ≤ 128 ∧ i = .int .i64 k ∧ Blk wr w3.heap.size 52 (u8s (sevenTo k)) ∧ Below w3.heap.size w3 wr) (fun i _ => 128 - (intOf i).toNat)
  case atStart => exact ⟨0, by omega, rfl, hz, hbz⟩
  case round =>
    clear hz hbz
    obtain ⟨k, hk, rfl, ho, hb⟩ := hrel
    by_cases hlt : k < 128
    · obtain ⟨old, hold⟩ : ∃ old, wr.cell? ⟨w3.heap.size, k, none⟩ = some old := ⟨_, ho.cell (List.getElem?_eq_getElem (by rw [List.length_map, sevenTo_len k hk]; exact hlt))⟩
      have hfr := ho.frozen k
      go_wp2
      go_roundw
      case rel => exact ⟨k + 1, by omega, by go_num, by rw [← sevenTo_succ k hlt, ← set_u8]; exact ho.set k _, hb.setCell (Nat.le_refl _) _⟩
      case measure => simp [intOf]; omega
    · obtain rfl : k = 128 := by omega
      have hsev : sevenTo 128 = sevens := by simp [sevenTo, sevens]
      rw [hsev] at ho
      have hF4 := hF3.only (Only.of_below (F := Nothing) hb) (fun _ _ hk => hk)
      have hsize : (Try.prog.info? 52).map (·.size) = some (u8s sevens).length := by rw [size_arr, List.length_map, sevens_byte.1]
      have Hrange := Lib.hid ho.range
      have Hg := Lib.hid (goes_still ((DS.new 3 3).put 1 sevens) 1 rfl)
      go_wp2_with (refine wpList_load_mid rfl 52 (.tmp 3) rfl w3.heap.size 0 rfl (u8s sevens) _ Hrange.out Try.underlying52 rfl hsize ?_)
      refine (dwrite_in _ wr d (DS.new 3 3) hF4 1 sevens sevens_byte rfl (by decide) (Or.inr (by rw [aw_use]; decide)) (by decide)).mono ?_
      rintro e w5 ⟨rfl, hF5, hO5⟩
      rw [Hg.out] at hF5 ⊢
      have hF5' : PD _ w5 d awS1 := hF5
      have hb5 : Below w.heap.size w w5 := (hb3.trans (hb.mono hb3.size)).trans (hO5.below (Nat.le_trans hb3.size hb.size) (fun k hk => hk.1))
      have hwr : w3.heap.size ≤ wr.heap.size := hb.size
      have hwr5 : wr.heap.size ≤ w5.heap.size := hO5.size
      clear hF5 hO5 Hrange ho hb hF4 hF3 hsev hk hlt Hg
      obtain ⟨w6, hw6⟩ : ∃ w6, w6 = w5.alloc (.cells #[.int .u8 2] 5) := ⟨_, rfl⟩
      have hb6 : Below w5.heap.size w5 w6 := by rw [hw6]; exact below_alloc _ _
      have hs6 : Sl w6 (some ⟨w5.heap.size, 0, none⟩) 1 (u8s [2]) := by rw [hw6]; exact Sl.new_ w5 5 (u8s [2]) 1 rfl
      have hF6 := hF5'.only (Only.of_below (F := Nothing) hb6) (fun _ _ hk => hk)
      have hxF : ∀ ad, some (⟨w5.heap.size, 0, none⟩ : Addr) = some ad → 0 < 1 → ¬ (More (fun k => w.heap.size ≤ k ∧ k < w1.heap.size) wr w5) ad.block := by
        intro ad e _ hk
        cases e
        exact Nat.lt_irrefl _ (hF5'.fin hk)
      have Hw6 := Lib.hid hw6
      clear hw6
      go_wp2_with fail
      rw [← Hw6.out]
      refine (dcrash_is _ w6 d awS1 hF6 _ 1 1 [2] hs6 (by decide) (by omega) hxF).mono ?_
      rintro e w7 ⟨rfl, hF7, hO7⟩
      have hF7' : PD _ w7 d awS2 := hF7
      have hb7 : Below w.heap.size w w7 := (hb5.trans (hb6.mono hb5.size)).trans (hO7.below (Nat.le_trans hb5.size hb6.size) (fun k hk => by
        rcases hk with hk | hk
        · exact hk.1
        · exact Nat.le_trans (Nat.le_trans hb3.size hwr) hk.1))
      have h56 : wr.heap.size ≤ w6.heap.size := Nat.le_trans hwr5 hb6.size
      clear hF7 hO7 hF6 hs6 hxF Hw6 hb5 hb6 hF5'
      have Hrow := Lib.hid aw_row
      have Hl3 := Lib.hid aw_left3
      go_wp2_with fail
      refine (dread_in _ w7 d awS2 hF7' 1 rfl (by decide)).mono ?_
      rintro e w8 ⟨rfl, hF8, hO8⟩
      rw [show awS2.at_ 1 = 7 :: 7 :: List.replicate 126 0 from Hrow.out]
      have hb8 : Below w.heap.size w w8 := hb7.trans (hO8.below hb7.size (fun k hk => by
        rcases hk with hk | hk
        · rcases hk with hk | hk
          · exact hk.1
          · exact Nat.le_trans (Nat.le_trans hb3.size hwr) hk.1
        · exact Nat.le_trans (Nat.le_trans (Nat.le_trans hb3.size hwr) h56) hk.1))
      obtain ⟨rw_, hrw⟩ : ∃ l : List Int, l = 7 :: 7 :: List.replicate 126 0 := ⟨_, rfl⟩
      have hl : rw_.length = 128 := by rw [hrw]; rfl
      rw [← hrw]
      obtain ⟨w9, hw9⟩ : ∃ w9, w9 = (w8.alloc (.cells Try.zeroCells52 52)).setCells w8.heap.size 0 (u8s rw_) := ⟨_, rfl⟩
      have hz : Blk (w8.alloc (.cells Try.zeroCells52 52)) w8.heap.size 52 (u8s zeros128) := by rw [zero_arr]; exact Blk.new _ 52 (u8s zeros128)
      have hb9 : Below w8.heap.size w8 w9 := by rw [hw9]; exact below_setCells (below_alloc _ _) (Nat.le_refl _) _ _
      have hR9 : Blk w9 w8.heap.size 52 (u8s rw_) := by rw [hw9]; exact setCells_whole hz (by simp [hl, zeros_len])
      have Hthere := Lib.hid (hz.there (n := (u8s rw_).toArray.size) (by rw [List.size_toArray, List.length_map, List.length_map, hl, zeros_len]; omega))
      have hsize2 : (Try.prog.info? 52).map (·.size) = some (u8s rw_).toArray.size := by rw [size_arr, List.size_toArray, List.length_map, hl]
      have hF9 := hF8.only (Only.of_below (F := Nothing) hb9) (fun _ _ hk => hk)
      have hc0 : w9.cell? ⟨w8.heap.size, 0, none⟩ = some (.int .u8 7) := hR9.cell (by rw [hrw]; rfl)
      have hc1 : w9.cell? ⟨w8.heap.size, 1, none⟩ = some (.int .u8 7) := hR9.cell (by rw [hrw]; rfl)
      have hc2 : w9.cell? ⟨w8.heap.size, 2, none⟩ = some (.int .u8 0) := hR9.cell (by rw [hrw]; rfl)
      have hbel : Below w.heap.size w w9 := hb8.trans (hb9.mono hb8.size)
      have Hw9 := Lib.hid hw9
      clear hw9 hrw hz hb9 hR9 hl hF8 hO8 hF7' hb8 hb7 Hrow
      go_wp2_with (refine wpList_store_mid rfl 52 (.tmp 5) (.tmp 38) rfl w8.heap.size 0 (u8s rw_).toArray rfl rfl Hthere.out hsize2 (all_oneCell_toArray (one_u8s _)) ?_; rw [← Hw9.out])
      refine (dleft_is _ w9 d _ hF9).mono ?_
      rintro e w10 ⟨rfl, hO10⟩
      rw [show (awS2.count 0).room - ((awS2.count 0).used : Int) = 2 from Hl3.out]
      have hfin := hbel.trans (hO10.nothing_below hbel.size)
      go_wp2
      go_ret
      exact ⟨rfl, hfin⟩
end Go.Proofs.Ythdclncgmhgmfaa
