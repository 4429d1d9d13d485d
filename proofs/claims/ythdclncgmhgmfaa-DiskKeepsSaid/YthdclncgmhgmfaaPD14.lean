/- The program's disk: Image. -/
import Derived.Test.YthdclncgmhgmfaaPD13
namespace Go.Proofs.Ythdclncgmhgmfaa
open Go.RowKit Go.Deep
set_option linter.unusedSimpArgs false
set_option linter.unusedVariables false

theorem flatten_take {l : List (List Int)} {k : Nat} {r : List Int} (h : l[k]? = some r) : (l.take (k + 1)).flatten = (l.take k).flatten ++ r := by
  rw [take_snoc _ _ _ h, List.flatten_append]; simp
theorem flatten_len {l : List (List Int)} (h : ∀ r ∈ l, r.length = 128) (k : Nat) (hk : k ≤ l.length) : ((l.take k).flatten).length = 128 * k := by
  induction k with
  | zero => simp
  | succ k ih =>
    obtain ⟨r, hr⟩ : ∃ r, l[k]? = some r := ⟨_, List.getElem?_eq_getElem (by omega)⟩
    rw [flatten_take hr, List.length_append, ih (by omega), h r (List.mem_of_getElem? hr)]; omega

set_option maxRecDepth 100000 in
set_option maxHeartbeats 3200000 in
theorem dimage_is (F : Nat → Prop) (w : World) (b : Nat) (S : DS) (h : PD F w b S) : Calls Try.prog 19 #[.pointer (some ⟨b, 0, none⟩)] w fun e w' => ∃ v, e = .returned v ∧ w'.ownsRow w.heap.size 5 1 v (128 * S.kept.length) (u8s S.kept.flatten) ∧ Below w.heap.size w w' := by
  have hno := dnone_is F w b S h
  obtain ⟨hwf, hFb, hfin, sb, mb, vs, vw, c, L, h⟩ := h
  have hc0 := h.head.cell (i := 0) rfl
  obtain ⟨i8, hi8, hz8, hs8, hb8⟩ := info_parts' info_u8
  have hn2 := hwf.n2
  obtain ⟨K, hK⟩ : ∃ K, K = S.kept.length := ⟨_, rfl⟩
  rw [← hK] at hc0 hn2 ⊢
  have HK := Lib.hid hK
  have Hh := Lib.hid h
  have Hwf := Lib.hid hwf
  have hKI : (K : Int) ≤ 4096 := by omega
  clear hK h hwf hfin
  go_enter Try.func19, Try.ntmps19
  go_wp2_with fail
  refine hno.mono ?_
  rintro e w1 ⟨rfl, hw⟩
  obtain rfl := hw.symm
  go_wp2_with (at_make; refine wpList_make_own _ rfl _ _ 22 rfl w.heap.size 5 i8 _ 1 Try.underlying22 hi8 hz8 hs8 _ _ _ (128 * K) rfl rfl (by omega) (by rw [hb8]; omega) (by simp only [maxLen]; omega) (Nat.le_refl _) ?_; intro w1 hown1 hg1; have hb1 : Below w.heap.size w w1 := (Below.refl _ _).grown hg1 (Nat.le_refl _) (fun _ h => by cases h); have hc01 : w1.cell? ⟨b, 0, none⟩ = some (.slice (some ⟨sb, 0, none⟩) K K) := (hb1.cell (World.block_lt_of_cell? w _ hc0)).trans hc0; clear hg1)
  go_loopw [3, 19] (fun im i wr => ∃ k : Nat, k ≤ K ∧ i = .int .i64 k ∧ wr.ownsRow w.heap.size 5 1 im (128 * k) (u8s (S.kept.take k).flatten) ∧ Below w.heap.size w wr) (fun _ i _ => K - (intOf i).toNat)
  case atStart => exact ⟨0, by omega, rfl, by simpa using hown1, hb1⟩
  case round =>
    clear hown1 hb1 hc01
    obtain ⟨k, hk, rfl, hown, hb⟩ := hrel
    by_cases hlt : k < K
    · obtain ⟨r, hr⟩ : ∃ r, S.kept[k]? = some r := ⟨_, List.getElem?_eq_getElem (by rw [← HK.out]; exact hlt)⟩
      have hr128 := (Hwf.out.rows r (List.mem_of_getElem? hr)).1
      have hc0r : wr.cell? ⟨b, 0, none⟩ = some (.slice (some ⟨sb, 0, none⟩) K K) := (hb.cell (World.block_lt_of_cell? w _ hc0)).trans hc0
      have Hsl := Lib.hid (show Sl wr (some ⟨sb, k * 130, none⟩) 128 (u8s r) from ⟨by rw [List.length_map, hr128], fun j u hj => ⟨_, rfl, by
        rw [List.getElem?_map] at hj
        obtain ⟨x, hx, rfl⟩ := Option.map_eq_some_iff.1 hj
        rw [Addr.add_mid]
        have h1 := Hh.out.sect.cell (Hh.out.secs.kept k r hr j x hx)
        exact (hb.cell (World.block_lt_of_cell? w _ h1)).trans h1⟩⟩)
      have Hnext := Lib.hid (show u8s (S.kept.take k).flatten ++ u8s r = u8s (S.kept.take (k + 1)).flatten by rw [flatten_take hr, ← List.map_append])
      have hkI : (k : Int) < (K : Int) := by omega
      have hk0 : (0 : Int) ≤ (k : Int) := by omega
      have hsz : w.heap.size ≤ wr.heap.size := hb.size
      clear hr hr128
      go_wp2_with (refine wpList_cat (.tmp 22) (.tmp 30) 22 5 i8 _ 1 rfl rfl Try.underlying22 hi8 hz8 hs8 hb8 rfl w.heap.size _ (128 * k) _ hown _ 128 128 _ Hsl.out rfl rfl (one_u8s _) (by omega) (by omega) hsz ?_; intro v2 w2 hown2 hg2 hb2 hs2)
      go_roundw
      case rel => exact ⟨k + 1, by omega, by go_num, by rw [← Hnext.out]; exact hown2, hb.trans hb2⟩
      case measure => simp [intOf]; omega
    · obtain rfl : k = K := by omega
      have Hall := Lib.hid (show (S.kept.take k).flatten = S.kept.flatten by rw [List.take_of_length_le (by rw [HK.out]; exact Nat.le_refl _)])
      go_wp2
      go_ret
      exact ⟨_, rfl, by rw [← Hall.out]; exact hown, hb⟩
end Go.Proofs.Ythdclncgmhgmfaa
