/- The document's disk: Image, New. -/
import Derived.Test.YthdclncgmhgmfaaRDisk6
namespace Go.Proofs.Ythdclncgmhgmfaa
open Go.RowKit Go.Deep
set_option linter.unusedSimpArgs false
set_option linter.unusedVariables false

theorem flat_take_succ {l : List (List Int)} {j : Nat} {r : List Int} (h : l[j]? = some r) : (l.take (j + 1)).flatten = (l.take j).flatten ++ r := by
  rw [take_snoc _ _ _ h, List.flatten_append]; simp
theorem flat_len {l : List (List Int)} (h : ∀ r ∈ l, r.length = 128) (j : Nat) : (l.take j).flatten.length = 128 * min j l.length := by
  induction j with
  | zero => simp
  | succ j ih =>
    by_cases hj : j < l.length
    · rw [flat_take_succ (List.getElem?_eq_getElem hj), List.length_append, ih, h _ (List.getElem_mem hj)]; omega
    · rw [List.take_of_length_le (by omega)]
      rw [List.take_of_length_le (by omega)] at ih
      rw [ih]; omega

set_option maxHeartbeats 1600000 in
theorem rimage_is (F : Nat → Prop) (w : World) (b : Nat) (S : DS) (h : RD F w b S) :
    Calls Try.prog 20 #[.pointer (some ⟨b, 0, none⟩)] w fun e w' => ∃ v, e = .returned v ∧ w'.ownsRow w.heap.size 5 1 v (128 * S.kept.length) (u8s S.kept.flatten) ∧ Below w.heap.size w w' := by
  obtain ⟨hwf, kb, ib, ob, ck, ci, spk, spi, vw, kv, ps, h⟩ := h
  have hn2 := hwf.n2
  obtain ⟨K, hK⟩ : ∃ K, K = S.kept.length := ⟨_, rfl⟩
  have HK := Lib.hid hK
  have Hh := Lib.hid h
  have Hwf := Lib.hid hwf
  obtain ⟨i8, hi8, hz8, hs8, hb8⟩ := info_parts' info_u8
  rw [← hK] at hn2 ⊢
  clear hK h hwf
  go_enter Try.func20, Try.ntmps20
  go_wp2
  go_loopw [3, 4] (fun v i wr => ∃ j : Nat, j ≤ K ∧ i = .int .i64 j ∧ wr.ownsRow w.heap.size 5 1 v (128 * j) (u8s (S.kept.take j).flatten) ∧ Below w.heap.size w wr) (fun _ i _ => K - (intOf i).toNat)
  case atStart => exact ⟨0, by omega, rfl, World.ownsRow_nil _ _ _ _, Below.refl _ _⟩
  case round =>
    obtain ⟨j, hj, rfl, hown, hb⟩ := hrel
    have h2 := Hh.out.keep (w' := wr) hb.size (fun k hk => hb.block k (Hh.out.fin k hk))
    have hc0 : wr.cell? ⟨b, 0, none⟩ = some (.slice (some ⟨kb, 0, none⟩) K ck) := by rw [HK.out]; exact h2.head.cell (i := 0) rfl
    have hsz := hb.size
    by_cases hlt : j < K
    · obtain ⟨row, hrow⟩ : ∃ r, S.kept[j]? = some r := ⟨_, List.getElem?_eq_getElem (by rw [← HK.out]; exact hlt)⟩
      obtain ⟨vr, hvr, hbr⟩ := h2.krow j row hrow
      have hr128 := (Hwf.out.rows row (List.mem_of_getElem? hrow)).1
      obtain ⟨Ar, cr, rfl, hsl, _⟩ := hbr.sl
      have hck : wr.cell? ⟨kb, j, none⟩ = some (.slice Ar row.length cr) := h2.kept.cell (by rw [List.getElem?_append_left (by rw [h2.kvn, ← HK.out]; exact hlt)]; exact hvr)
      rw [hr128] at hck hsl
      have hjI : (j : Int) < (K : Int) := by omega
      have Hnext := Lib.hid (flat_take_succ hrow)
      clear hrow hvr hr128
      go_wp2_with (at_builtin; refine wpList_cat (.tmp 14) (.tmp 21) 22 5 i8 _ 1 rfl rfl Try.underlying22 hi8 hz8 hs8 hb8 rfl w.heap.size _ _ _ hown _ _ _ _ hsl rfl rfl (one_u8s _) (by omega) (by omega) hsz ?_; intro v3 w3 hown3 hg3 hb3 hz3)
      go_roundw
      case rel => exact ⟨j + 1, by omega, by go_num, by rw [Hnext.out, show 128 * (j + 1) = 128 * j + 128 by omega]; simpa [u8s] using hown3, hb.trans hb3⟩
      case measure => simp [intOf]; omega
    · obtain rfl : j = K := by omega
      go_wp2
      go_ret
      exact ⟨_, rfl, by rwa [List.take_of_length_le (by rw [HK.out]; exact Nat.le_refl _)] at hown, hb⟩
end Go.Proofs.Ythdclncgmhgmfaa
