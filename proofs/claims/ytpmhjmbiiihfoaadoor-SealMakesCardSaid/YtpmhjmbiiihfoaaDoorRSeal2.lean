/- The document's sealed sectors: Make and Open. -/
import Derived.Test.YtpmhjmbiiihfoaaDoorRSeal1
namespace Go.Proofs.YtpmhjmbiiihfoaaDoor
open Go.RowKit Go.Deep
set_option linter.unusedSimpArgs false
set_option linter.unusedVariables false

theorem sl_noughts {w : World} {base n : Nat} {A : Option Addr} {c : Nat} {bs : List Int} (h : w.ownsRow base 5 1 (.slice A n c) n (List.replicate n (Value.int .u8 0))) (e : bs = List.replicate n 0) : Sl w A n (u8s bs) := by
  obtain ⟨A', c', e', hs⟩ := own_form h
  simp only [Value.slice.injEq] at e'
  obtain ⟨rfl, _, rfl⟩ := e'
  rw [e]
  unfold u8s
  rw [List.map_replicate]
  exact hs
/-- A piece of a row is a slice. -/
theorem Blk.cut8 {w : World} {b : Nat} {t : TypeId} {xs : List Int} (h : Blk w b t (u8s xs)) (o n : Nat) (hn : o + n ≤ xs.length) : Sl w (some ⟨b, o, none⟩) n (u8s ((xs.drop o).take n)) := by
  refine ⟨by simp; omega, fun j u hu => ⟨_, rfl, ?_⟩⟩
  rw [show (⟨b, o, none⟩ : Addr).add j = ⟨b, o + j, none⟩ by unfold Addr.add; split <;> simp_all]
  refine h.cell ?_
  rw [List.getElem?_map, List.getElem?_take] at hu
  rw [List.getElem?_map]
  split at hu
  · rw [List.getElem?_drop] at hu; exact hu
  · simp at hu

set_option maxRecDepth 100000 in
set_option maxHeartbeats 3200000 in
theorem rmake_is (kind n : Int) (hkb : -9223372036854775808 ≤ kind ∧ kind ≤ 9223372036854775807) (hnb : -9223372036854775808 ≤ n ∧ n ≤ 9223372036854775807) (A : Option Addr) (m c : Nat) (load : List Int) (w : World) (hx : Sl w A m (u8s load)) (hb : Bytes load) (hm : m ≤ 9223372036854775807)
    (bs : List Int) (er : Int) (hbs : bs = makeOf kind n load) (her : er = makeErr kind n m) :
    Calls Tryd.prog 10 #[.int .i64 kind, .int .i64 n, .slice A m c] w fun e w' => ∃ B cc, e = .returned (.tuple #[.slice B 128 cc, .int .i64 er]) ∧ Sl w' B 128 (u8s bs) ∧ Below w.heap.size w w' := by
  have hlen : load.length = m := by simpa using hx.1
  obtain ⟨i0, hi0, hz0, hz1, hz2⟩ := info_parts info_u8
  have hbad : er = 2 → bs = List.replicate 128 0 := by
    intro h; rw [hbs, makeOf, if_neg (by rw [hlen, ← her, h]; decide)]; rfl
  have hbad3 : er = 3 → bs = List.replicate 128 0 := by
    intro h; rw [hbs, makeOf, if_neg (by rw [hlen, ← her, h]; decide)]; rfl
  have hgood : er = 0 → bs = sealed kind n load := by
    intro h; rw [hbs, makeOf, if_pos (by rw [hlen, ← her, h])]
  have Her := Lib.hid her
  have Hbad := Lib.hid hbad; have Hbad3 := Lib.hid hbad3; have Hgood := Lib.hid hgood; have Hb := Lib.hid hb
  clear hlen hbs her hbad hbad3 hgood hb
  by_cases h1 : kind < 1
  · have he : er = 2 := by rw [Her.out, makeErr, if_pos (Or.inl h1)]
    have hbs := Hbad.out he
    subst he
    have Hbs := Lib.hid hbs
    clear hbs Her Hbad Hbad3 Hgood
    go_enter Tryd.func10, Tryd.ntmps10
    go_wp2_with (at_make; refine wpList_mk _ _ 22 5 i0 _ 1 128 rfl rfl Tryd.underlying22 hi0 hz0 hz1 hz2 rfl .i64 .i64 _ _ rfl rfl rfl rfl (by omega) (by omega) ?_; intro w1 hown1 hb1)
    go_ret2
    first | exact ⟨_, ⟨128, rfl⟩, sl_noughts hown1 Hbs.out, hb1⟩ | exact ⟨_, 128, rfl, sl_noughts hown1 Hbs.out, hb1⟩
  by_cases h2 : 255 < kind
  · have he : er = 2 := by rw [Her.out, makeErr, if_pos (Or.inr (Or.inl h2))]
    have hbs := Hbad.out he
    subst he
    have Hbs := Lib.hid hbs
    clear hbs Her Hbad Hbad3 Hgood
    go_enter Tryd.func10, Tryd.ntmps10
    go_wp2_with (at_make; refine wpList_mk _ _ 22 5 i0 _ 1 128 rfl rfl Tryd.underlying22 hi0 hz0 hz1 hz2 rfl .i64 .i64 _ _ rfl rfl rfl rfl (by omega) (by omega) ?_; intro w1 hown1 hb1)
    go_ret2
    first | exact ⟨_, ⟨128, rfl⟩, sl_noughts hown1 Hbs.out, hb1⟩ | exact ⟨_, 128, rfl, sl_noughts hown1 Hbs.out, hb1⟩
  by_cases h3 : n < 0
  · have he : er = 2 := by rw [Her.out, makeErr, if_pos (Or.inr (Or.inr h3))]
    have hbs := Hbad.out he
    subst he
    have Hbs := Lib.hid hbs
    clear hbs Her Hbad Hbad3 Hgood
    go_enter Tryd.func10, Tryd.ntmps10
    go_wp2_with (at_make; refine wpList_mk _ _ 22 5 i0 _ 1 128 rfl rfl Tryd.underlying22 hi0 hz0 hz1 hz2 rfl .i64 .i64 _ _ rfl rfl rfl rfl (by omega) (by omega) ?_; intro w1 hown1 hb1)
    go_ret2
    first | exact ⟨_, ⟨128, rfl⟩, sl_noughts hown1 Hbs.out, hb1⟩ | exact ⟨_, 128, rfl, sl_noughts hown1 Hbs.out, hb1⟩
  by_cases h4 : 113 < m
  · have h4I : decide (113 < (m : Int)) = true := decide_eq_true (by omega)
    have he : er = 3 := by rw [Her.out, makeErr, if_neg (by omega), if_pos h4]
    have hbs := Hbad3.out he
    subst he
    have Hbs := Lib.hid hbs
    clear hbs Her Hbad Hbad3 Hgood
    go_enter Tryd.func10, Tryd.ntmps10
    go_wp2_with (at_make; refine wpList_mk _ _ 22 5 i0 _ 1 128 rfl rfl Tryd.underlying22 hi0 hz0 hz1 hz2 rfl .i64 .i64 _ _ rfl rfl rfl rfl (by omega) (by omega) ?_; intro w1 hown1 hb1)
    go_ret2
    first | exact ⟨_, ⟨128, rfl⟩, sl_noughts hown1 Hbs.out, hb1⟩ | exact ⟨_, 128, rfl, sl_noughts hown1 Hbs.out, hb1⟩
  have he : er = 0 := by rw [Her.out, makeErr, if_neg (by omega), if_neg h4]
  have hbs := Hgood.out he
  subst he
  have Hbs := Lib.hid hbs
  have h4I : decide (113 < (m : Int)) = false := decide_eq_false (by omega)
  clear hbs Her Hbad Hbad3 Hgood
  go_enter Tryd.func10, Tryd.ntmps10
  go_wp2_with fail
  refine (rbytes_any kind n ⟨by omega, by omega⟩ ⟨by omega, hnb.2⟩ A m c load w hx Hb.out (by omega)).mono ?_
  rintro e w1 ⟨B, cc, rfl, hs1, hb1⟩
  go_wp2_with fail
  go_ret2
  rw [Hbs.out]
  first | exact ⟨B, ⟨cc, rfl⟩, hs1, hb1⟩ | exact ⟨B, cc, rfl, hs1, hb1⟩
end Go.Proofs.YtpmhjmbiiihfoaaDoor
