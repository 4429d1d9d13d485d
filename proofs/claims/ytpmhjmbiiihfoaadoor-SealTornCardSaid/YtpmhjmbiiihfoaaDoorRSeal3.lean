/- The document's Open. -/
import Derived.Test.YtpmhjmbiiihfoaaDoorRSeal2
namespace Go.Proofs.YtpmhjmbiiihfoaaDoor
open Go.RowKit Go.Deep
set_option linter.unusedSimpArgs false
set_option linter.unusedVariables false

/-- How a call of Open ends: what it answers, and a load that lies in memory. -/
def OpenEnd (bs : List Int) (kind : Int) (w : World) (e : Ending) (w' : World) : Prop :=
  ∃ (n : Int) (l : List Int) (B : Option Addr) (c : Nat) (er : Int), e = .returned (.tuple #[.int .i64 n, .slice B l.length c, .int .i64 er]) ∧ Sl w' B l.length (u8s l) ∧ OpenSays bs kind n l er ∧ Below w.heap.size w w'
theorem OpenEnd.not {bs : List Int} {kind : Int} {w w' : World} (h : ∀ n l, ¬ SealedBy bs kind n l) (hb : Below w.heap.size w w') : OpenEnd bs kind w (.returned (.tuple #[.int .i64 0, .slice none 0 0, .int .i64 53])) w' :=
  ⟨0, [], none, 0, 53, rfl, Sl.nil_ _ _, Or.inr ⟨rfl, rfl, rfl, h⟩, hb⟩
theorem OpenEnd.has {bs : List Int} {kind n : Int} {l : List Int} {m : Nat} {w w' : World} {B : Option Addr} {c : Nat} (h : SealedBy bs kind n l) (hm : l.length = m) (hs : Sl w' B m (u8s l)) (hb : Below w.heap.size w w') : OpenEnd bs kind w (.returned (.tuple #[.int .i64 n, .slice B m c, .int .i64 0])) w' := by
  subst hm
  exact ⟨n, l, B, c, 0, rfl, hs, Or.inl ⟨rfl, h⟩, hb⟩
theorem getVal_bounds (b : List Int) : -9223372036854775808 ≤ getVal b ∧ getVal b ≤ 9223372036854775807 := by
  unfold getVal
  split
  · unfold wrap64; omega
  · omega
theorem SealedBy.not0 {bs : List Int} {kind n x : Int} {l : List Int} (h : SealedBy bs kind n l) (hx : bs[0]? = some x) : x = kind := by
  have := sealed_0 kind n l
  rw [← h.1, hx] at this
  exact Option.some.inj this
theorem SealedBy.not127 {bs : List Int} {kind n x : Int} {l : List Int} (h : SealedBy bs kind n l) (hx : bs[127]? = some x) : x = 215 := by
  have := sealed_127 kind n h.2.2.2.2.2.1
  rw [← h.1, hx] at this
  exact Option.some.inj this
theorem SealedBy.not9 {bs : List Int} {kind n x : Int} {l : List Int} (h : SealedBy bs kind n l) (hx : bs[9]? = some x) : x = (l.length : Int) ∧ l.length ≤ 113 := by
  have := sealed_9 kind n l
  rw [← h.1, hx] at this
  exact ⟨Option.some.inj this, h.2.2.2.2.2.1⟩
theorem SealedBy.num {bs : List Int} {kind n : Int} {l : List Int} (h : SealedBy bs kind n l) : getVal ((bs.drop 1).take 8) = n := by
  have h2 := sealed_num kind n l
  rw [← h.1] at h2
  rw [h2, get_put n (by have := h.2.2.2.1; omega) h.2.2.2.2.1]
theorem SealedBy.load {bs : List Int} {kind n : Int} {l : List Int} (h : SealedBy bs kind n l) : (bs.drop 10).take l.length = l := by
  have h2 := sealed_load kind n l
  rw [← h.1] at h2
  exact h2

theorem same_is7 (q : Bool) (A B : Option Addr) (n m c d : Nat) (xs ys : List Int) (w : World) (hx : Sl w A n (u8s xs)) (hy : Sl w B m (u8s ys)) (hn : n ≤ 9223372036854775807) (hm : m ≤ 9223372036854775807) (hq : q = decide (xs = ys)) :
    Calls Tryd.prog 11 #[.slice A n c, .slice B m d] w fun e w' => e = .returned (.bool q) ∧ Below w.heap.size w w' := by
  rw [hq]
  exact (same_any A B n m c d xs ys w hx hy hn hm).mono fun e w' ⟨h, k, hk⟩ => ⟨h, by rw [hk]; exact below_drewN (Below.refl _ _) k⟩

set_option maxRecDepth 100000 in
set_option maxHeartbeats 3200000 in
theorem ropen_any (bb : Nat) (t : TypeId) (bs : List Int) (hl : bs.length = 128) (hb : Bytes bs) (w : World) (h : Blk w bb t (u8s bs)) (kind : Int) (hkb : -9223372036854775808 ≤ kind ∧ kind ≤ 9223372036854775807) :
    Calls Tryd.prog 14 #[.slice (some ⟨bb, 0, none⟩) 128 128, .int .i64 kind] w fun e w' => OpenEnd bs kind w e w' := by
  obtain ⟨x0, hx0⟩ : ∃ x, bs[0]? = some x := ⟨_, List.getElem?_eq_getElem (by omega)⟩
  obtain ⟨x127, hx127⟩ : ∃ x, bs[127]? = some x := ⟨_, List.getElem?_eq_getElem (by omega)⟩
  obtain ⟨x9, hx9⟩ : ∃ x, bs[9]? = some x := ⟨_, List.getElem?_eq_getElem (by omega)⟩
  have hc0 : w.cell? ⟨bb, 0, none⟩ = some (.int .u8 x0) := h.cell (by rw [List.getElem?_map, hx0]; rfl)
  have hc127 : w.cell? ⟨bb, 127, none⟩ = some (.int .u8 x127) := h.cell (by rw [List.getElem?_map, hx127]; rfl)
  have hc9 : w.cell? ⟨bb, 9, none⟩ = some (.int .u8 x9) := h.cell (by rw [List.getElem?_map, hx9]; rfl)
  have hb0 := hb x0 (List.mem_of_getElem? hx0)
  have hb9 := hb x9 (List.mem_of_getElem? hx9)
  have hg := getVal_bounds ((bs.drop 1).take 8)
  have hs8 := h.cut8 1 8 (by omega)
  have hb8 : Bytes ((bs.drop 1).take 8) := fun u hu => hb u (List.mem_of_mem_drop (List.mem_of_mem_take hu))
  have Hx0 := Lib.hid hx0; have Hx127 := Lib.hid hx127; have Hx9 := Lib.hid hx9; have Hb := Lib.hid hb; have Hl := Lib.hid hl
  clear hx0 hx127 hx9 hb hl
  by_cases h0 : ¬ x0 = kind
  · have Hno := Lib.hid (show ∀ n l, ¬ SealedBy bs kind n l from fun n l hs => h0 (hs.not0 Hx0.out))
    go_enter Tryd.func14, Tryd.ntmps14
    go_wp2_with fail
    go_ret3
    exact OpenEnd.not Hno.out (Below.refl _ _)
  replace h0 := Classical.not_not.1 h0
  subst h0
  by_cases h127 : ¬ x127 = 215
  · have Hno := Lib.hid (show ∀ n l, ¬ SealedBy bs x0 n l from fun n l hs => h127 (hs.not127 Hx127.out))
    go_enter Tryd.func14, Tryd.ntmps14
    go_wp2_with fail
    go_ret3
    exact OpenEnd.not Hno.out (Below.refl _ _)
  replace h127 := Classical.not_not.1 h127
  subst h127
  obtain ⟨g, hgv⟩ : ∃ g, g = getVal ((bs.drop 1).take 8) := ⟨_, rfl⟩
  have Hgv := Lib.hid hgv
  rw [← hgv] at hg
  clear hgv
  go_enter Tryd.func14, Tryd.ntmps14
  go_wp2_with fail
  refine (rget_any (some ⟨bb, 1, none⟩) 8 127 _ w hs8 hb8 (by omega)).mono ?_
  rintro e w1 ⟨hb1, rfl⟩
  rw [← Hgv.out]
  have h1 := h.kept (hb1.block _ h.lt)
  have hc9' : w1.cell? ⟨bb, 9, none⟩ = some (.int .u8 x9) := (hb1.cell h.lt).trans hc9
  by_cases k1 : x0 < 1
  · have Hno := Lib.hid (show ∀ n l, ¬ SealedBy bs x0 n l from fun n l hs => by have := hs.2.1; omega)
    go_wp2_with fail
    go_ret3
    exact OpenEnd.not Hno.out hb1
  have k2 : ¬ 255 < x0 := by omega
  by_cases k3 : g < 0
  · have Hno := Lib.hid (show ∀ n l, ¬ SealedBy bs x0 n l from fun n l hs => by have h2 := hs.num; rw [← Hgv.out] at h2; have := hs.2.2.2.1; omega)
    go_wp2_with fail
    go_ret3
    exact OpenEnd.not Hno.out hb1
  by_cases k4 : 113 < x9
  · have Hno := Lib.hid (show ∀ n l, ¬ SealedBy bs x0 n l from fun n l hs => by have h2 := hs.not9 Hx9.out; omega)
    go_wp2_with fail
    go_ret3
    exact OpenEnd.not Hno.out hb1
  obtain ⟨s, rfl⟩ := Int.eq_ofNat_of_zero_le hb9.1
  have hs113 : s ≤ 113 := by omega
  have hwr : IntKind.i64.wrap (10 + (s : Int)) = ((10 + s : Nat) : Int) := by rw [IntKind.wrap_i64]; omega
  obtain ⟨l, hll⟩ : ∃ l, l = (bs.drop 10).take s := ⟨_, rfl⟩
  have hlen : l.length = s := by rw [hll, List.length_take, List.length_drop, Hl.out]; omega
  have hsl := h1.cut8 10 s (by rw [Hl.out]; omega)
  rw [← hll] at hsl
  have hlb : Bytes l := by rw [hll]; exact fun u hu => Hb.out u (List.mem_of_mem_drop (List.mem_of_mem_take hu))
  have Hll := Lib.hid hll
  have Hlen := Lib.hid hlen
  clear hll hlen
  have k4I : decide (113 < (s : Int)) = false := decide_eq_false (by omega)
  have hsz1 := hb1.size
  go_wp2_with fail
  refine (rbytes_any x0 g ⟨by omega, by omega⟩ ⟨by omega, hg.2⟩ (some ⟨bb, 10, none⟩) s (118) l w1 hsl hlb hs113).mono ?_
  rintro e w2 ⟨B, cc, rfl, hs2, hb2⟩
  have hbs2 := (h1.kept (hb2.block _ h1.lt)).cut8 0 128 (by rw [Hl.out]; omega)
  rw [List.drop_zero, List.take_of_length_le (by rw [Hl.out]; omega)] at hbs2
  obtain ⟨q, hq⟩ : ∃ q, q = decide (sealed x0 g l = bs) := ⟨_, rfl⟩
  have Hq := Lib.hid hq
  clear hq
  have hsl2 := hsl.below hb2
  go_wp2_with fail
  refine (same_is7 q B (some ⟨bb, 0, none⟩) 128 128 cc 128 (sealed x0 g l) bs w2 hs2 hbs2 (by omega) (by omega) Hq.out).mono ?_
  rintro e w3 ⟨rfl, hb3⟩
  have hb23 : Below w.heap.size w w3 := hb1.trans ((hb2.trans (hb3.mono hb2.size)).mono hsz1)
  cases q with
  | false =>
    have Hno := Lib.hid (show ∀ n l, ¬ SealedBy bs x0 n l from fun n' l' hs => by
      have h2 := hs.num
      have h9 := hs.not9 Hx9.out
      have h3 := hs.load
      have e1 : l'.length = s := by omega
      rw [e1, ← Hll.out] at h3
      rw [← Hgv.out] at h2
      exact of_decide_eq_false Hq.out.symm (by rw [hs.1, h2, h3]))
    go_wp2_with fail
    go_ret3
    exact OpenEnd.not Hno.out hb23
  | true =>
    have Hyes := Lib.hid (show SealedBy bs x0 g l from ⟨(of_decide_eq_true Hq.out.symm).symm, by omega, by omega, by omega, hg.2, by rw [Hlen.out]; exact hs113, hlb⟩)
    go_wp2_with fail
    go_ret3
    exact OpenEnd.has Hyes.out Hlen.out (hsl2.below hb3) hb23
end Go.Proofs.YtpmhjmbiiihfoaaDoor
