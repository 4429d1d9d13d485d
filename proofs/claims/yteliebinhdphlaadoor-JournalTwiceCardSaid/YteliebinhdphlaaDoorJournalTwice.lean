/- The law JournalTwice, walked. -/
import Derived.Test.YteliebinhdphlaaDoorLists3
import Derived.Test.YteliebinhdphlaaDoorM7
namespace Go.Proofs.YteliebinhdphlaaDoor
set_option maxRecDepth 100000
open Go.RowKit Go.Deep
set_option linter.unusedSimpArgs false
set_option linter.unusedVariables false

section
variable (B : Nat) (K : Nat → Prop) (w : World) (d : Nat) (S : DS) (h : PK B K w d S)
include h
theorem pk_image : Calls Tryd.prog 18 #[.pointer (some ⟨d, 0, none⟩)] w fun e w' => ∃ v, e = .returned v ∧ w'.ownsRow w.heap.size 5 1 v (128 * S.kept.length) (u8s S.kept.flatten) ∧ Below w.heap.size w w' := by
  obtain ⟨F, h1, _⟩ := h
  exact dimage_is F w d S h1
theorem pk_meter : Calls Tryd.prog 25 #[.pointer (some ⟨d, 0, none⟩)] w fun e w' => ∃ mb L, e = .returned (.pointer (some ⟨mb, 0, none⟩)) ∧ PMet w' mb L ∧ mGet L 2 = S.ops.getD 1 0 ∧ Below w.heap.size w w' := by
  obtain ⟨F, h1, _⟩ := h
  refine (dmeter_is F w d S h1).mono ?_
  rintro e w' ⟨mb, L, rfl, hP, hL, hO⟩
  refine ⟨mb, L, rfl, hP, ?_, hO.below (Nat.le_refl _) (fun _ hk => hk.elim)⟩
  rw [← hL]
  simp [mGet, mHas, List.getD, List.getElem?_take]
theorem pk_waits : Calls Tryd.prog 27 #[.pointer (some ⟨d, 0, none⟩)] w fun e w' => e = .returned (.int .i64 (S.waits.length : Int)) ∧ Below w.heap.size w w' := by
  obtain ⟨F, h1, _⟩ := h
  refine (dwaits_is F w d S h1).mono ?_
  rintro e w' ⟨rfl, hO⟩
  exact ⟨rfl, hO.below (Nat.le_refl _) (fun _ hk => hk.elim)⟩
end
theorem reads_ops (S : DS) (k : Nat) : (S.reads k).ops.getD 1 0 = S.ops.getD 1 0 := by
  induction k with
  | zero => rfl
  | succ k ih =>
    rw [← ih]
    show (((S.reads k).ops.set 0 _).getD 1 0) = _
    simp [List.getD, List.getElem?_set_ne]
theorem reads_reads (S : DS) (a b : Nat) : (S.reads a).reads b = S.reads (a + b) := by
  induction b with
  | zero => rfl
  | succ b ih =>
    show ((S.reads a).reads b).count 0 = _
    rw [ih]; rfl
/-- A record is got. -/
theorem jget_rec {S : DS} (ho : S.off = false) (hlen : S.kept.length = 10) {i next : Nat} (hi : i < next) (hn : next ≤ 8) (hr : isRec 3 (S.at_ (1 + i)) i = true) : S.jGet 1 8 3 next i = ((openOf (S.at_ (1 + i)) 3).2.1, 0, S.count 0) := by
  obtain ⟨r1, r2⟩ := isRec_true.1 hr
  have hread : S.arRead ((1 : Nat) : Int) ((8 : Nat) : Int) (i : Int) = (S.at_ (1 + i), 0, S.count 0) := by
    unfold DS.arRead
    rw [if_neg (by omega), show (((1 : Nat) : Int) + (i : Int)) = ((1 + i : Nat) : Int) by omega]
    unfold DS.readOf
    rw [if_neg (by rw [ho]; decide), if_neg (by rw [hlen]; omega)]
    show (S.at_ (((1 + i : Nat) : Int).toNat), (0 : Int), S.count 0) = _
    rw [show (((1 + i : Nat) : Int).toNat) = 1 + i by omega]
  have htake : S.arTake ((1 : Nat) : Int) ((8 : Nat) : Int) (i : Int) 3 = ((i : Int), (openOf (S.at_ (1 + i)) 3).2.1, 0, S.count 0) := by
    unfold DS.arTake
    rw [hread, if_pos rfl]
    show ((openOf (S.at_ (1 + i)) 3).1, (openOf (S.at_ (1 + i)) 3).2.1, (openOf (S.at_ (1 + i)) 3).2.2, S.count 0) = _
    rw [r1, r2]
  unfold DS.jGet
  rw [if_neg (by omega), htake, if_neg (by simp), if_neg (by simp)]
theorem LO.stay {w w' : World} {B : Nat} {K R : Nat → Prop} {v : Value} {L : List (List Int)} (h : LO w B K R v L) (hR : ∀ k, R k → K k) (hst : ∀ k, K k → w'.heap[k]? = w.heap[k]?) (hb : Below B w w') : LO w' B K R v L := by
  obtain ⟨vs, h1, h2, h3⟩ := h
  exact ⟨vs, own_stays h1 (fun k hk => hst k (h2 k hk).1), h2, h3.stay (fun k hk => by
    rcases hk with hk | hk
    · exact hst k (hR k hk)
    · exact hb.block k hk)⟩
/-- What is there behind an opening. -/
def loadsOf (S : DS) (k : Nat) : List (List Int) := (List.range k).map fun i => (openOf (S.at_ (1 + i)) 3).2.1

set_option maxHeartbeats 12800000 in
theorem journalTwice_walk (w : World) (ht : Tabs w) (A0 : Option Addr) (n0 c0 : Nat) (xs : List Int) (hx0 : Sl w A0 n0 (u8s xs)) (hxb0 : ∀ x ∈ xs, 0 ≤ x ∧ x < 256) (hn0 : n0 ≤ 9223372036854775807) (hnc0 : n0 ≤ c0) :
    Calls Tryd.prog 5 #[.slice A0 n0 c0] w fun e w' => e = .returned (.bool true) ∧ Below w.heap.size w w' := by
  have Ht := Lib.hid ht
  obtain ⟨B, hBw⟩ : ∃ B, B = w.heap.size := ⟨_, rfl⟩
  have hTB0 := NoTabs.of_tabs (F := fun k => w.heap.size ≤ k) ht (fun k h => h)
  rw [← hBw] at hTB0
  have HTB := Lib.hid hTB0
  have HB := Lib.hid hBw
  have Haw := Lib.hid (awake9_any w ht)
  clear ht hTB0 hBw
  go_enter Tryd.func5, Tryd.ntmps5
  go_wp2_with fail
  refine Haw.out.mono ?_
  rintro e w1 ⟨rfl, hb1⟩
  by_cases hbig : 1280 < n0
  · have hbigi : (1280 : Int) < (n0 : Int) := by omega
    go_wp2_with fail
    go_ret
    exact ⟨rfl, hb1⟩
  have hbigi : (n0 : Int) ≤ 1280 := by omega
  have Hmade := Lib.hid (made9_is w1 A0 n0 c0 10 xs (hx0.below hb1) hnc0 hxb0 (by omega) (by omega))
  clear Haw
  go_wp2_with fail
  refine Hmade.out.mono ?_
  rintro e w2 ⟨hb2, ⟨_, d, a, F, rfl, hF, hFB, ha2, hal, hFa⟩ | ⟨hsec, _⟩⟩
  rotate_left
  · unfold sectorsOf at hsec; omega
  have hbB2 : Below B w w2 := (hb1.mono (Nat.le_of_eq HB.out)).trans (hb2.mono (by rw [HB.out]; exact hb1.size))
  have hB1 : B ≤ w1.heap.size := by rw [HB.out]; exact hb1.size
  have hpk2 : PK B (fun k => k = a) w2 d (DS.loaded 10 10 xs) := ⟨F, hF, fun k hk => Nat.le_trans hB1 (hFB k hk), fun k hk => by rw [hk]; exact ⟨hFa, Nat.le_trans hB1 hal, ha2.lt⟩⟩
  obtain ⟨S0, hS0⟩ : ∃ S0, S0 = DS.loaded 10 10 xs := ⟨_, rfl⟩
  rw [← hS0] at hpk2
  have hlen0 : S0.kept.length = 10 := by rw [hS0]; simp [DS.loaded]
  have hw0 : S0.waits = [] := by rw [hS0]; rfl
  have hoff0 : S0.off = false := by rw [hS0]; rfl
  have hcut0 : S0.cut = -1 := by rw [hS0]; rfl
  have hroom0 : S0.room = 10 := by rw [hS0]; rfl
  have ht2 : Tabs w2 := (Ht.out).base hbB2 HTB.out
  have hB2 : B ≤ w2.heap.size := Nat.le_trans hB1 hb2.size
  -- what opening leaves
  obtain ⟨r, hr⟩ : ∃ r, r = S0.jOpen 1 8 3 := ⟨_, rfl⟩
  obtain ⟨k, hk⟩ : ∃ k, k = jNext 3 8 (S0.rowAt 1) := ⟨_, rfl⟩
  obtain ⟨n1, n2, n3⟩ := jNext_spec 3 8 (S0.rowAt 1)
  rw [← hk] at n1 n2 n3
  obtain ⟨j1, j2, j3⟩ := jopen_on (S := S0) (f := 1) (m := 8) (kind := 3) (by decide) hoff0 hw0 (by rw [hlen0]; decide) (by rw [hlen0, hroom0]; decide)
  have hl1 := (jOpen_same S0 1 8 3).2.1
  rw [← hr] at j1 j2 j3 hl1
  have hr0 := (j3 hcut0).1
  have hst : r.2.1 = k ∧ r.2.2.off = false ∧ r.2.2.waits = [] ∧ (∀ i, i < 8 → r.2.2.at_ (1 + i) = if i < k then S0.at_ (1 + i) else zeros128) := by
    rcases j1 with ⟨e1, e2, e3, e4, e5⟩ | ⟨e1, _⟩
    · exact ⟨by rw [e2, hk], e3, e4, fun i hi => by rw [e5 i hi, ← hk]⟩
    · rw [hr0] at e1; exact absurd e1 (by decide)
  have Hop := Lib.hid (pk_open B _ w2 a d S0 hpk2 ha2 rfl hlen0 hB2 ht2 HTB.out 3 (by omega) (by rw [hw0]; simp) r hr)
  rw [hlen0] at hl1
  clear hr hS0 j1 j2 j3 hF hFB Hmade hb2
  go_wp2_with fail
  refine Hop.out.mono ?_
  rintro e w3 ⟨hb3, hst3, ⟨h0, _⟩ | ⟨_, j, rfl, hjl, hj3, hpk3⟩⟩
  · exact absurd hr0 h0
  obtain ⟨rn, roff, rw0, rat⟩ := hst
  obtain ⟨S1, hS1⟩ : ∃ S, S = r.2.2 := ⟨_, rfl⟩
  rw [← hS1] at roff rw0 rat hl1 hpk3
  rw [rn] at hj3
  have ha3 : PArea w3 a d 1 8 := ha2.kept (hst3 a rfl (fun h => h))
  have hbB3 := hbB2.trans hb3
  have hB3 : B ≤ w3.heap.size := Nat.le_trans hB2 hb3.size
  have hrec : ∀ i, i < k → isRec 3 (S1.at_ (1 + i)) i = true := fun i hi => by rw [rat i (by omega), if_pos hi]; exact n2 i hi
  have hblank : ∀ i, k ≤ i → i < 8 → S1.at_ (1 + i) = zeros128 := fun i h1 h2 => by rw [rat i h2, if_neg (by omega)]
  have hnext1 : jNext 3 8 (S1.rowAt 1) = k := jNext_one n1 hrec (fun h => by show isRec 3 (S1.at_ (1 + k)) k = false; rw [hblank k (Nat.le_refl _) h]; exact zeros_rec (by decide))
  have hopen2 : S1.jOpen 1 8 3 = (0, k, S1.reads 8) := by
    have := jopen_blank (S := S1) (f := 1) (m := 8) (kind := 3) (by decide) roff (fun i h1 h2 => hblank i (by rw [← hnext1]; exact h1) h2)
    rw [hnext1] at this; exact this
  clear hS1 Hop hst3 hpk2 ha2
  -- what stands on the disk
  obtain ⟨kn, hkn⟩ : ∃ kn, kn = 128 * S1.kept.length := ⟨_, rfl⟩
  obtain ⟨fl, hfl⟩ : ∃ fl, fl = S1.kept.flatten := ⟨_, rfl⟩
  have hknm : kn ≤ 9223372036854775807 := by rw [hkn, hl1]; omega
  have Himg := Lib.hid (by have := pk_image B _ w3 d S1 hpk3; rw [← hkn, ← hfl] at this; exact this)
  have Hkn := Lib.hid hkn
  have Hfl := Lib.hid hfl
  clear hkn hfl
  go_wp2_with fail
  refine Himg.out.mono ?_
  rintro e w4 ⟨v1, rfl, hv1, hb4⟩
  have hpk4 := hpk3.new hB3 hb4
  have ha4 := ha3.kept (hb4.block _ ha3.lt)
  have hj4 := hj3.kept (hb4.block _ hj3.lt)
  have hB4 : B ≤ w4.heap.size := Nat.le_trans hB3 hb4.size
  have hbB4 := hbB3.trans (hb4.mono hB3)
  obtain ⟨A3, c3, rfl, hs3⟩ := own_form hv1
  have Hmet := Lib.hid (pk_meter B _ w4 d S1 hpk4)
  clear Himg hpk3 ha3 hj3
  go_wp2_with fail
  refine Hmet.out.mono ?_
  rintro e w5 ⟨mb, L, rfl, hP5, hL5, hb5⟩
  have hpk5 := hpk4.below hb5
  have ha5 := ha4.kept (hb5.block _ ha4.lt)
  have hj5 := hj4.kept (hb5.block _ hj4.lt)
  have hv5 := own_below hv1 hb5
  have hB5 : B ≤ w5.heap.size := Nat.le_trans hB4 hb5.size
  have hbB5 := hbB4.trans (hb5.mono hB4)
  have ht5 : Tabs w5 := (Ht.out).base hbB5 HTB.out
  obtain ⟨op1, hop1⟩ : ∃ x, x = S1.ops.getD 1 0 := ⟨_, rfl⟩
  rw [← hop1] at hL5
  have Hop1 := Lib.hid hop1
  clear hop1
  have Hcnt := Lib.hid (pcount_is w5 mb L 2 hP5)
  clear Hmet hpk4 ha4 hj4 hP5
  go_wp2_with fail
  refine Hcnt.out.mono ?_
  rintro e w6 ⟨rfl, hw6⟩
  obtain rfl := hw6.symm
  rw [hL5]
  have Hop2 := Lib.hid (pk_open B _ w5 a d S1 hpk5 ha5 (Or.inl (Or.inl rfl)) hl1 hB5 ht5 HTB.out 3 (by omega) (by rw [rw0]; simp) (0, k, S1.reads 8) hopen2.symm)
  clear Hcnt
  go_wp2_with fail
  refine Hop2.out.mono ?_
  rintro e w7 ⟨hb7, hst7, ⟨h0, _⟩ | ⟨_, j', rfl, hjl', hj7', hpk7⟩⟩
  · exact absurd rfl h0
  obtain ⟨S2, hS2⟩ : ∃ S, S = S1.reads 8 := ⟨_, rfl⟩
  have hpk7 : PK B (fun k => ((k = a ∨ k = j) ∨ (w3.heap.size ≤ k ∧ k < w4.heap.size)) ∨ k = j') w7 d S2 := by rw [hS2]; exact hpk7
  have ha7 : PArea w7 a d 1 8 := ha5.kept (hst7 a (Or.inl (Or.inl rfl)) (fun h => h))
  have hj7 : PJ w7 j a 3 k := hj5.kept (hst7 j (Or.inl (Or.inr rfl)) (fun h => h))
  have hj7' : PJ w7 j' a 3 k := hj7'
  have hB7 : B ≤ w7.heap.size := Nat.le_trans hB5 hb7.size
  have hbB7 := hbB5.trans hb7
  have hl2 : S2.kept.length = 10 := by rw [hS2, (reads_same S1 8).1]; exact hl1
  have hk2 : S2.kept = S1.kept := by rw [hS2]; exact (reads_same S1 8).1
  have hw2 : S2.waits = [] := by rw [hS2, (reads_same S1 8).2.2.1]; exact rw0
  have hop2 : S2.ops.getD 1 0 = op1 := by rw [hS2, reads_ops, Hop1.out]
  have hv7 : w7.ownsRow w3.heap.size 5 1 (.slice A3 kn c3) kn (u8s fl) := own_stays hv5 (fun b hb => hst7 b (Or.inr ⟨(hv5.lt b hb).1, by
    have := (hv1.lt b hb).2; exact this⟩) (fun h => h))
  have hs7 : Sl w7 A3 kn (u8s fl) := by
    obtain ⟨A', c', e, hsl⟩ := own_form hv7
    cases e
    exact hsl
  have ht7 : Tabs w7 := (Ht.out).base hbB7 HTB.out
  have Hl1 := Lib.hid (pk_len B _ w7 a d S2 hpk7 ha7 (Or.inl (Or.inl (Or.inl rfl))) hl2 hB7 ht7 HTB.out j 3 k hj7 (Or.inl (Or.inl (Or.inr rfl))) n1 (by omega))
  clear Hop2 hst7 hpk5 ha5 hj5 hv5 hs3 hv1
  go_wp2_with fail
  refine Hl1.out.mono ?_
  rintro e w8 ⟨rfl, hb8⟩
  have hpk8 := hpk7.below hb8
  have ha8 := ha7.kept (hb8.block _ ha7.lt)
  have hj8 := hj7.kept (hb8.block _ hj7.lt)
  have hj8' := hj7'.kept (hb8.block _ hj7'.lt)
  have hs8 := hs7.below hb8
  have hB8 : B ≤ w8.heap.size := Nat.le_trans hB7 hb8.size
  have hbB8 := hbB7.trans (hb8.mono hB7)
  have ht8 : Tabs w8 := (Ht.out).base hbB8 HTB.out
  have Hl2 := Lib.hid (pk_len B _ w8 a d S2 hpk8 ha8 (Or.inl (Or.inl (Or.inl rfl))) hl2 hB8 ht8 HTB.out j' 3 k hj8' (Or.inr rfl) n1 (by omega))
  clear Hl1 hpk7 ha7 hj7 hj7' hv7 hs7
  go_wp2_with fail
  refine Hl2.out.mono ?_
  rintro e w9 ⟨rfl, hb9⟩
  have hpk9 := hpk8.below hb9
  have ha9 := ha8.kept (hb9.block _ ha8.lt)
  have hj9 := hj8.kept (hb9.block _ hj8.lt)
  have hj9' := hj8'.kept (hb9.block _ hj8'.lt)
  have hs9 := hs8.below hb9
  have hB9 : B ≤ w9.heap.size := Nat.le_trans hB8 hb9.size
  have hbB9 := hbB8.trans (hb9.mono hB8)
  have Himg := Lib.hid (by have := pk_image B _ w9 d S2 hpk9; rw [hk2, ← Hkn.out, ← Hfl.out] at this; exact this)
  clear Hl2 hpk8 ha8 hj8 hj8' hs8
  go_wp2_with fail
  refine Himg.out.mono ?_
  rintro e w10 ⟨v2, rfl, hv2, hb10⟩
  obtain ⟨A4, c4, rfl, hs4⟩ := own_form hv2
  have hpk10 := hpk9.below hb10
  have ha10 := ha9.kept (hb10.block _ ha9.lt)
  have hj10 := hj9.kept (hb10.block _ hj9.lt)
  have hj10' := hj9'.kept (hb10.block _ hj9'.lt)
  have hB10 : B ≤ w10.heap.size := Nat.le_trans hB9 hb10.size
  have hbB10 := hbB9.trans (hb10.mono hB9)
  have Hsm := Lib.hid (same_any A3 A4 kn kn c3 c4 fl fl w10 (hs9.below hb10) hs4 hknm hknm)
  clear Himg hpk9 ha9 hj9 hj9' hs9 hs4 hv2
  go_wp2_with fail
  refine Hsm.out.mono ?_
  rintro e w11 ⟨rfl, q11, hw11⟩
  have hb11 : Below w10.heap.size w10 w11 := by rw [hw11]; exact below_drewN (Below.refl _ _) q11
  have hpk11 := hpk10.below hb11
  have ha11 := ha10.kept (hb11.block _ ha10.lt)
  have hj11 := hj10.kept (hb11.block _ hj10.lt)
  have hj11' := hj10'.kept (hb11.block _ hj10'.lt)
  have hB11 : B ≤ w11.heap.size := Nat.le_trans hB10 hb11.size
  have hbB11 := hbB10.trans (hb11.mono hB10)
  have Hmet := Lib.hid (by have := pk_meter B _ w11 d S2 hpk11; rw [hop2] at this; exact this)
  clear Hsm hpk10 ha10 hj10 hj10' hw11
  rw [decide_true]
  go_wp2_with fail
  refine Hmet.out.mono ?_
  rintro e w12 ⟨mb', L', rfl, hP12, hL12, hb12⟩
  have hpk12 := hpk11.below hb12
  have ha12 := ha11.kept (hb12.block _ ha11.lt)
  have hj12 := hj11.kept (hb12.block _ hj11.lt)
  have hj12' := hj11'.kept (hb12.block _ hj11'.lt)
  have hB12 : B ≤ w12.heap.size := Nat.le_trans hB11 hb12.size
  have hbB12 := hbB11.trans (hb12.mono hB11)
  have Hcnt := Lib.hid (pcount_is w12 mb' L' 2 hP12)
  have Hwt := Lib.hid (by have := pk_waits B _ w12 d S2 hpk12; rw [hw2] at this; exact this)
  clear Hmet hpk11 ha11 hj11 hj11' hP12
  go_wp2_with fail
  refine Hcnt.out.mono ?_
  rintro e w13 ⟨rfl, hw13⟩
  obtain rfl := hw13.symm
  rw [hL12]
  clear Hcnt
  go_wp2_with fail
  refine Hwt.out.mono ?_
  rintro e w14 ⟨rfl, hb14⟩
  have hpk14 := hpk12.below hb14
  have ha14 := ha12.kept (hb14.block _ ha12.lt)
  have hj14 := hj12.kept (hb14.block _ hj12.lt)
  have hj14' := hj12'.kept (hb14.block _ hj12'.lt)
  have hB14 : B ≤ w14.heap.size := Nat.le_trans hB12 hb14.size
  have hbB14 := hbB12.trans (hb14.mono hB12)
  have ht14 : Tabs w14 := (Ht.out).base hbB14 HTB.out
  -- all of it, twice
  obtain ⟨all, hall⟩ : ∃ all, all = loadsOf S1 k := ⟨_, rfl⟩
  have halen : all.length = k := by rw [hall]; simp [loadsOf]
  have hat2 : ∀ t q, (S2.reads t).at_ q = S1.at_ q := fun t q => by rw [reads_at, hS2, reads_at]
  have haget : ∀ (i : Nat) (l : List Int), all[i]? = some l → i < k ∧ l = (openOf (S1.at_ (1 + i)) 3).2.1 := fun i l hl => by
    have hi := (List.getElem?_eq_some_iff.1 hl).1
    rw [halen] at hi
    rw [hall, loadsOf, List.getElem?_map, List.getElem?_range hi] at hl
    simp at hl
    exact ⟨hi, hl.symm⟩
  have hget : ∀ (t0 : Nat) (i : Nat) (l : List Int), all[i]? = some l → ∀ t, ((S2.reads t0).reads t).jGet 1 8 3 all.length i = (l, 0, (S2.reads t0).reads (t + 1)) := fun t0 i l hl t => by
    obtain ⟨hi, e⟩ := haget i l hl
    have hat := hat2 (t0 + t) (1 + i)
    rw [← reads_reads] at hat
    have h5 := (reads_same (S2.reads t0) t)
    have h6 := (reads_same S2 t0)
    have h7 := (reads_same S1 8)
    rw [halen, jget_rec (S := (S2.reads t0).reads t) (by rw [h5.2.2.2.2.2, h6.2.2.2.2.2, hS2, h7.2.2.2.2.2]; exact roff) (by rw [h5.1, h6.1]; exact hl2) hi n1 (by rw [hat]; exact hrec i hi), hat, ← e]
    rfl
  have hwf1 : ∀ l ∈ all, l.length ≤ 113 := fun l hl => by
    obtain ⟨i, hi⟩ := List.mem_iff_getElem?.1 hl
    obtain ⟨h1, e⟩ := haget i l hi
    have hat := hat2 0 (1 + i)
    have hbt := at_byte hpk14.wf (n := 1 + i) (by rw [hl2]; omega)
    rw [show S2.at_ (1 + i) = S1.at_ (1 + i) from hat] at hbt
    rw [e]
    exact (openOf_says hbt.2 3).bounds.2.1
  have HLo := Lib.hid (loads_is B _ w14 a d S2 hpk14 ha14 (Or.inl (Or.inl (Or.inl rfl))) hl2 hB14 ht14 HTB.out j all (by rw [halen]; exact hj14) (Or.inl (Or.inl (Or.inr rfl))) (by rw [halen]; exact n1) hwf1 (fun i l hl t => hget 0 i l hl t))
  clear Hwt hpk12 ha12 hj12 hj12'
  go_wp2_with fail
  refine HLo.out.mono ?_
  rintro e w15 ⟨vx, K1, R1, rfl, hKK, hRK, hvx, hpk15, hLO, hb15, hst15⟩
  have ha15 : PArea w15 a d 1 8 := ha14.kept (hst15 a (Or.inl (Or.inl (Or.inl rfl))) (fun h => h))
  have hj15' : PJ w15 j' a 3 k := hj14'.kept (hst15 j' (Or.inr rfl) (fun h => h))
  have hB15 : B ≤ w15.heap.size := Nat.le_trans hB14 hb15.size
  have hbB15 := hbB14.trans hb15
  have ht15 : Tabs w15 := (Ht.out).base hbB15 HTB.out
  have HLo2 := Lib.hid (loads_is B K1 w15 a d (S2.reads all.length) hpk15 ha15 (hKK a (Or.inl (Or.inl (Or.inl rfl)))) (by rw [(reads_same S2 all.length).1]; exact hl2) hB15 ht15 HTB.out j' all (by rw [halen]; exact hj15') (hKK j' (Or.inr rfl)) (by rw [halen]; exact n1) hwf1 (fun i l hl t => hget all.length i l hl t))
  clear HLo hpk14 ha14 hj14 hj14'
  go_wp2_with fail
  refine HLo2.out.mono ?_
  rintro e w16 ⟨vy, K2, R2, rfl, hKK2, hRK2, hvy, hpk16, hLO2, hb16, hst16⟩
  have hx16 := (hLO.stay (fun b hb => (hRK b hb).1) (fun b hb => hst16 b hb (fun h => h)) hb16).lr
  have hy16 := hLO2.lr
  have hB16 : B ≤ w16.heap.size := Nat.le_trans hB15 hb16.size
  have hbB16 := hbB15.trans hb16
  have Hbg := Lib.hid (begins_is w16 vx vy all all hx16 hy16 (Nat.le_refl _) (by rw [halen]; omega) (fun i l hl => hl))
  clear HLo2 hpk15 ha15 hj15' hpk16
  go_wp2_with fail
  refine Hbg.out.mono ?_
  rintro e w17 ⟨rfl, hb17⟩
  have Hbg2 := Lib.hid (begins_is w17 vy vx all all (hy16.below hb17) (hx16.below hb17) (Nat.le_refl _) (by rw [halen]; omega) (fun i l hl => hl))
  have hbB17 := hbB16.trans (hb17.mono hB16)
  have hB17 : B ≤ w17.heap.size := Nat.le_trans hB16 hb17.size
  clear Hbg
  go_wp2_with fail
  refine Hbg2.out.mono ?_
  rintro e w18 ⟨rfl, hb18⟩
  go_wp2_with fail
  go_ret
  have := hbB17.trans (hb18.mono hB17)
  rw [HB.out] at this
  exact ⟨rfl, this⟩
end Go.Proofs.YteliebinhdphlaaDoor
