/- The law DiskNone, walked. -/
import Derived.Test.YthdclncgmhgmfaaPN
import Derived.Test.YthdclncgmhgmfaaDo1
import Derived.Test.YthdclncgmhgmfaaAwake6
namespace Go.Proofs.Ythdclncgmhgmfaa
open Go.RowKit Go.Deep
set_option linter.unusedSimpArgs false
set_option linter.unusedVariables false

theorem info_pd : (Try.prog.info? 27).map (fun i => (i.zero, i.size, i.bytes)) = some (some (.pointer none), 1, 8) := by kernel_rfl

theorem no_grown {w w' : World} {p : Option Addr} {base m : Nat} {v : Value} {xs : List Value} {o : Obj} (h : NoD w p) (hown : w.ownsRow base 27 1 v m xs) (hg : (w.alloc o).grownBy w' v.ownBlock) : NoD w' p := by
  rcases h with h | ⟨b, h, hk⟩
  · exact Or.inl h
  · refine Or.inr ⟨b, h, hk.kept ?_⟩
    rw [hg.block b (by rw [nblk_alloc]; have := hk.lt; omega) (own_ne hown hk (by decide)), blk_alloc_lt _ _ _ hk.lt]
/-- Some pointers to disks that are none. -/
def NoDs (w : World) (A : Option Addr) (m : Nat) : Prop := ∃ ps : List (Option Addr), Sl w A m (ps.map Value.pointer) ∧ ∀ p ∈ ps, NoD w p
theorem NoDs.below {w w' : World} {A : Option Addr} {m : Nat} (h : NoDs w A m) (hb : Below w.heap.size w w') : NoDs w' A m := by
  obtain ⟨ps, h1, h2⟩ := h
  exact ⟨ps, h1.below hb, fun p hp => (h2 p hp).below hb⟩

set_option maxRecDepth 100000 in
set_option maxHeartbeats 12800000 in
theorem diskNone_walk (w : World) (s r kind num : Int) (A : Option Addr) (n c : Nat) (hs : -9223372036854775808 ≤ s ∧ s ≤ 9223372036854775807) (hr : -9223372036854775808 ≤ r ∧ r ≤ 9223372036854775807) :
    Calls Try.prog 5 #[.int .i64 s, .int .i64 r, .agg #[.int .i64 kind, .int .i64 num, .slice A n c]] w fun e w' => e = .returned (.bool true) ∧ Below w.heap.size w w' := by
  obtain ⟨w1, hw1⟩ : ∃ w1, w1 = w.alloc (.cells #[.int .i64 kind, .int .i64 num, .slice A n c] 36) := ⟨_, rfl⟩
  have hb1 : Below w.heap.size w w1 := by rw [hw1]; exact below_alloc _ _
  have hP : Blk w1 w.heap.size 36 [.int .i64 kind, .int .i64 num, .slice A n c] := by rw [hw1]; exact Blk.new _ _ _
  have Hw1 := Lib.hid hw1
  clear hw1
  obtain ⟨ip, hip, hzp, hsp, hbp⟩ := info_parts' info_pd
  go_enter Try.func5, Try.ntmps5
  go_wp2_with fail
  rw [← Hw1.out]
  refine (awake6_any w1).mono ?_
  rintro e w2 ⟨rfl, hb2⟩
  have hP2 := hP.kept (hb2.block _ hP.lt)
  have hbt2 : Below w.heap.size w w2 := hb1.trans (hb2.mono hb1.size)
  have hc2 := hP2.cell (i := 2) rfl
  by_cases hbig : 200 < n
  · go_wp2
    go_ret
    exact ⟨rfl, hbt2⟩
  clear hP hb1 hb2 Hw1
  obtain ⟨w3, hw3⟩ : ∃ w3, w3 = (w2.alloc (.cells #[.slice none 0 0, .slice none 0 0, .int .i64 0, .int .i64 0, .bool false, .pointer none] 63)).alloc (.cells #[.pointer none, .pointer (some ⟨w2.heap.size, 0, none⟩)] 27) := ⟨_, rfl⟩
  have hnb : Blk (w2.alloc (.cells #[.slice none 0 0, .slice none 0 0, .int .i64 0, .int .i64 0, .bool false, .pointer none] 63)) w2.heap.size 63 [.slice none 0 0, .slice none 0 0, .int .i64 0, .int .i64 0, .bool false, .pointer none] := Blk.new w2 63 [.slice none 0 0, .slice none 0 0, .int .i64 0, .int .i64 0, .bool false, .pointer none]
  have hsz3 : (w2.alloc (.cells #[.slice none 0 0, .slice none 0 0, .int .i64 0, .int .i64 0, .bool false, .pointer none] 63)).heap.size = w2.heap.size + 1 := nblk_alloc _ _
  have hb3 : Below w2.heap.size w2 w3 := by rw [hw3]; exact (below_alloc w2 _).trans ((below_alloc _ _).mono (by rw [hsz3]; omega))
  have hno3 : NoD w3 (some ⟨w2.heap.size, 0, none⟩) := Or.inr ⟨_, rfl, by rw [hw3]; exact hnb.alloc _⟩
  have hown3 : w3.ownsRow w2.heap.size 27 1 (.slice (some ⟨w2.heap.size + 1, 0, none⟩) 2 2) 2 [.pointer none, .pointer (some ⟨w2.heap.size, 0, none⟩)] := by
    have := own_new (w2.alloc (.cells #[.slice none 0 0, .slice none 0 0, .int .i64 0, .int .i64 0, .bool false, .pointer none] 63)) 27 [.pointer none, .pointer (some ⟨w2.heap.size, 0, none⟩)] 2 rfl (by omega)
    rw [hsz3] at this
    rw [hw3]
    exact own_base this (by omega)
  have hsz3' : w2.heap.size ≤ w3.heap.size := hb3.size
  have Hw3 := Lib.hid hw3
  clear hw3 hnb hsz3
  go_upto_region 6 with fail
  rw [← Hw3.out]
  obtain ⟨q, hq⟩ : ∃ q, q = decide (s < 1 ∨ 4096 < s ∨ r < 0 ∨ s < r) := ⟨_, rfl⟩
  have Hq := Lib.hid hq
  go_cut [37] from 23 to 36 (fun s37 wc => s37 = .bool q ∧ wc = w3)
  case first =>
    by_cases c1 : s < 1
    · have d1 : decide (s < 1) = true := decide_eq_true c1
      have hqt : q = true := by rw [hq]; exact decide_eq_true (Or.inl c1)
      clear hq
      go_wp2_with fail
      go_meet
      exact ⟨by rw [hqt], rfl⟩
    · have d1 : decide (s < 1) = false := decide_eq_false c1
      by_cases c2 : 4096 < s
      · have d2 : decide (4096 < s) = true := decide_eq_true c2
        have hqt : q = true := by rw [hq]; exact decide_eq_true (Or.inr (Or.inl c2))
        clear hq
        go_wp2_with fail
        go_meet
        exact ⟨by rw [hqt], rfl⟩
      · have d2 : decide (4096 < s) = false := decide_eq_false c2
        by_cases c3 : r < 0
        · have d3 : decide (r < 0) = true := decide_eq_true c3
          have hqt : q = true := by rw [hq]; exact decide_eq_true (by omega)
          clear hq
          go_wp2_with fail
          go_meet
          exact ⟨by rw [hqt], rfl⟩
        · have d3 : decide (r < 0) = false := decide_eq_false c3
          have hqt : q = decide (s < r) := by
            rw [hq]
            by_cases c4 : s < r
            · rw [decide_eq_true c4]; exact decide_eq_true (by omega)
            · rw [decide_eq_false c4]; exact decide_eq_false (by omega)
          clear hq
          go_wp2_with fail
          go_meet
          exact ⟨by rw [hqt], rfl⟩
  case rest =>
    obtain ⟨rfl, hwc⟩ := hcut
    obtain rfl := hwc.symm
    clear hq
    go_upto_if 37 with fail
    go_cut [7, 8, 9] from 38 to 49 (fun s7 s8 s9 wc => ∃ L m c, s7 = .slice L m c ∧ m ≤ 3 ∧ NoDs wc L m ∧ Below w2.heap.size w2 wc)
    case first =>
      cases q
      · go_wp2_with fail
        go_meet
        refine ⟨_, 2, 2, rfl, by omega, ⟨[none, some ⟨w2.heap.size, 0, none⟩], ?_, ?_⟩, hb3⟩
        · obtain ⟨A2, c2, e, hsl⟩ := own_form hown3
          simp only [Value.slice.injEq] at e
          obtain ⟨rfl, _⟩ := e
          exact hsl
        · intro p hp
          simp at hp
          rcases hp with rfl | rfl
          · exact Or.inl rfl
          · exact hno3
      · have hbad : s < 1 ∨ 4096 < s ∨ r < 0 ∨ s < r := of_decide_eq_true Hq.out.symm
        have hnew := dnew_bad w3 s r hbad
        go_wp2_with fail
        refine hnew.mono ?_
        rintro e w4 ⟨rfl, hO4⟩
        have hb4 : Below w3.heap.size w3 w4 := hO4.below (Nat.le_refl _) (fun _ h => h.elim)
        have hown4 := own_below hown3 hb4
        have hno4 := hno3.below hb4
        have hsz4 : w2.heap.size ≤ w4.heap.size := Nat.le_trans hsz3' hb4.size
        go_wp2_with (refine wpList_push (.tmp 46) (.tmp 48) 64 27 ip _ (.pointer none) 8 rfl rfl Try.underlying64 hip hzp hsp hbp rfl w2.heap.size _ _ _ hown4 rfl rfl rfl (by omega) (by omega) hsz4 ?_; intro v5 w5 hown5 hg5 hb5 hs5)
        go_meet
        obtain ⟨A5, c5, rfl, hsl5⟩ := own_form hown5
        exact ⟨A5, 3, c5, rfl, by omega, ⟨[none, some ⟨w2.heap.size, 0, none⟩, none], hsl5, by
          intro p hp
          rcases List.mem_cons.1 hp with rfl | hp
          · exact Or.inl rfl
          · rcases List.mem_cons.1 hp with rfl | hp
            · exact no_grown hno4 hown4 hg5
            · simp at hp; exact Or.inl hp⟩, (hb3.trans (hb4.mono hsz3')).trans hb5⟩
    case rest =>
      obtain ⟨L, m, c3, rfl, hm3, hnd, hb4⟩ := hcut
      clear hno3 hown3 hsz3' Hw3 Hq hs hr
      have hPc := hP2.kept (hb4.block _ hP2.lt)
      have hbt4 : Below w.heap.size w wc := hbt2.trans (hb4.mono hbt2.size)
      go_wp2_with fail
      go_loopw [52] (fun i wr => ∃ k : Nat, k ≤ m ∧ i = .int .i64 k ∧ Below wc.heap.size wc wr) (fun i _ => m - (intOf i).toNat)
      case atStart => exact ⟨0, by omega, rfl, Below.refl _ _⟩
      case round =>
        obtain ⟨k, hk, rfl, hb⟩ := hrel
        by_cases hlt : k < m
        · have hndr := hnd.below hb
          obtain ⟨ps, hsl, hno⟩ := hndr
          obtain ⟨ad, rfl, hcell0⟩ := hsl.at_ hlt
          obtain ⟨p, hp⟩ : ∃ p, ps[k]? = some p := ⟨_, List.getElem?_eq_getElem (by have := hsl.1; rw [List.length_map] at this; omega)⟩
          have hcell : wr.cell? (ad.add k) = some (.pointer p) := by rw [hcell0]; simp [List.getD, hp]
          have hd := hno p (List.mem_of_getElem? hp)
          have hPr := hPc.kept (hb.block _ hPc.lt)
          have hr1 := hPr.cell (i := 1) rfl
          have hkI : (k : Int) < (m : Int) := by omega
          have hk0 : (0 : Int) ≤ (k : Int) := by omega
          clear hsl hno hp hnd hcell0
          go_wp2_with fail
          refine (ncut_is wr p num hd).mono ?_
          rintro e w5 ⟨rfl, hO5⟩
          have hd5 := hd.only hO5
          have hP5 := hO5.blk hPr (fun h => h)
          have hr2 := hP5.cell (i := 2) rfl
          go_wp2_with fail
          refine (ncrash_is w5 p _ ⟨A, n, c, rfl⟩ hd5).mono ?_
          rintro e w6 ⟨rfl, hO6⟩
          have hd6 := hd5.only hO6
          have hP6 := hO6.blk hP5 (fun h => h)
          have hr3 := hP6.cell (i := 1) rfl
          go_wp2_with fail
          refine (nread_is w6 p num hd6).mono ?_
          rintro e w7 ⟨rfl, hO7⟩
          have hd7 := hd6.only hO7
          have hP7 := hO7.blk hP6 (fun h => h)
          obtain ⟨w8, hw8⟩ : ∃ w8, w8 = (w7.alloc (.cells Try.zeroCells52 52)).setCells w7.heap.size 0 (u8s zeros128) := ⟨_, rfl⟩
          have hz := zero_new w7
          have hb8 : Below w7.heap.size w7 w8 := by rw [hw8]; exact below_setCells (below_alloc _ _) (Nat.le_refl _) _ _
          have hR8 : Blk w8 w7.heap.size 52 (u8s zeros128) := by rw [hw8]; exact setCells_whole hz rfl
          have Hthere := Lib.hid (hz.there (n := (u8s zeros128).toArray.size) (by rw [List.size_toArray]; omega))
          have hsize2 : (Try.prog.info? 52).map (·.size) = some (u8s zeros128).toArray.size := by rw [size_arr, List.size_toArray, List.length_map, zeros_len]
          have hsize : (Try.prog.info? 52).map (·.size) = some (u8s zeros128).length := by rw [size_arr, List.length_map, zeros_len]
          have hd8 := hd7.below hb8
          have hP8 := hP7.kept (hb8.block _ hP7.lt)
          have hr4 := hP8.cell (i := 1) rfl
          have Hrange := Lib.hid hR8.range
          have Heq := Lib.hid (show (Op.equalIn 10000 52 (.agg (u8s zeros128).toArray) (.agg Try.zeroCells52)).run Try.prog w8 = .ok true w8 by
            have := arr128_eq zeros128 zeros128 zeros_len zeros_len w8
            rw [decide_eq_true rfl] at this
            rw [zero_arr]; exact this)
          have Hw8 := Lib.hid hw8
          have hbt8 : Below wr.heap.size wr w8 := (((hO5.below (Nat.le_refl _) (fun _ h => h.elim)).trans (hO6.below hO5.size (fun _ h => h.elim))).trans (hO7.below (Nat.le_trans hO5.size hO6.size) (fun _ h => h.elim))).trans (hb8.mono (Nat.le_trans hO5.size (Nat.le_trans hO6.size hO7.size)))
          clear hw8 hz hd7 hP7
          go_wp2_with (refine wpList_store_mid rfl 52 (.tmp 12) (.tmp 69) rfl w7.heap.size 0 (u8s zeros128).toArray rfl rfl Hthere.out hsize2 (all_oneCell_toArray (one_u8s _)) ?_; rw [show (u8s zeros128).toArray.toList = u8s zeros128 from rfl, ← Hw8.out])
          refine wp_load_mid 52 (.tmp 12) rfl w7.heap.size 0 rfl (u8s zeros128) _ Hrange.out Try.underlying52 rfl hsize ?_
          have Heq2 := Heq.out
          clear Heq
          go_wp2_with fail
          refine wp_load_mid 52 (.tmp 12) rfl w7.heap.size 0 rfl (u8s zeros128) _ Hrange.out Try.underlying52 rfl hsize ?_
          clear Heq2 Hrange Hthere hsize2 hsize
          go_wp2_with fail
          refine (nwrite_is w8 p num zeros128 hd8).mono ?_
          rintro e w9 ⟨rfl, hO9⟩
          have hd9 := hd8.only hO9
          have hbt9 : Below wr.heap.size wr w9 := hbt8.trans (hO9.below hbt8.size (fun _ h => h.elim))
          go_wp2_with fail
          refine (nflush_is w9 p hd9).mono ?_
          rintro e w10 ⟨rfl, hO10⟩
          have hd10 := hd9.only hO10
          have hbt10 : Below wr.heap.size wr w10 := hbt9.trans (hO10.below hbt9.size (fun _ h => h.elim))
          go_wp2_with fail
          refine (nsize_is w10 p hd10).mono ?_
          rintro e w11 ⟨rfl, hO11⟩
          have hd11 := hd10.only hO11
          have hbt11 : Below wr.heap.size wr w11 := hbt10.trans (hO11.below hbt10.size (fun _ h => h.elim))
          go_wp2_with fail
          refine (nleft_is w11 p hd11).mono ?_
          rintro e w12 ⟨rfl, hO12⟩
          have hd12 := hd11.only hO12
          have hbt12 : Below wr.heap.size wr w12 := hbt11.trans (hO12.below hbt11.size (fun _ h => h.elim))
          go_wp2_with fail
          refine (nwaits_is w12 p hd12).mono ?_
          rintro e w13 ⟨rfl, hO13⟩
          have hd13 := hd12.only hO13
          have hbt13 : Below wr.heap.size wr w13 := hbt12.trans (hO13.below hbt12.size (fun _ h => h.elim))
          go_wp2_with fail
          refine (nimage_is w13 p hd13).mono ?_
          rintro e w14 ⟨rfl, hO14⟩
          have hd14 := hd13.only hO14
          have hbt14 : Below wr.heap.size wr w14 := hbt13.trans (hO14.below hbt13.size (fun _ h => h.elim))
          go_wp2_with fail
          refine (non_is w14 p hd14).mono ?_
          rintro e w15 ⟨rfl, hO15⟩
          have hd15 := hd14.only hO15
          have hbt15 : Below wr.heap.size wr w15 := hbt14.trans (hO15.below hbt14.size (fun _ h => h.elim))
          go_wp2_with fail
          refine (nmeter_is w15 p hd15).mono ?_
          rintro e w16 ⟨rfl, hO16⟩
          have hd16 := hd15.only hO16
          have hbt16 : Below wr.heap.size wr w16 := hbt15.trans (hO16.below hbt15.size (fun _ h => h.elim))
          have hfin : Below wc.heap.size wc w16 := hb.trans (hbt16.mono hb.size)
          go_wp2
          go_roundw
          case rel => exact ⟨k + 1, by omega, by go_num, hfin⟩
          case measure => simp [intOf]; omega
        · obtain rfl : k = m := by omega
          go_wp2
          go_ret
          exact ⟨rfl, hbt4.trans (hb.mono hbt4.size)⟩

theorem diskNone_is (w : World) (s : Int) (hs : -9223372036854775808 ≤ s ∧ s ≤ 9223372036854775807) (r : Int) (hr : -9223372036854775808 ≤ r ∧ r ≤ 9223372036854775807) (kind num : Int) (A : Option Addr) (n c : Nat) (z : List Int) (_ : -9223372036854775808 ≤ kind ∧ kind ≤ 9223372036854775807) (_ : -9223372036854775808 ≤ num ∧ num ≤ 9223372036854775807) (_ : Sl w A n (u8s z)) (_ : ∀ x ∈ z, 0 ≤ x ∧ x < 256) (_ : n ≤ 9223372036854775807) (_ : n ≤ c) :
    Calls Try.prog 5 #[.int .i64 s, .int .i64 r, .agg #[.int .i64 kind, .int .i64 num, .slice A n c]] w fun e w' => e = .returned (.bool true) ∧ Below w.heap.size w w' := diskNone_walk w s r kind num A n c hs hr
end Go.Proofs.Ythdclncgmhgmfaa
