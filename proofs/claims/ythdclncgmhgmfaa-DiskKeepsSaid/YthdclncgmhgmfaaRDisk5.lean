/- The document's disk: Write that writes. -/
import Derived.Test.YthdclncgmhgmfaaRDisk4
namespace Go.Proofs.Ythdclncgmhgmfaa
open Go.RowKit Go.Deep
set_option linter.unusedSimpArgs false
set_option linter.unusedVariables false

theorem goes_len (S : DS) (k : Nat) : (S.goes k).1.kept = S.kept ∧ (S.goes k).1.inn = S.inn ∧ (S.goes k).1.waits = S.waits ∧ (S.goes k).1.room = S.room := by
  unfold DS.goes DS.count; split <;> exact ⟨rfl, rfl, rfl, rfl⟩

/-- The error of an operation with which the power goes. -/
def goneErr (p : Bool) : Int := if p then 50 else 0
/-- Write's two appends, step by step: behind the first one (a copy of the bytes), behind the second one (the piece). -/
theorem put_below {w0 w1 : World} {o : Obj} (hg : ((w0.alloc o).drew).grownBy w1 (some w0.heap.size)) : Below w0.heap.size w0 w1 :=
  (((Below.refl w0.heap.size w0).alloc (Nat.le_refl _) o).drew).grown hg (by simp) (fun k hk => by cases hk; exact Nat.le_refl _)
theorem put_only {F : Nat → Prop} {w0 w1 w3 : World} {o : Obj} {r : Option Nat} (hb : Below w0.heap.size w0 w1) (hg : (w1.alloc o).grownBy w3 r) (hr : ∀ k, r = some k → F k) : Only F w0 w3 ∧ ∀ k, k < w0.heap.size → some k ≠ r → w3.heap[k]? = w0.heap[k]? := by
  have key : ∀ k, k < w0.heap.size → some k ≠ r → w3.heap[k]? = w0.heap[k]? := by
    intro k hk hne
    have hk1 : k < w1.heap.size := Nat.lt_of_lt_of_le hk hb.size
    rw [hg.block k (by rw [nblk_alloc]; omega) hne, blk_alloc_lt _ _ _ hk1]
    exact hb.block k hk
  refine ⟨⟨hg.os.trans hb.os, hg.tape.trans hb.tape, hg.output.trans hb.output, ?_, ?_⟩, key⟩
  · have := hg.size; rw [nblk_alloc] at this; have := hb.size; omega
  · intro k hk hn
    exact key k hk (fun e => hn (hr k e.symm))

theorem put_end {F : Nat → Prop} {w0 w1 w3 : World} {b : Nat} {S : DS} {kb ib ob ck ci : Nat} {spk spi : List Value} {vw v2 : Value} {kv : List Value} {ps : List (Int × Value)} (h : RDAt F w0 b S kb ib ob ck ci spk spi vw kv ps)
    {n g1 cap1 : Nat} {bs : List Int} (hlen : bs.length = 128) (hb : Below w0.heap.size w0 w1) (hg1 : w0.heap.size ≤ g1) (hown1 : w1.ownsRow 0 5 1 (.slice (some ⟨g1, 0, none⟩) 128 cap1) 128 (u8s bs))
    (hg2 : (w1.alloc (.cells #[.int .i64 (n : Int), .slice (some ⟨g1, 0, none⟩) 128 cap1] 91)).grownBy w3 vw.ownBlock)
    (hown2 : w3.ownsRow 0 91 2 v2 (ps.length + 1) (flat2 ps ++ [.int .i64 (n : Int), .slice (some ⟨g1, 0, none⟩) 128 cap1]))
    (hat2 : ∀ k, v2.ownBlock = some k → (vw.ownBlock = some k ∨ w0.heap.size ≤ k)) :
    Only F w0 w3 ∧ RDAt (More F w0 w3) (w3.setCell ⟨b, 2, none⟩ v2) b (S.put n bs) kb ib ob ck ci spk spi v2 kv (ps ++ [((n : Int), .slice (some ⟨g1, 0, none⟩) 128 cap1)]) := by
  have hvF : ∀ k, vw.ownBlock = some k → F k := by
    intro k hk
    rcases h.wait with ⟨e, _⟩ | ⟨g, cap, sp, e, hF, _⟩
    · rw [e] at hk; cases hk
    · rw [e] at hk; cases hk; exact hF
  obtain ⟨hO, hsame⟩ := put_only hb hg2 hvF
  refine ⟨hO, h.upPut hO (fun k hk hne => hsame k (h.fin k hk) (fun e => hne e.symm)) ?_ hown2 ?_⟩
  · have hr1 : BRow (fun k => k = g1) w1 (.slice (some ⟨g1, 0, none⟩) 128 cap1) bs := BRow.of_own hown1 (by omega) (fun k hk => by cases hk; rfl)
    obtain ⟨g, cap, sp, e1, e2, e3, e4, e5⟩ := hr1
    subst e2
    have hl1 := e4.lt
    have hne : some g ≠ vw.ownBlock := by
      intro e
      have := h.fin g (hvF g e.symm)
      omega
    refine ⟨g, cap, sp, e1, Or.inr ⟨hg1, ?_⟩, e3, e4.kept ?_, e5⟩
    · have := hg2.size; rw [nblk_alloc] at this; omega
    · rw [hg2.block g (by rw [nblk_alloc]; omega) hne, blk_alloc_lt _ _ _ hl1]
  · intro k hk
    have hlt := (hown2.lt k hk).2
    rcases hat2 k hk with h1 | h1
    · exact Or.inl (hvF k h1)
    · exact Or.inr ⟨h1, hlt⟩

set_option maxRecDepth 100000 in
set_option maxHeartbeats 6400000 in
theorem rwrite_in (F : Nat → Prop) (w : World) (b : Nat) (S : DS) (n : Nat) (A : Option Addr) (c : Nat) (bs : List Int) (h : RD F w b S) (ho : S.off = false) (hn : n < S.kept.length) (hu : S.isUse n = true ∨ (S.used : Int) < S.room)
    (hmany : S.waits.length ≤ 1000000) (hx : Sl w A 128 (u8s bs)) (hbs : Byte128 bs) :
    Calls Try.prog 30 #[.pointer (some ⟨b, 0, none⟩), .int .i64 (n : Int), .slice A 128 c] w fun e w' => e = .returned (.int .i64 (goneErr ((S.put n bs).goes 1).2)) ∧ RD (More F w w') w' b ((S.put n bs).goes 1).1 ∧ Only F w w' := by
  have hrd := h
  obtain ⟨hwf, kb, ib, ob, ck, ci, spk, spi, vw, kv, ps, h⟩ := h
  have hc5 := h.head.cell (i := 5) rfl
  have hc0 := h.head.cell (i := 0) rfl
  have hc2 := h.head.cell (i := 2) rfl
  have hc3 := h.head.cell (i := 3) rfl
  have hf2 := h.head.frozen 2
  have hblt := h.head.lt
  rw [ho] at hc5
  have hn2 := hwf.n2
  obtain ⟨K, hK⟩ : ∃ K, K = S.kept.length := ⟨_, rfl⟩
  rw [← hK] at hc0 hn2
  have hnI : (n : Int) < (K : Int) := by omega
  have hd : decide ((n : Int) < 0) = false := decide_eq_false (by omega)
  have hd2 : decide ((K : Int) ≤ (n : Int)) = false := decide_eq_false (by omega)
  obtain ⟨us, hus⟩ : ∃ u : Nat, u = S.used := ⟨_, rfl⟩
  obtain ⟨rm, hrm⟩ : ∃ r, r = S.room := ⟨_, rfl⟩
  rw [← hrm] at hc3
  rw [← hus, ← hrm] at hu
  have Hus := Lib.hid (fun k => show Calls Try.prog 16 #[.pointer (some ⟨b, 0, none⟩)] (w.drewN k) fun e w' => e = .returned (.int .i64 (us : Int)) ∧ w' = w.drewN k by
    have := rused_is F (w.drewN k) b S (hrd.keep (Nat.le_refl _) (fun _ _ => rfl))
    rw [← hus] at this; exact this)
  obtain ⟨ad, hA⟩ : ∃ ad, A = some ad := by
    obtain ⟨ad, _, e, _⟩ := hx.num (k := 0) (by omega)
    exact ⟨ad, e⟩
  subst hA
  have Hnews := Lib.hid (fun j u (hj : (u8s bs)[j]? = some u) => show w.cell? (ad.add j) = some u by
    obtain ⟨ad', e, hc⟩ := hx.2 j u hj
    cases e; exact hc)
  have Hone := Lib.hid (show ∀ u ∈ u8s bs, u.oneCell' = true by
    intro u hu
    obtain ⟨x, _, rfl⟩ := List.mem_map.1 hu
    rfl)
  have Hlen := Lib.hid (show (u8s bs).length = 128 * 1 by simp [hbs.1])
  obtain ⟨i8, hi8, hz8, hs8, hb8⟩ := info_parts' info_u8
  obtain ⟨ip, hip, hzp, hsp, hbp⟩ := info_parts' info_piece
  have Hwait := Lib.hid h.wait
  have Hh := Lib.hid h
  have Hps := Lib.hid h.psn
  have hpsl : ps.length ≤ 1000000 := by rw [h.psn]; exact hmany
  have Hwf := Lib.hid hwf
  have Hbs := Lib.hid hbs
  have Hn := Lib.hid (show n < S.kept.length from hn)
  cases hiu : S.isUse (n : Int)
  · have hlt : (us : Int) < rm := by rcases hu with h1 | h1; rw [h1] at hiu; cases hiu; exact h1
    have hd3 : decide (rm ≤ (us : Int)) = false := decide_eq_false (by omega)
    have His := Lib.hid (fun k => show Calls Try.prog 36 #[.pointer (some ⟨b, 0, none⟩), .int .i64 (n : Int)] (w.drewN k) fun e w' => e = .returned (.bool false) ∧ w' = w.drewN k by
      have := ris_is F (w.drewN k) b S n (hrd.keep (Nat.le_refl _) (fun _ _ => rfl)) hn
      rw [hiu] at this; exact this)
    clear hK ho hu hus hrm hiu hlt h hwf hbs hx hmany hn
    go_enter Try.func30, Try.ntmps30
    go_wp2
    go_quiet (first | (go_at_call 36; exact Calls.quiet_of_same (His.out _)) | (go_at_call 16; exact Calls.quiet_of_same (Hus.out _)))
    clear His Hus
    go_wp2
    obtain ⟨w0, hw0⟩ : ∃ w0, w0 = w.drewN nq := ⟨_, rfl⟩
    have h0 := Hh.out.keep (w' := w0) (by rw [hw0]; exact Nat.le_refl _) (fun k _ => by rw [hw0]; rfl)
    have HO0 := Lib.hid (show Only F w w0 by rw [hw0]; exact (Only.refl F w).drewN nq)
    have hsz0 : w0.heap.size = w.heap.size := by rw [hw0]; rfl
    have Hsz0 := Lib.hid hsz0
    have Hheap := Lib.hid (show w0.heap = w.heap by rw [hw0]; rfl)
    have hblt0 : b < w0.heap.size := by rw [hsz0]; exact hblt
    have hcW0 : w0.drew.cell? ⟨b, 2, none⟩ = some vw := h0.head.cell (i := 2) rfl
    have hfW0 : w0.drew.frozen? ⟨b, 2, none⟩ = false := h0.head.frozen 2
    have hW1 := (h0.head.alloc (.cells #[] 5)).drew
    have hcW1 : ((w0.alloc (.cells #[] 5)).drew).cell? ⟨b, 2, none⟩ = some vw := hW1.cell (i := 2) rfl
    have hown0 : ((w0.alloc (.cells #[] 5)).drew).ownsRow 0 5 1 (.slice (some ⟨w0.heap.size, 0, none⟩) 0 0) 0 [] := (World.ownsRow_made (base := 0) (e := 5) (size := 1) w0 #[] 0 (Nat.zero_le _) (by decide) rfl).drew
    have hnews0 : ∀ (j : Nat) (u : Value), (u8s bs)[j]? = some u → ((w0.alloc (.cells #[] 5)).drew).cell? (ad.add j) = some u := by
      intro j u hj
      have hc := Hnews.out j u hj
      show (w0.alloc (.cells #[] 5)).cell? (ad.add j) = some u
      rw [World.cell?_alloc_lt _ _ _ (by rw [hsz0]; exact World.block_lt_of_cell? w _ hc)]
      rw [hw0]; exact hc
    have H0 := Lib.hid h0
    have Hown0 := Lib.hid hown0
    have Hnews0 := Lib.hid hnews0
    rw [← hw0]
    clear hw0 h0 hW1 hown0 hnews0 hsz0 hc0 hc2 hc3 hc5 hf2
    go_region_law (first
      | (refine step_append_lies _ rfl (.tmp 41) (.tmp 42) 22 rfl 0 5 i8 (.int .u8 0) 1 1 Try.underlying22 hi8 hz8 hs8 hb8 rfl (by decide) (.slice (some ⟨w0.heap.size, 0, none⟩) 0 0) 0 [] (by simp [Act.eval, Act.put]) Hown0.out ad 128 c (u8s bs) (by simp [Act.eval, Act.put]) Hlen.out Hnews0.out Hone.out (by omega) (by decide) (by omega) (Nat.zero_le _) _ rfl ?_
         intro g1 cap1 w1 hown1 hg1 hat1 hlt1
         have hown1 : w1.ownsRow 0 5 1 (.slice (some ⟨g1, 0, none⟩) 128 cap1) 128 (u8s bs) := hown1
         have hb1 := put_below hg1
         have hg1' : w0.heap.size ≤ g1 := by
           rcases hat1 with e | e
           · exact Nat.le_of_eq (Option.some.inj e)
           · rw [e]; show w0.heap.size ≤ (w0.alloc _).heap.size; rw [nblk_alloc]; exact Nat.le_succ _
         have h01 := H0.out.head.kept (hb1.block b hblt0)
         have hcw1 : w1.cell? ⟨b, 2, none⟩ = some vw := h01.cell (i := 2) rfl
         have hcW2 : (w1.alloc (.cells #[.int .i64 (n : Int), .slice (some ⟨g1, 0, none⟩) 128 cap1] 91)).cell? ⟨b, 2, none⟩ = some vw := (h01.alloc _).cell (i := 2) rfl
         have hwt := (Hwait.out.kept (w' := w1.alloc (.cells #[.int .i64 (n : Int), .slice (some ⟨g1, 0, none⟩) 128 cap1] 91)) (fun g hg _ => by
           have hgl : g < w0.heap.size := H0.out.fin g hg
           rw [blk_alloc_lt _ _ _ (Nat.lt_of_lt_of_le hgl hb1.size), hb1.block g hgl]
           exact (by rw [show w0.heap = w.heap from Hheap.out]))).own
         have Hwt := Lib.hid hwt
         have Hown1 := Lib.hid hown1
         have Hb1 := Lib.hid hb1
         clear hwt hown1 hb1 h01 hat1 hg1)
      | (refine step_append_lies _ rfl (.tmp 39) (.tmp 45) 40 rfl 0 91 ip (.agg #[.int .i64 0, .slice none 0 0]) 2 32 Try.underlying40 hip hzp hsp hbp rfl (by decide) vw ps.length (flat2 ps) (by simp [Act.eval, Act.put]) Hwt.out ⟨w1.heap.size, 0, none⟩ 1 1 [.int .i64 (n : Int), .slice (some ⟨g1, 0, none⟩) 128 cap1] (by simp [Act.eval, Act.put]) rfl (World.news_of_block (cs := #[.int .i64 (n : Int), .slice (some ⟨g1, 0, none⟩) 128 cap1]) (heap_alloc_new w1 _)) (by intro u hu; simp at hu; rcases hu with rfl | rfl <;> rfl) (by omega) (by simp only [maxLen]; omega) (by omega) (Nat.zero_le _) _ rfl ?_
         intro g2 cap2 w3 hown2 hg2 hat2 hlt2
         obtain ⟨hO3, hend⟩ := put_end H0.out (n := n) Hbs.out.1 Hb1.out hg1' Hown1.out hg2 hown2 (fun k hk => by
           cases hk
           rcases hat2 with e | e
           · exact Or.inl e
           · right; subst e; show w0.heap.size ≤ (w1.alloc _).heap.size; rw [nblk_alloc]; exact Nat.le_succ_of_le Hb1.out.size)
         have hbne : some b ≠ vw.ownBlock := by
           rcases Hwait.out with ⟨e, _⟩ | ⟨g, _, _, e, _, _, _, hbk, _⟩
           · rw [e]; intro e2; cases e2
           · rw [e]; intro e2
             have e3 : b = g := Option.some.inj e2
             subst e3
             exact (Hh.out.head.ne hbk (by decide)) rfl
         have h03 := H0.out.head.kept ((hg2.block b (by rw [nblk_alloc]; exact Nat.lt_succ_of_lt (Nat.lt_of_lt_of_le hblt0 Hb1.out.size)) hbne).trans ((blk_alloc_lt _ _ _ (Nat.lt_of_lt_of_le hblt0 Hb1.out.size)).trans (Hb1.out.block b hblt0)))
         have hcw3 : w3.cell? ⟨b, 2, none⟩ = some vw := h03.cell (i := 2) rfl
         have hfw3 : w3.frozen? ⟨b, 2, none⟩ = false := h03.frozen 2
         have HO3 := Lib.hid hO3
         have Hend := Lib.hid hend
         clear hO3 hend h03 hg2 hat2 hown2))
    all_goals
      obtain ⟨w4, hw4⟩ : ∃ w4, w4 = w3.setCell ⟨b, 2, none⟩ (.slice (some ⟨g2, 0, none⟩) (ps.length + 1) cap2) := ⟨_, rfl⟩
      have hrd4 : RD (More F w0 w3) w4 b (S.put n bs) := by rw [hw4]; exact RD.of (Hwf.out.put Hn.out Hbs.out) Hend.out
      have hO4 : Only F w0 w4 := by rw [hw4]; exact HO3.out.set (Or.inr H0.out.fb) _
      have hs34 : w4.heap.size = w3.heap.size := by rw [hw4, nblk_setCell]
      rw [← hw4]
      clear hw4 HO3 Hend hcw3 hfw3 hbne hlt2 Hwt hcW2 hcw1
      go_wp2_with fail
      refine (rgoes_is (More F w0 w3) w4 b (S.put n bs) 1 hrd4 (by omega)).mono ?_
      rintro e w5 ⟨rfl, hrd5, hO5⟩
      have hs5 := hO5.size
      have hfin : RD (More F w w5) w5 b ((S.put n bs).goes 1).1 := by
        obtain ⟨h1, h2⟩ := hrd5
        exact RD.mono ⟨h1, h2⟩ (fun k hk hf => by
          rcases hf with hf | hf
          · exact Or.inl hf
          · right; have := Hsz0.out; omega) (fun k hk => by
          rcases hk with hk | hk
          · exact Nat.lt_of_lt_of_le (H0.out.fin k hk) (Nat.le_trans hO4.size hs5)
          · exact hk.2)
      have hOfin : Only F w w5 := (HO0.out.trans hO4 (fun _ _ h => h)).trans hO5 (fun k hk hf => by
        rcases hf with hf | hf
        · exact hf
        · have := Hsz0.out; omega)
      cases hgone : ((S.put n bs).goes 1).2
      · have hr := Lib.hid (show (0 : Int) = goneErr ((S.put n bs).goes 1).2 by rw [hgone]; rfl)
        clear hgone
        go_wp2
        go_ret
        exact ⟨ret_int hr.out, hfin, hOfin⟩
      · have hr := Lib.hid (show (50 : Int) = goneErr ((S.put n bs).goes 1).2 by rw [hgone]; rfl)
        clear hgone
        go_wp2
        go_ret
        exact ⟨ret_int hr.out, hfin, hOfin⟩
  · have His := Lib.hid (fun k => show Calls Try.prog 36 #[.pointer (some ⟨b, 0, none⟩), .int .i64 (n : Int)] (w.drewN k) fun e w' => e = .returned (.bool true) ∧ w' = w.drewN k by
      have := ris_is F (w.drewN k) b S n (hrd.keep (Nat.le_refl _) (fun _ _ => rfl)) hn
      rw [hiu] at this; exact this)
    clear hK ho hu hus hrm hiu h hwf hbs hx hmany hn
    go_enter Try.func30, Try.ntmps30
    go_wp2
    go_quiet (first | (go_at_call 36; exact Calls.quiet_of_same (His.out _)) | (go_at_call 16; exact Calls.quiet_of_same (Hus.out _)))
    clear His Hus
    go_wp2
    obtain ⟨w0, hw0⟩ : ∃ w0, w0 = w.drewN nq := ⟨_, rfl⟩
    have h0 := Hh.out.keep (w' := w0) (by rw [hw0]; exact Nat.le_refl _) (fun k _ => by rw [hw0]; rfl)
    have HO0 := Lib.hid (show Only F w w0 by rw [hw0]; exact (Only.refl F w).drewN nq)
    have hsz0 : w0.heap.size = w.heap.size := by rw [hw0]; rfl
    have Hsz0 := Lib.hid hsz0
    have Hheap := Lib.hid (show w0.heap = w.heap by rw [hw0]; rfl)
    have hblt0 : b < w0.heap.size := by rw [hsz0]; exact hblt
    have hcW0 : w0.drew.cell? ⟨b, 2, none⟩ = some vw := h0.head.cell (i := 2) rfl
    have hfW0 : w0.drew.frozen? ⟨b, 2, none⟩ = false := h0.head.frozen 2
    have hW1 := (h0.head.alloc (.cells #[] 5)).drew
    have hcW1 : ((w0.alloc (.cells #[] 5)).drew).cell? ⟨b, 2, none⟩ = some vw := hW1.cell (i := 2) rfl
    have hown0 : ((w0.alloc (.cells #[] 5)).drew).ownsRow 0 5 1 (.slice (some ⟨w0.heap.size, 0, none⟩) 0 0) 0 [] := (World.ownsRow_made (base := 0) (e := 5) (size := 1) w0 #[] 0 (Nat.zero_le _) (by decide) rfl).drew
    have hnews0 : ∀ (j : Nat) (u : Value), (u8s bs)[j]? = some u → ((w0.alloc (.cells #[] 5)).drew).cell? (ad.add j) = some u := by
      intro j u hj
      have hc := Hnews.out j u hj
      show (w0.alloc (.cells #[] 5)).cell? (ad.add j) = some u
      rw [World.cell?_alloc_lt _ _ _ (by rw [hsz0]; exact World.block_lt_of_cell? w _ hc)]
      rw [hw0]; exact hc
    have H0 := Lib.hid h0
    have Hown0 := Lib.hid hown0
    have Hnews0 := Lib.hid hnews0
    rw [← hw0]
    clear hw0 h0 hW1 hown0 hnews0 hsz0 hc0 hc2 hc3 hc5 hf2
    go_region_law (first
      | (refine step_append_lies _ rfl (.tmp 41) (.tmp 42) 22 rfl 0 5 i8 (.int .u8 0) 1 1 Try.underlying22 hi8 hz8 hs8 hb8 rfl (by decide) (.slice (some ⟨w0.heap.size, 0, none⟩) 0 0) 0 [] (by simp [Act.eval, Act.put]) Hown0.out ad 128 c (u8s bs) (by simp [Act.eval, Act.put]) Hlen.out Hnews0.out Hone.out (by omega) (by decide) (by omega) (Nat.zero_le _) _ rfl ?_
         intro g1 cap1 w1 hown1 hg1 hat1 hlt1
         have hown1 : w1.ownsRow 0 5 1 (.slice (some ⟨g1, 0, none⟩) 128 cap1) 128 (u8s bs) := hown1
         have hb1 := put_below hg1
         have hg1' : w0.heap.size ≤ g1 := by
           rcases hat1 with e | e
           · exact Nat.le_of_eq (Option.some.inj e)
           · rw [e]; show w0.heap.size ≤ (w0.alloc _).heap.size; rw [nblk_alloc]; exact Nat.le_succ _
         have h01 := H0.out.head.kept (hb1.block b hblt0)
         have hcw1 : w1.cell? ⟨b, 2, none⟩ = some vw := h01.cell (i := 2) rfl
         have hcW2 : (w1.alloc (.cells #[.int .i64 (n : Int), .slice (some ⟨g1, 0, none⟩) 128 cap1] 91)).cell? ⟨b, 2, none⟩ = some vw := (h01.alloc _).cell (i := 2) rfl
         have hwt := (Hwait.out.kept (w' := w1.alloc (.cells #[.int .i64 (n : Int), .slice (some ⟨g1, 0, none⟩) 128 cap1] 91)) (fun g hg _ => by
           have hgl : g < w0.heap.size := H0.out.fin g hg
           rw [blk_alloc_lt _ _ _ (Nat.lt_of_lt_of_le hgl hb1.size), hb1.block g hgl]
           exact (by rw [show w0.heap = w.heap from Hheap.out]))).own
         have Hwt := Lib.hid hwt
         have Hown1 := Lib.hid hown1
         have Hb1 := Lib.hid hb1
         clear hwt hown1 hb1 h01 hat1 hg1)
      | (refine step_append_lies _ rfl (.tmp 39) (.tmp 45) 40 rfl 0 91 ip (.agg #[.int .i64 0, .slice none 0 0]) 2 32 Try.underlying40 hip hzp hsp hbp rfl (by decide) vw ps.length (flat2 ps) (by simp [Act.eval, Act.put]) Hwt.out ⟨w1.heap.size, 0, none⟩ 1 1 [.int .i64 (n : Int), .slice (some ⟨g1, 0, none⟩) 128 cap1] (by simp [Act.eval, Act.put]) rfl (World.news_of_block (cs := #[.int .i64 (n : Int), .slice (some ⟨g1, 0, none⟩) 128 cap1]) (heap_alloc_new w1 _)) (by intro u hu; simp at hu; rcases hu with rfl | rfl <;> rfl) (by omega) (by simp only [maxLen]; omega) (by omega) (Nat.zero_le _) _ rfl ?_
         intro g2 cap2 w3 hown2 hg2 hat2 hlt2
         obtain ⟨hO3, hend⟩ := put_end H0.out (n := n) Hbs.out.1 Hb1.out hg1' Hown1.out hg2 hown2 (fun k hk => by
           cases hk
           rcases hat2 with e | e
           · exact Or.inl e
           · right; subst e; show w0.heap.size ≤ (w1.alloc _).heap.size; rw [nblk_alloc]; exact Nat.le_succ_of_le Hb1.out.size)
         have hbne : some b ≠ vw.ownBlock := by
           rcases Hwait.out with ⟨e, _⟩ | ⟨g, _, _, e, _, _, _, hbk, _⟩
           · rw [e]; intro e2; cases e2
           · rw [e]; intro e2
             have e3 : b = g := Option.some.inj e2
             subst e3
             exact (Hh.out.head.ne hbk (by decide)) rfl
         have h03 := H0.out.head.kept ((hg2.block b (by rw [nblk_alloc]; exact Nat.lt_succ_of_lt (Nat.lt_of_lt_of_le hblt0 Hb1.out.size)) hbne).trans ((blk_alloc_lt _ _ _ (Nat.lt_of_lt_of_le hblt0 Hb1.out.size)).trans (Hb1.out.block b hblt0)))
         have hcw3 : w3.cell? ⟨b, 2, none⟩ = some vw := h03.cell (i := 2) rfl
         have hfw3 : w3.frozen? ⟨b, 2, none⟩ = false := h03.frozen 2
         have HO3 := Lib.hid hO3
         have Hend := Lib.hid hend
         clear hO3 hend h03 hg2 hat2 hown2))
    all_goals
      obtain ⟨w4, hw4⟩ : ∃ w4, w4 = w3.setCell ⟨b, 2, none⟩ (.slice (some ⟨g2, 0, none⟩) (ps.length + 1) cap2) := ⟨_, rfl⟩
      have hrd4 : RD (More F w0 w3) w4 b (S.put n bs) := by rw [hw4]; exact RD.of (Hwf.out.put Hn.out Hbs.out) Hend.out
      have hO4 : Only F w0 w4 := by rw [hw4]; exact HO3.out.set (Or.inr H0.out.fb) _
      have hs34 : w4.heap.size = w3.heap.size := by rw [hw4, nblk_setCell]
      rw [← hw4]
      clear hw4 HO3 Hend hcw3 hfw3 hbne hlt2 Hwt hcW2 hcw1
      go_wp2_with fail
      refine (rgoes_is (More F w0 w3) w4 b (S.put n bs) 1 hrd4 (by omega)).mono ?_
      rintro e w5 ⟨rfl, hrd5, hO5⟩
      have hs5 := hO5.size
      have hfin : RD (More F w w5) w5 b ((S.put n bs).goes 1).1 := by
        obtain ⟨h1, h2⟩ := hrd5
        exact RD.mono ⟨h1, h2⟩ (fun k hk hf => by
          rcases hf with hf | hf
          · exact Or.inl hf
          · right; have := Hsz0.out; omega) (fun k hk => by
          rcases hk with hk | hk
          · exact Nat.lt_of_lt_of_le (H0.out.fin k hk) (Nat.le_trans hO4.size hs5)
          · exact hk.2)
      have hOfin : Only F w w5 := (HO0.out.trans hO4 (fun _ _ h => h)).trans hO5 (fun k hk hf => by
        rcases hf with hf | hf
        · exact hf
        · have := Hsz0.out; omega)
      cases hgone : ((S.put n bs).goes 1).2
      · have hr := Lib.hid (show (0 : Int) = goneErr ((S.put n bs).goes 1).2 by rw [hgone]; rfl)
        clear hgone
        go_wp2
        go_ret
        exact ⟨ret_int hr.out, hfin, hOfin⟩
      · have hr := Lib.hid (show (50 : Int) = goneErr ((S.put n bs).goes 1).2 by rw [hgone]; rfl)
        clear hgone
        go_wp2
        go_ret
        exact ⟨ret_int hr.out, hfin, hOfin⟩
end Go.Proofs.Ythdclncgmhgmfaa
