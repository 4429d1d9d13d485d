/- The document's disk: New. -/
import Derived.Test.YthdclncgmhgmfaaRDisk7
namespace Go.Proofs.Ythdclncgmhgmfaa
open Go.RowKit Go.Deep
set_option linter.unusedSimpArgs false
set_option linter.unusedVariables false

def zeros128 : List Int := List.replicate 128 0
/-- A disk of noughts. -/
def DS.new (n : Nat) (room : Int) : DS := { kept := List.replicate n zeros128, inn := List.replicate n false, waits := [], room := room, cut := -1, off := false, ops := [0, 0, 0] }
theorem zeros_byte : Byte128 zeros128 := ⟨by simp [zeros128], fun x hx => by have := List.eq_of_mem_replicate hx; omega⟩
theorem DWf.new {n : Nat} {room : Int} (h1 : 1 ≤ n) (h2 : n ≤ 4096) (h3 : 0 ≤ room) (h4 : room ≤ 4096) : DWf (DS.new n room) :=
  ⟨by simpa [DS.new] using h1, by simpa [DS.new] using h2, by simp [DS.new], fun r hr => by rw [List.eq_of_mem_replicate hr]; exact zeros_byte, fun p hp => by simp [DS.new] at hp, h3, h4, by show (-1 : Int) ≤ -1; omega, by show (-1 : Int) ≤ _; omega, rfl, fun x hx => by simp [DS.new] at hx; omega⟩

theorem info_bytes : (Try.prog.info? 22).map (fun i => (i.zero, i.size, i.bytes)) = some (some (.slice none 0 0), 1, 24) := by kernel_rfl
theorem info_bool : (Try.prog.info? 4).map (fun i => (i.zero, i.size, i.bytes)) = some (some (.bool false), 1, 1) := by kernel_rfl

/-- The rows of noughts that New has made so far. -/
def RowsNew (B : Nat) (w : World) (kc : List Value) : Prop := ∀ (i : Nat) (v : Value), kc[i]? = some v → BRow (fun k => B ≤ k ∧ k < w.heap.size) w v zeros128
/-- No two of some rows lie in one block. -/
def Apart (kc : List Value) : Prop := ∀ (i j : Nat) (u v : Value), kc[i]? = some u → kc[j]? = some v → u.ownBlock = v.ownBlock → i = j
def NewRows (B : Nat) (w : World) (kc : List Value) : Prop := RowsNew B w kc ∧ Apart kc
theorem RowsNew.kept {B : Nat} {w w' : World} {kc : List Value} (h : RowsNew B w kc) (hs : w.heap.size ≤ w'.heap.size) (e : ∀ g, (∃ vs, Blk w g 5 vs) → w'.heap[g]? = w.heap[g]?) : RowsNew B w' kc := fun i v hv =>
  ((h i v hv).kept (fun g _ hg => e g hg)).mono (fun k _ hk => ⟨hk.1, Nat.lt_of_lt_of_le hk.2 hs⟩)
theorem NewRows.kept {B : Nat} {w w' : World} {kc : List Value} (h : NewRows B w kc) (hs : w.heap.size ≤ w'.heap.size) (e : ∀ g, (∃ vs, Blk w g 5 vs) → w'.heap[g]? = w.heap[g]?) : NewRows B w' kc := ⟨h.1.kept hs e, h.2⟩
theorem Apart.snoc {kc : List Value} {g n c : Nat} (h : Apart kc) (hn : ∀ (i : Nat) (v : Value), kc[i]? = some v → v.ownBlock ≠ some g) : Apart (kc ++ [.slice (some ⟨g, 0, none⟩) n c]) := by
  intro i j u v hu hv e
  have key : ∀ (i : Nat) (u : Value), (kc ++ [Value.slice (some ⟨g, 0, none⟩) n c])[i]? = some u → (i < kc.length ∧ kc[i]? = some u) ∨ (i = kc.length ∧ u.ownBlock = some g) := by
    intro i u hu
    by_cases hi : i < kc.length
    · rw [List.getElem?_append_left hi] at hu; exact Or.inl ⟨hi, hu⟩
    · rw [List.getElem?_append_right (by omega)] at hu
      have hi0 : i - kc.length = 0 := by
        have := (List.getElem?_eq_some_iff.1 hu).1
        simp at this; omega
      rw [hi0] at hu
      simp at hu
      subst hu
      exact Or.inr ⟨by omega, rfl⟩
  rcases key i u hu with ⟨h1, h2⟩ | ⟨h1, h2⟩ <;> rcases key j v hv with ⟨h3, h4⟩ | ⟨h3, h4⟩
  · exact h i j u v h2 h4 e
  · exact absurd (e.trans h4) (hn i u h2)
  · exact absurd (e.symm.trans h2) (hn j v h4)
  · omega

set_option maxRecDepth 100000 in
set_option maxHeartbeats 3200000 in
theorem rnew6_at (w : World) (n : Nat) (room : Int) (h1 : 1 ≤ n) (h2 : n ≤ 4096) (h3 : 0 ≤ room) (h4 : room ≤ 4096) :
    Calls Try.prog 29 #[.int .i64 (n : Int), .int .i64 room] w fun e w' => ∃ b kb ib ob ck ci spk spi kv, e = .returned (.pointer (some ⟨b, 0, none⟩)) ∧ RDAt (fun k => w.heap.size ≤ k ∧ k < w'.heap.size) w' b (DS.new n room) kb ib ob ck ci spk spi (.slice none 0 0) kv [] ∧ Apart kv ∧ Below w.heap.size w w' := by
  obtain ⟨ik, hik, hzk, hsk, hbk⟩ := info_parts' info_bytes
  obtain ⟨ib, hib, hzb, hsb, hbb⟩ := info_parts' info_bool
  obtain ⟨zc, hzc⟩ : ∃ zc, zc = madeCells #[Value.int .u8 0] 128 := ⟨_, rfl⟩
  have hmk : ∀ w : World, (Instr.makeSlice 22 (.int .i64 128) (.int .i64 128)).run Try.prog w = .ok (.slice (some ⟨w.heap.size, 0, none⟩) 128 128) (w.alloc (.cells zc 5)) := by
    intro w
    have := run_make_row' (P := Try.prog) 22 5 (.int .u8 0) 1 Try.underlying22 info_u8 rfl .i64 .i64 128 (by omega) (by omega) w
    rw [← hzc] at this; exact this
  have hzl : zc.toList = u8s zeros128 := by rw [hzc, toList_madeCells_one]; simp [zeros128, u8s]
  have Hzl := Lib.hid hzl
  clear hzc hzl
  obtain ⟨w1, hw1⟩ : ∃ w1, w1 = (w.alloc (.cells #[.int .i64 0, .int .i64 0, .int .i64 0] 3)).alloc (.cells #[.slice none 0 0, .slice none 0 0, .slice none 0 0, .int .i64 room, .int .i64 (-1), .bool false, .slice (some ⟨w.heap.size, 0, none⟩) 3 3] 43) := ⟨_, rfl⟩
  have hs0 : (w.alloc (.cells #[.int .i64 0, .int .i64 0, .int .i64 0] 3)).heap.size = w.heap.size + 1 := nblk_alloc _ _
  have hb1 : Below w.heap.size w w1 := by rw [hw1]; exact (below_alloc w _).trans ((below_alloc _ _).mono (by rw [hs0]; omega))
  have hh1 : Blk w1 (w.heap.size + 1) 43 [.slice none 0 0, .slice none 0 0, .slice none 0 0, .int .i64 room, .int .i64 (-1), .bool false, .slice (some ⟨w.heap.size, 0, none⟩) 3 3] := by rw [hw1, ← hs0]; exact Blk.new _ _ _
  have ho1 : Blk w1 w.heap.size 3 (i64s [0, 0, 0]) := by rw [hw1]; exact (Blk.new w 3 (i64s [0, 0, 0])).alloc _
  have hs1 : w1.heap.size = w.heap.size + 2 := by rw [hw1, nblk_alloc, hs0]
  have Hw1 := Lib.hid hw1
  obtain ⟨b, hb⟩ : ∃ b, b = w.heap.size + 1 := ⟨_, rfl⟩
  rw [← hb] at hh1
  have Hb := Lib.hid hb
  obtain ⟨W, hW⟩ : ∃ W, W = w.heap.size := ⟨_, rfl⟩
  have HW := Lib.hid hW
  clear hw1 hs0 hb hW
  go_enter Try.func29, Try.ntmps29
  go_wp2
  rw [← Hw1.out]
  rw [show w.heap.size + 1 = b from Hb.out.symm]
  clear Hw1
  go_loopw [6] (fun i wr => ∃ (j : Nat) (vk vi : Value) (kc : List Value), j ≤ n ∧ i = .int .i64 j ∧ Blk wr b 43 [vk, vi, .slice none 0 0, .int .i64 room, .int .i64 (-1), .bool false, .slice (some ⟨w.heap.size, 0, none⟩) 3 3] ∧ Blk wr w.heap.size 3 (i64s [0, 0, 0]) ∧
      wr.ownsRow w.heap.size 22 1 vk j kc ∧ NewRows w.heap.size wr kc ∧ wr.ownsRow w.heap.size 4 1 vi j ((List.replicate j false).map Value.bool) ∧ Below w.heap.size w wr) (fun i _ => n - (intOf i).toNat)
  case atStart => exact ⟨0, _, _, [], by omega, rfl, hh1, ho1, World.ownsRow_nil _ _ _ _, ⟨fun i v hv => by simp at hv, fun i j u v hu => by simp at hu⟩, World.ownsRow_nil _ _ _ _, hb1⟩
  case round =>
    clear hh1 ho1 hb1 hs1
    obtain ⟨j, vk, vi, kc, hj, rfl, hh, ho, hok, hrows, hoi, hbl⟩ := hrel
    have hc0 := hh.cell (i := 0) rfl
    have hc1 := hh.cell (i := 1) rfl
    have hf0 := hh.frozen 0
    have hf1 := hh.frozen 1
    have hblt := hh.lt
    by_cases hlt : j < n
    · have hne : some b ≠ vk.ownBlock := own_ne hok hh (by decide)
      have hA := (hh.alloc (.cells zc 5)).drew
      have hB := ((hh.alloc (.cells zc 5)).alloc (.cells #[.slice (some ⟨wr.heap.size, 0, none⟩) 128 128] 22)).drew
      have hcA := hA.cell (i := 0) rfl
      have hcB := hB.cell (i := 0) rfl
      have hsA : (wr.alloc (.cells zc 5)).heap.size = wr.heap.size + 1 := nblk_alloc _ _
      have HB := Lib.hid hB
      have HokB := Lib.hid (((hok.alloc (.cells zc 5)).alloc (.cells #[.slice (some ⟨wr.heap.size, 0, none⟩) 128 128] 22)).drew)
      have HoiB := Lib.hid (((hoi.alloc (.cells zc 5)).alloc (.cells #[.slice (some ⟨wr.heap.size, 0, none⟩) 128 128] 22)).drew)
      have HoB := Lib.hid (((ho.alloc (.cells zc 5)).alloc (.cells #[.slice (some ⟨wr.heap.size, 0, none⟩) 128 128] 22)).drew)
      have Hnews := Lib.hid (World.news_of_block (w := ((wr.alloc (.cells zc 5)).alloc (.cells #[.slice (some ⟨wr.heap.size, 0, none⟩) 128 128] 22)).drew) (B := wr.heap.size + 1) (cs := #[.slice (some ⟨wr.heap.size, 0, none⟩) 128 128]) (t := 22) (fr := (0, 0)) (by
        show ((wr.alloc _).alloc _).heap[wr.heap.size + 1]? = _
        rw [← hsA]; exact heap_alloc_new _ _))
      have HbB := Lib.hid (show Below w.heap.size w (((wr.alloc (.cells zc 5)).alloc (.cells #[.slice (some ⟨wr.heap.size, 0, none⟩) 128 128] 22)).drew) from ((hbl.alloc hbl.size _).alloc (by rw [hsA]; have := hbl.size; omega) _).drew)
      have hsB : (((wr.alloc (.cells zc 5)).alloc (.cells #[.slice (some ⟨wr.heap.size, 0, none⟩) 128 128] 22)).drew).heap.size = wr.heap.size + 2 := by
        show ((wr.alloc _).alloc _).heap.size = _
        rw [nblk_alloc, hsA]
      have HnewB := Lib.hid (show Blk (((wr.alloc (.cells zc 5)).alloc (.cells #[.slice (some ⟨wr.heap.size, 0, none⟩) 128 128] 22)).drew) wr.heap.size 5 (u8s zeros128) by
        have h5 : Blk (wr.alloc (.cells zc 5)) wr.heap.size 5 zc.toList := by unfold Blk; rw [blk_alloc_new]
        rw [Hzl.out] at h5
        exact h5.alloc _)
      have HrB := Lib.hid (hrows.kept (w' := ((wr.alloc (.cells zc 5)).alloc (.cells #[.slice (some ⟨wr.heap.size, 0, none⟩) 128 128] 22)).drew) (by rw [hsB]; omega) (fun g ⟨vs, hg⟩ => by
        show ((wr.alloc _).alloc _).heap[g]? = _
        rw [blk_alloc_lt _ _ _ (by rw [hsA]; exact Nat.lt_succ_of_lt hg.lt), blk_alloc_lt _ _ _ hg.lt]))
      have hwsz := hbl.size
      have HsB := Lib.hid hsB
      clear hA hB hsA hsB
      go_wp2
      go_region_law (first
        | (refine step_append_own rfl (.tmp 20) (.tmp 22) 38 rfl w.heap.size 22 ik (.slice none 0 0) 1 24 Try.underlying38 hik hzk hsk hbk rfl (by decide) vk j kc (by simp [Act.eval, Act.put]) HokB.out ⟨wr.heap.size + 1, 0, none⟩ 1 1 [.slice (some ⟨wr.heap.size, 0, none⟩) 128 128] (by simp [Act.eval, Act.put]) rfl Hnews.out (by intro u hu; simp at hu; subst hu; rfl) (by simp only [maxLen]; omega) (by omega) (by rw [HsB.out]; omega) ?_
           intro v3 w3 hown3 hg3
           have hlt3 : b < (((wr.alloc (.cells zc 5)).alloc (.cells #[.slice (some ⟨wr.heap.size, 0, none⟩) 128 128] 22)).drew).heap.size := HB.out.lt
           have hh3 := HB.out.kept (hg3.block b hlt3 hne)
           have hc3 := hh3.cell (i := 0) rfl
           have hf3 := hh3.frozen 0
           obtain ⟨A3, c3, rfl, _⟩ := own_form hown3
           have Hh3 := Lib.hid hh3
           have Hown3 := Lib.hid hown3
           have Hg3 := Lib.hid hg3
           clear hh3 hown3 hg3 hlt3))
      all_goals
        obtain ⟨w4, hw4⟩ : ∃ w4, w4 = w3.setCell ⟨b, 0, none⟩ (.slice A3 (j + 1) c3) := ⟨_, rfl⟩
        have hh4 : Blk w4 b 43 [.slice A3 (j + 1) c3, vi, .slice none 0 0, .int .i64 room, .int .i64 (-1), .bool false, .slice (some ⟨w.heap.size, 0, none⟩) 3 3] := by rw [hw4]; exact Hh3.out.set 0 _
        have far : ∀ {g : Nat} {t : TypeId} {vs : List Value}, Blk w3 g t vs → t ≠ 43 → w4.heap[g]? = w3.heap[g]? := by
          intro g t vs hg ht
          rw [hw4]; exact blk_setCell_other _ _ _ _ (hg.ne Hh3.out ht)
        have hok4 : w4.ownsRow w.heap.size 22 1 (.slice A3 (j + 1) c3) (j + 1) (kc ++ [.slice (some ⟨wr.heap.size, 0, none⟩) 128 128]) := own_stays Hown3.out (fun k hk => by
          obtain ⟨vs, hvs⟩ := own_typed Hown3.out hk
          exact far hvs (by decide))
        have hvkt : ∀ {g : Nat} {t : TypeId} {vs : List Value}, Blk (((wr.alloc (.cells zc 5)).alloc (.cells #[.slice (some ⟨wr.heap.size, 0, none⟩) 128 128] 22)).drew) g t vs → t ≠ 22 → Blk w3 g t vs := by
          intro g t vs hg ht
          exact hg.kept (Hg3.out.block g hg.lt (own_ne HokB.out hg ht))
        have ho4 : Blk w4 w.heap.size 3 (i64s [0, 0, 0]) := by
          have h5 := hvkt HoB.out (by decide)
          exact h5.kept (far h5 (by decide))
        have hoi4 : w4.ownsRow w.heap.size 4 1 vi j ((List.replicate j false).map Value.bool) := own_stays (own_stays (w' := w3) HoiB.out (fun k hk => by
          obtain ⟨vs, hvs⟩ := own_typed HoiB.out hk
          exact Hg3.out.block k hvs.lt (own_ne HokB.out hvs (by decide)))) (fun k hk => by
          obtain ⟨vs, hvs⟩ := own_typed HoiB.out hk
          exact far (hvkt hvs (by decide)) (by decide))
        have hs34 : w4.heap.size = w3.heap.size := by rw [hw4, nblk_setCell]
        have hs3 : wr.heap.size + 2 ≤ w3.heap.size := by have := Hg3.out.size; rw [HsB.out] at this; exact this
        have hrow4 : NewRows w.heap.size w4 (kc ++ [.slice (some ⟨wr.heap.size, 0, none⟩) 128 128]) := by
          refine ⟨?_, hrows.2.snoc (fun i v hv e => by
            obtain ⟨g, cap, sp, rfl, hg, _⟩ := hrows.1 i v hv
            have e2 : g = wr.heap.size := Option.some.inj e
            have := hg.2; omega)⟩
          intro i v hv
          by_cases hi : i < kc.length
          · rw [List.getElem?_append_left hi] at hv
            exact ((HrB.out.1 i v hv).kept (w' := w4) (fun g _ ⟨vs, hg⟩ => by
              have h5 := hvkt hg (by decide)
              rw [far h5 (by decide)]
              exact Hg3.out.block g hg.lt (own_ne HokB.out hg (by decide)))).mono (fun k _ hk => ⟨hk.1, by have := hk.2; rw [HsB.out] at this; omega⟩)
          · rw [List.getElem?_append_right (by omega)] at hv
            have hi0 : i - kc.length = 0 := by
              have := (List.getElem?_eq_some_iff.1 hv).1
              simp at this; omega
            rw [hi0] at hv
            simp at hv
            subst hv
            have h5 := hvkt HnewB.out (by decide)
            exact ⟨wr.heap.size, 128, [], by simp [zeros128], ⟨hwsz, by omega⟩, by simp [zeros128], by simpa using h5.kept (far h5 (by decide)), by simp [zeros128]⟩
        have hb4 : Below w.heap.size w w4 := by
          rw [hw4]
          exact (HbB.out.grown Hg3.out (by rw [HsB.out]; omega) (fun k hk => (HokB.out.lt k hk).1)).setCell (by show w.heap.size ≤ b; rw [Hb.out]; omega) _
        rw [← hw4]
        clear hw4 far hvkt hs34 hs3 Hh3 Hown3 Hg3 hc3 hf3 HB HokB HoiB HoB Hnews HbB HnewB HrB HsB hcA hcB hc0 hc1 hf0 hf1 hne hh ho hok hrows hoi
        have hc1 := hh4.cell (i := 1) rfl
        have hf1 := hh4.frozen 1
        have hsz4 := hb4.size
        have hne5 : some b ≠ vi.ownBlock := own_ne hoi4 hh4 (by decide)
        go_wp2_with (at_builtin; refine wpList_push (.tmp 30) (.tmp 31) 39 4 ib _ (.bool false) 1 rfl rfl Try.underlying39 hib hzb hsb hbb rfl w.heap.size _ _ _ hoi4 rfl rfl rfl (by omega) (by omega) hsz4 ?_; intro v5 w5 hown5 hg5 hb5 hs5; obtain ⟨A5, c5, rfl, _⟩ := own_form hown5; have hh5 := (hh4.alloc (.cells #[.bool false] 4)).kept (hg5.block b (hh4.alloc (.cells #[.bool false] 4)).lt hne5); have hc5 := hh5.cell (i := 1) rfl; have hf5 := hh5.frozen 1)
        have old5 : ∀ {g : Nat} {t : TypeId} {vs : List Value}, Blk w4 g t vs → t ≠ 4 → Blk w5 g t vs := by
          intro g t vs hg ht
          have h5 := hg.alloc (.cells #[.bool false] 4)
          exact h5.kept (hg5.block g h5.lt (own_ne (hoi4.alloc (.cells #[.bool false] 4)) h5 ht))
        obtain ⟨w6, hw6⟩ : ∃ w6, w6 = w5.setCell ⟨b, 1, none⟩ (.slice A5 (j + 1) c5) := ⟨_, rfl⟩
        have hh6 : Blk w6 b 43 [.slice A3 (j + 1) c3, .slice A5 (j + 1) c5, .slice none 0 0, .int .i64 room, .int .i64 (-1), .bool false, .slice (some ⟨w.heap.size, 0, none⟩) 3 3] := by rw [hw6]; exact hh5.set 1 _
        have far6 : ∀ {g : Nat} {t : TypeId} {vs : List Value}, Blk w5 g t vs → t ≠ 43 → w6.heap[g]? = w5.heap[g]? := by
          intro g t vs hg ht
          rw [hw6]; exact blk_setCell_other _ _ _ _ (hg.ne hh5 ht)
        have ho6 : Blk w6 w.heap.size 3 (i64s [0, 0, 0]) := by
          have h5 := old5 ho4 (by decide)
          exact h5.kept (far6 h5 (by decide))
        have hok6 : w6.ownsRow w.heap.size 22 1 (.slice A3 (j + 1) c3) (j + 1) (kc ++ [.slice (some ⟨wr.heap.size, 0, none⟩) 128 128]) := own_stays hok4 (fun k hk => by
          obtain ⟨vs, hvs⟩ := own_typed hok4 hk
          have h5 := old5 hvs (by decide)
          rw [far6 h5 (by decide)]
          exact h5.trans hvs.symm)
        have hoi6 : w6.ownsRow w.heap.size 4 1 (.slice A5 (j + 1) c5) (j + 1) ((List.replicate (j + 1) false).map Value.bool) := by
          have h5 := own_stays (w' := w6) hown5 (fun k hk => by
            obtain ⟨vs, hvs⟩ := own_typed hown5 hk
            exact far6 hvs (by decide))
          rw [List.replicate_succ', List.map_append]; exact h5
        have hs56 : w6.heap.size = w5.heap.size := by rw [hw6, nblk_setCell]
        have hrow6 : NewRows w.heap.size w6 (kc ++ [.slice (some ⟨wr.heap.size, 0, none⟩) 128 128]) := hrow4.kept (by omega) (fun g ⟨vs, hg⟩ => by
          have h5 := old5 hg (by decide)
          rw [far6 h5 (by decide)]
          exact h5.trans hg.symm)
        have hb6 : Below w.heap.size w w6 := by
          rw [hw6]
          exact (hb4.trans hb5).setCell (by show w.heap.size ≤ b; rw [Hb.out]; omega) _
        rw [← hw6]
        clear hw6 far6 old5 hs56 hh5 hc5 hf5 hown5 hg5 hh4 ho4 hok4 hoi4 hrow4 hb4 hc1 hf1 hb5 hne5
        go_wp2
        go_roundw
        case rel => exact ⟨j + 1, _, _, _, by omega, by go_num, hh6, ho6, hok6, hrow6, hoi6, hb6⟩
        case measure => simp [intOf]; omega
    · obtain rfl : j = n := by omega
      go_wp2
      go_ret
      rcases hok.2 with ⟨_, hz⟩ | ⟨gk, capk, curk, rfl, hgk, hhk, hnk, hmk2, hck, htk⟩
      · omega
      rcases hoi.2 with ⟨_, hz⟩ | ⟨gi, capi, curi, rfl, hgi, hhi, hni, hmi2, hci, hti⟩
      · omega
      have hkl : kc.length = j := by have := hok.1; omega
      have hbk2 : Blk wr gk 22 (kc ++ curk.toList.drop j) := by unfold Blk; rw [hhk, ← htk, Nat.mul_one, List.take_append_drop]
      have hbi2 : Blk wr gi 4 ((List.replicate j false).map Value.bool ++ curi.toList.drop j) := by unfold Blk; rw [hhi, ← hti, Nat.mul_one, List.take_append_drop]
      refine ⟨b, gk, gi, w.heap.size, capk, capi, curk.toList.drop j, curi.toList.drop j, kc, rfl, ?_, hrows.2, hbl⟩
      refine ⟨⟨by rw [Hb.out]; omega, hblt⟩, ⟨hgk, hbk2.lt⟩, ⟨hgi, hbi2.lt⟩, ⟨Nat.le_refl _, ho.lt⟩, ?_, hbk2, ?_, ?_, hbi2, Or.inl ⟨rfl, rfl⟩, rfl, fun i p hi => by simp [DS.new] at hi, ho, fun k hk => hk.2⟩
      · simpa [DS.new] using hh
      · simp [DS.new, hkl]
      · intro i xs hi
        have hil : i < j := by have := (List.getElem?_eq_some_iff.1 hi).1; simpa [DS.new] using this
        have hx : xs = zeros128 := by
          have := List.getElem?_replicate (n := j) (a := zeros128) (i := i)
          rw [if_pos hil] at this
          exact Option.some.inj (hi.symm.trans this)
        subst hx
        exact ⟨kc[i]'(by omega), List.getElem?_eq_getElem _, hrows.1 i _ (List.getElem?_eq_getElem (by omega))⟩
theorem rnew6_is (w : World) (n : Nat) (room : Int) (h1 : 1 ≤ n) (h2 : n ≤ 4096) (h3 : 0 ≤ room) (h4 : room ≤ 4096) :
    Calls Try.prog 29 #[.int .i64 (n : Int), .int .i64 room] w fun e w' => ∃ b, e = .returned (.pointer (some ⟨b, 0, none⟩)) ∧ RD (fun k => w.heap.size ≤ k ∧ k < w'.heap.size) w' b (DS.new n room) ∧ Below w.heap.size w w' := by
  refine (rnew6_at w n room h1 h2 h3 h4).mono ?_
  rintro e w1 ⟨b, kb, ib, ob, ck, ci, spk, spi, kv, rfl, h, _, hb⟩
  exact ⟨b, rfl, RD.of (DWf.new h1 h2 h3 h4) h, hb⟩
end Go.Proofs.Ythdclncgmhgmfaa
