/- The program's disk: settle. -/
import Derived.Test.YthdclncgmhgmfaaPD8
namespace Go.Proofs.Ythdclncgmhgmfaa
open Go.RowKit Go.Deep
set_option linter.unusedSimpArgs false
set_option linter.unusedVariables false

theorem PRow.at_ {F : Nat → Prop} {w : World} {A : Option Addr} {n c : Nat} {ps : List (Int × List Int)} (h : PRow F w (.slice A n c) ps) {i : Nat} {p : Int × List Int} (hi : ps[i]? = some p) :
    ∃ g, A = some ⟨g, 0, none⟩ ∧ F g ∧ w.rangeAt g (i * 129) (pieceCells p) := by
  obtain ⟨A', c', e, _, hr⟩ := h.form
  simp only [Value.slice.injEq] at e
  obtain ⟨rfl, _, _⟩ := e
  obtain ⟨g, h1, h2, _, h3, _⟩ := hr i p hi
  exact ⟨g, h1, h2, h3⟩

theorem dkeep_any (w : World) (sb n m c : Nat) (vs : List Value) (bs old : List Int) (hs : Blk w sb 70 vs) (hv : n * 130 + 130 ≤ vs.length) (hb : bs.length = 128) (hold : old.length = 128) (hrow : ∀ (j : Nat) (u : Int), old[j]? = some u → vs[n * 130 + j]? = some (.int .u8 u)) (hm : m < 256) (hc : min m 128 = c) :
    Calls Try.prog 52 #[.pointer (some ⟨sb, n * 130, none⟩), .agg (u8s bs).toArray, .int .i64 (m : Int)] w fun e w' => e = .returned (.tuple #[]) ∧ Blk w' sb 70 (keptOr vs n c bs old) ∧ Only (fun k => k = sb) w w' := by
  unfold keptOr
  by_cases h0 : m = 0
  · subst h0
    have hc0 : c = 0 := by rw [← hc]; rfl
    rw [if_pos hc0]
    refine (dkeep_none w ⟨sb, n * 130, none⟩ bs).mono ?_
    rintro e w' ⟨rfl, hO⟩
    exact ⟨rfl, hO.blk hs (fun h => h), hO.mono (fun _ _ h => h.elim)⟩
  · by_cases h1 : m < 128
    · have hcm : c = m := by omega
      rw [if_neg (by omega), hcm]
      exact dkeep_part w sb n m vs bs old hs hv hb hold hrow (by omega) h1
    · have hcm : c = 128 := by omega
      rw [if_neg (by omega), hcm]
      have e : partOf 128 bs old = bs := by
        unfold partOf
        rw [List.take_of_length_le (by omega), List.drop_of_length_le (by omega), List.append_nil]
      rw [e]
      exact dkeep_whole w sb n m vs bs hs hv hb (by omega) hm

theorem range_only {F : Nat → Prop} {w w' : World} {g o : Nat} {vs : List Value} (h : w.rangeAt g o vs) (hO : Only F w w') (hn : ¬ F g) : w'.rangeAt g o vs := fun j v hj => by
  have h1 := h j v hj
  exact (World.cell?_of_block (w := w) (hO.block g (World.block_lt_of_cell? w _ h1) hn)).trans h1
/-- One more piece has come to its end. -/
theorem mid_pd {F : Nat → Prop} {wr w' : World} {b : Nat} {S : DS} {cs : List Int} {k sb mb : Nat} {vs vs' : List Value} {vw : Value} {c : Int} {L : List Int} {left : Int} (h : PDAt F wr b (S.mid cs k) k S.waits sb mb vs vw c L)
    (hs : Blk w' sb 70 vs') (hsecs : SecsOf vs' (S.mid cs (k + 1)) (k + 1))
    (hb : Blk w' b 63 [.slice (some ⟨sb, 0, none⟩) S.kept.length S.kept.length, vw, .int .i64 left, .int .i64 c, .bool S.off, .pointer (some ⟨mb, 0, none⟩)])
    (hleft : left = S.room - ((S.mid cs (k + 1)).used : Int)) (huse : (S.mid cs (k + 1)).used ≤ (S.mid cs k).used)
    (hsame : ∀ j, j < wr.heap.size → j ≠ sb → j ≠ b → w'.heap[j]? = wr.heap[j]?) : PDAt F w' b (S.mid cs (k + 1)) (k + 1) S.waits sb mb vs' vw c L := by
  obtain ⟨r1, r2, r3, r4, r5⟩ := mid_rest S cs (k + 1)
  obtain ⟨q1, q2, q3, q4, q5⟩ := mid_rest S cs k
  obtain ⟨vm, hvm⟩ := h.met.blk
  have hu := h.use
  rw [q1] at hu
  refine ⟨h.fb, h.fs, h.fm, by rw [r5, r4, r1, ← hleft]; exact hb, hs, hsecs, h.wait.kept (fun g _ hv => ?_), rfl, by rw [r1]; omega, h.cut0, h.cut1, ?_, ?_, by rw [r2, ← q2]; exact h.ops⟩
  · obtain ⟨vs2, hv⟩ := hv
    exact hsame g hv.lt (hv.ne h.sect (by decide)) (hv.ne h.head (by decide))
  · intro ho
    rw [r3]
    have := h.cut (by rw [q4]; rw [r4] at ho; exact ho)
    rw [q3] at this; exact this
  · exact h.met.kept (hsame mb h.met.lt (hvm.ne h.sect (by decide)) (hvm.ne h.head (by decide)))

/-- All pieces have come to their end. -/
theorem mid_end {F : Nat → Prop} {wr w' : World} {b : Nat} {S : DS} {cs : List Int} {sb mb : Nat} {vs : List Value} {vw : Value} {c : Int} {L : List Int} (h : PDAt F wr b (S.mid cs S.waits.length) S.waits.length S.waits sb mb vs vw c L)
    (hw' : w' = wr.setCell ⟨b, 1, none⟩ (.slice none 0 0)) : PDAt F w' b { S.crashTo cs S.waits.length with waits := [] } 0 [] sb mb vs (.slice none 0 0) c L := by
  have e : S.mid cs S.waits.length = { S.crashTo cs S.waits.length with waits := [] } := by
    unfold DS.mid; rw [List.drop_of_length_le (Nat.le_refl _)]
  rw [e] at h
  obtain ⟨vm, hvm⟩ := h.met.blk
  have far : ∀ {g : Nat}, g ≠ b → w'.heap[g]? = wr.heap[g]? := fun hne => by rw [hw']; exact blk_setCell_other _ _ _ _ hne
  refine ⟨h.fb, h.fs, h.fm, by rw [hw']; exact h.head.set 1 _, h.sect.kept (far (h.sect.ne h.head (by decide))), ⟨h.secs.len, h.secs.kept, h.secs.used, h.secs.last⟩, Or.inl ⟨rfl, rfl⟩, rfl, h.use, h.cut0, h.cut1, h.cut, h.met.kept (far (hvm.ne h.head (by decide))), h.ops⟩

set_option maxRecDepth 100000 in
set_option maxHeartbeats 6400000 in
theorem dsettle_is (F : Nat → Prop) (w : World) (b : Nat) (S : DS) (cs : List Int) (h : PD F w b S) (g : Nat) (cap : Array Value) (hent : ∀ (args : Array Value) (w : World), (callFunc g args).run Try.prog w = .ok (.enter g args) w)
    (m : Nat → Nat) (hm : ∀ k, m k < 256 ∧ min (m k) 128 = cutAt cs k) (hstep : ∀ (k : Nat) (wr : World), k < S.waits.length → Only F w wr → Calls Try.prog g (#[.int .i64 (k : Int)] ++ cap) wr fun e w' => e = .returned (.int .i64 (m k : Int)) ∧ w' = wr) :
    Calls Try.prog 45 #[.pointer (some ⟨b, 0, none⟩), .func (.func g) #[] cap] w fun e w' => e = .returned (.tuple #[]) ∧ PD F w' b { S.crashTo cs S.waits.length with waits := [] } ∧ Only F w w' := by
  obtain ⟨hwf, hFb, hfin, sb, mb, vs0, vw, c, L, h⟩ := h
  obtain ⟨A, cA, rfl, hnr, _⟩ := h.wait.form
  have hc1 := h.head.cell (i := 1) rfl
  obtain ⟨n, hn⟩ : ∃ n, n = S.waits.length := ⟨_, rfl⟩
  obtain ⟨K, hK⟩ : ∃ K, K = S.kept.length := ⟨_, rfl⟩
  rw [← hn] at hc1 hnr
  have hK2 := hwf.n2
  rw [← hK] at hK2
  have Hn := Lib.hid hn
  have HK := Lib.hid hK
  have Hwf := Lib.hid hwf
  have Hfin := Lib.hid hfin
  have Hstep := Lib.hid hstep
  have Hm := Lib.hid hm
  have hsizeP : ∀ p : Int × List Int, p.2.length = 128 → (Try.prog.info? 87).map (·.size) = some (pieceCells p).length := fun p hp => by rw [size_pc, pieceCells_len hp]
  have hsizeQ : ∀ p : Int × List Int, p.2.length = 128 → (Try.prog.info? 87).map (·.size) = some (pieceCells p).toArray.size := fun p hp => by rw [size_pc, List.size_toArray, pieceCells_len hp]
  have HsizeP := Lib.hid hsizeP
  have HsizeQ := Lib.hid hsizeQ
  have hstart : ∃ vs, PDAt F w b (S.mid cs 0) 0 S.waits sb mb vs (.slice A n cA) c L := ⟨vs0, by rw [mid_zero, hn]; exact h⟩
  have Hstart := Lib.hid hstart
  clear h hwf hfin hstep hm hn hK hsizeP hsizeQ hstart
  go_enter Try.func45, Try.ntmps45
  go_wp2_with fail
  go_loopw [12] (fun i wr => ∃ k : Nat, k ≤ n ∧ i = .int .i64 k ∧ Hid (∃ vs, PDAt F wr b (S.mid cs k) k S.waits sb mb vs (.slice A n cA) c L) ∧ Only F w wr) (fun i _ => n - (intOf i).toNat)
  case atStart => exact ⟨0, by omega, rfl, Hstart, Only.refl _ _⟩
  case round =>
    clear Hstart hc1
    obtain ⟨k, hk, rfl, hst, hO⟩ := hrel
    by_cases hlt : k < n
    · obtain ⟨vs, hv⟩ := hst.out
      obtain ⟨p, hp⟩ : ∃ p, S.waits[k]? = some p := ⟨_, List.getElem?_eq_getElem (by rw [← Hn.out]; exact hlt)⟩
      obtain ⟨g0, rfl, hFg, Hr⟩ := hv.wait.at_ hp
      have hpw := Hwf.out.wts p (List.mem_of_getElem? hp)
      obtain ⟨i, hi⟩ : ∃ i, i = p.1.toNat := ⟨_, rfl⟩
      have hpi : p.1 = (i : Int) := by omega
      have hiK : i < K := by rw [HK.out]; omega
      have hpl : p.2.length = 128 := hpw.2.2.1
      have hiI : (i : Int) < (K : Int) := by omega
      have hi0 : (0 : Int) ≤ (i : Int) := by omega
      have hkI : (k : Int) < (n : Int) := by omega
      have hk0 : (0 : Int) ≤ (k : Int) := by omega
      have Hr := Lib.hid Hr
      obtain ⟨r1, r2, r3, r4, r5⟩ := mid_rest S cs k
      have hFr : ∀ j, F j → j < wr.heap.size := fun j hj => Nat.lt_of_lt_of_le (Hfin.out j hj) hO.size
      -- the piece, on its own
      obtain ⟨wB, hwB⟩ : ∃ wB, wB = (wr.alloc (.cells zeroPiece 87)).setCells wr.heap.size 0 (pieceCells p) := ⟨_, rfl⟩
      have hzB : Blk (wr.alloc (.cells zeroPiece 87)) wr.heap.size 87 zeroPiece.toList := by
        have := Blk.new wr 87 zeroPiece.toList
        exact this
      have HthP := Lib.hid (hzB.there (n := (pieceCells p).toArray.size) (by rw [List.size_toArray, pieceCells_len hpl, Array.length_toList, zeroPiece_size]; omega))
      have hPB : Blk wB wr.heap.size 87 (pieceCells p) := by rw [hwB]; exact setCells_whole hzB (by rw [pieceCells_len hpl, Array.length_toList, zeroPiece_size])
      have hB : Below wr.heap.size wr wB := by rw [hwB]; exact below_setCells (below_alloc _ _) (Nat.le_refl _) _ _
      have hvB := hv.keep (w' := wB) (fun j hj => hB.block j (hFr j hj))
      have hOB : Only F w wB := hO.trans (Only.of_below (F := F) hB) (fun _ _ h => h)
      have hc0 : wB.cell? ⟨b, 0, none⟩ = some (.slice (some ⟨sb, 0, none⟩) K K) := by have := hvB.head.cell (i := 0) rfl; rw [r5, ← HK.out] at this; exact this
      have hcp0 : wB.cell? ⟨wr.heap.size, 0, none⟩ = some (.int .i64 (i : Int)) := by have := hPB.cell (i := 0) rfl; rw [hpi] at this; exact this
      have HrB := Lib.hid (show wB.rangeAt wr.heap.size 1 (u8s p.2) from fun j v hj => by
        rw [Nat.add_comm 1 j]
        exact hPB.cell (by unfold pieceCells; rw [List.getElem?_cons_succ]; exact hj))
      have hsizeL : (Try.prog.info? 52).map (·.size) = some (u8s p.2).length := by rw [size_arr, List.length_map, hpl]
      have hsP := HsizeP.out p hpl
      have hsQ := HsizeQ.out p hpl
      have HwB := Lib.hid hwB
      have Hv := Lib.hid hv
      have HvB := Lib.hid hvB
      have HOB := Lib.hid hOB
      have HB := Lib.hid hB
      have HFr := Lib.hid hFr
      have Hp := Lib.hid hp
      have Hi := Lib.hid hi
      have Hpw := Lib.hid hpw
      have Hpi := Lib.hid hpi
      have HPB := Lib.hid hPB
      clear hv hvB hOB hB hFr hp hi hpw hpi hPB hzB hwB hst hk
      go_wp2_with (first
        | (refine wpList_load_mid rfl 87 (.tmp 15) rfl g0 (k * 129) rfl (pieceCells p) _ Hr.out Try.underlying87 rfl hsP ?_)
        | (refine wpList_store_mid rfl 87 (.tmp 5) (.tmp 16) rfl wr.heap.size 0 (pieceCells p).toArray rfl rfl HthP.out hsQ (all_oneCell_toArray (one_piece p)) ?_; rw [show (pieceCells p).toArray.toList = pieceCells p from rfl, ← HwB.out]))
      go_quiet (fail)
      go_wp2_with fail
      obtain ⟨wC, hwC⟩ : ∃ wC, wC = wB.drewN nq := ⟨_, rfl⟩
      have hvC := HvB.out.keep (w' := wC.drew) (fun j _ => by rw [hwC]; rfl)
      have hOC : Only F w wC.drew := by rw [hwC]; exact (HOB.out.drewN nq).drew
      have hBC : Below wr.heap.size wr wC.drew := by rw [hwC]; have := below_drewN HB.out nq; exact ⟨this.os, this.tape, this.output, this.size, this.block⟩
      have hS0 : wC.drew.rangeAt wr.heap.size 1 (u8s p.2) := by rw [hwC]; exact HrB.out
      rw [← hwC]
      obtain ⟨mk, hmk⟩ : ∃ mk, mk = m k := ⟨_, rfl⟩
      have hmk2 := Hm.out k
      have Hcall := Lib.hid (Hstep.out k wC.drew (by rw [← Hn.out]; exact hlt) hOC)
      rw [← hmk] at hmk2 Hcall
      have hwm := Hwf.out.mid cs k
      have hiK' : i < S.kept.length := by rw [← HK.out]; exact hiK
      obtain ⟨old, hold⟩ : ∃ old, (S.mid cs k).kept[i]? = some old := ⟨_, List.getElem?_eq_getElem (by rw [r5]; exact hiK')⟩
      have eold : (S.mid cs k).kept.getD i [] = old := by simp [List.getD, hold]
      have hol : old.length = 128 := (hwm.rows old (List.mem_of_getElem? hold)).1
      have hlen := hvC.secs.len
      rw [r5] at hlen
      have hvl : i * 130 + 130 ≤ vs.length := by rw [hlen]; omega
      have Hkeep := Lib.hid (dkeep_any wC.drew sb i mk (cutAt cs k) vs p.2 old hvC.sect hvl hpl hol (fun j u hj => hvC.secs.kept i old hold j u hj) hmk2.1 hmk2.2)
      obtain ⟨vs1, hvs1⟩ : ∃ vs1, vs1 = keptOr vs i (cutAt cs k) p.2 old := ⟨_, rfl⟩
      rw [← hvs1] at Hkeep
      have hfar : ∀ x, (x < i * 130 ∨ i * 130 + 129 ≤ x) → vs1[x]? = vs[x]? := fun x hx => by rw [hvs1]; exact keptOr_far hvl hpl hol (cutAt_le _ _) hx
      have Hfar := Lib.hid hfar
      have Hvs1 := Lib.hid (show vs1 = keptOr vs i (cutAt cs k) p.2 ((S.mid cs k).kept.getD i []) by rw [eold]; exact hvs1)
      have HvC := Lib.hid hvC
      have HOC := Lib.hid hOC
      have HBC := Lib.hid hBC
      clear hvC hOC hwC hmk hmk2 hwm hold eold hol hlen hvl hvs1 hfar hBC Hstep
      refine wp_region_held_drew (S := fun w' => w'.rangeAt wr.heap.size 1 (u8s p.2)) (by kernel_rfl) hS0 (fun hHeld => ?_)
      refine wpAnyH_take (i := 0) (oi := ?oiz1) (v := ?vz1) ?hiz1 ?haz1 ?hbz1 ?hcz1 ?hqz1 ?hyz1 (by assumption) ?restz1
      case hiz1 => (simp only [List.getElem?_toArray, List.getElem?_cons_zero, List.getElem?_cons_succ]; rfl)
      case haz1 => kernel_rfl
      case hbz1 => kernel_rfl
      case hcz1 => kernel_rfl
      case hyz1 => exact Or.inl ⟨by rfl, by (intro w hSw; (try dsimp only at hSw); go_split_ands; go_simp; (try with_reducible rfl))⟩
      case hqz1 => exact fun _ _ _ h => h
      try simp only [Act.put, List.setIfInBounds_toArray, List.set_cons_zero, List.set_cons_succ]
      refine wpAnyH_take (i := 1) (oi := ?oiz2) (v := ?vz2) ?hiz2 ?haz2 ?hbz2 ?hcz2 ?hqz2 ?hyz2 (by assumption) ?restz2
      case hiz2 => (simp only [List.getElem?_toArray, List.getElem?_cons_zero, List.getElem?_cons_succ]; rfl)
      case haz2 => kernel_rfl
      case hbz2 => kernel_rfl
      case hcz2 => kernel_rfl
      case hyz2 => exact Or.inl ⟨by rfl, by (intro w hSw; (try dsimp only at hSw); go_split_ands; go_simp; (try with_reducible rfl))⟩
      case hqz2 => exact fun _ _ _ h => h
      try simp only [Act.put, List.setIfInBounds_toArray, List.set_cons_zero, List.set_cons_succ]
      refine wpAnyH_take (i := 2) (oi := ?oiz3) (v := .agg (u8s p.2).toArray) ?hiz3 ?haz3 ?hbz3 ?hcz3 ?hqz3 ?hyz3 (by assumption) ?restz3
      case hiz3 => (simp only [List.getElem?_toArray, List.getElem?_cons_zero, List.getElem?_cons_succ]; rfl)
      case haz3 => kernel_rfl
      case hbz3 => kernel_rfl
      case hcz3 => kernel_rfl
      case hyz3 => exact Or.inl ⟨by rfl, fun w' hSw => run_load_op 52 (.tmp 25) rfl wr.heap.size 1 rfl (u8s p.2) _ hSw Try.underlying52 rfl hsizeL⟩
      case hqz3 => exact fun _ _ _ h => h
      try simp only [Act.put, List.setIfInBounds_toArray, List.set_cons_zero, List.set_cons_succ]
      refine wpAnyH_take (i := 3) (oi := ?oiz4) (v := ?vz4) ?hiz4 ?haz4 ?hbz4 ?hcz4 ?hqz4 ?hyz4 (by assumption) ?restz4
      case hiz4 => (simp only [List.getElem?_toArray, List.getElem?_cons_zero, List.getElem?_cons_succ]; rfl)
      case haz4 => kernel_rfl
      case hbz4 => kernel_rfl
      case hcz4 => kernel_rfl
      case hyz4 => exact Or.inl ⟨by rfl, by (intro w hSw; (try dsimp only at hSw); go_split_ands; go_simp; (try with_reducible rfl))⟩
      case hqz4 => exact fun _ _ _ h => h
      try simp only [Act.put, List.setIfInBounds_toArray, List.set_cons_zero, List.set_cons_succ]
      refine wpAnyH_take (i := 4) (oi := ?oiz5) (v := ?vz5) ?hiz5 ?haz5 ?hbz5 ?hcz5 ?hqz5 ?hyz5 (by assumption) ?restz5
      case hiz5 => (simp only [List.getElem?_toArray, List.getElem?_cons_zero, List.getElem?_cons_succ]; rfl)
      case haz5 => kernel_rfl
      case hbz5 => kernel_rfl
      case hcz5 => kernel_rfl
      case hyz5 => exact Or.inl ⟨by rfl, by (intro w hSw; (try dsimp only at hSw); go_split_ands; go_simp; (try with_reducible rfl))⟩
      case hqz5 => exact fun _ _ _ h => h
      try simp only [Act.put, List.setIfInBounds_toArray, List.set_cons_zero, List.set_cons_succ]
      refine wpAnyH_ready (rs := [5]) (by kernel_rfl) (by simp) ?_
      refine AllReadyH.cons (o := ?oiz6) ?hiz6 (fun K hK => ?stepz6) AllReadyH.nil
      case hiz6 => (simp only [List.getElem?_toArray, List.getElem?_cons_zero, List.getElem?_cons_succ]; rfl)
      go_simp
      refine Hcall.out.mono ?_
      rintro e wD ⟨rfl, hwD⟩
      obtain rfl := hwD.symm
      refine hK.out _ _ hS0 (fun hHeld => ?_)
      clear hK K
      try simp only [Act.put, List.setIfInBounds_toArray, List.set_cons_zero, List.set_cons_succ]
      refine wpAnyH_ready (rs := [6]) (by kernel_rfl) (by simp) ?_
      refine AllReadyH.cons (o := ?oiz7) ?hiz7 (fun K hK => ?stepz7) AllReadyH.nil
      case hiz7 => (simp only [List.getElem?_toArray, List.getElem?_cons_zero, List.getElem?_cons_succ]; rfl)
      go_simp
      refine Hkeep.out.mono ?_
      rintro e w5 ⟨rfl, hs5, hO5⟩
      have hS5 : w5.rangeAt wr.heap.size 1 (u8s p.2) := range_only hS0 hO5 (fun e => by have := HFr.out sb Hv.out.fs; omega)
      refine hK.out _ _ hS5 (fun hHeld => ?_)
      clear hK K
      try simp only [Act.put, List.setIfInBounds_toArray, List.set_cons_zero, List.set_cons_succ]
      refine wpAnyH_done (by kernel_rfl) ?_ _
      clear hHeld hS5 hS0 hwD Hcall Hkeep
      obtain ⟨l, hl⟩ : ∃ l, l = lastOf (S.waits.drop k) k i := ⟨_, rfl⟩
      have hcl : w5.cell? ⟨sb, i * 130 + 129, none⟩ = some (.int .i64 (l : Int)) := by
        refine hs5.cell ?_
        rw [Hfar.out _ (by omega), hl]
        exact HvC.out.secs.last i (by rw [r5]; exact hiK')
      have hfl := hs5.frozen (i * 130 + 129)
      have hll := lastOf_le (S.waits.drop k) k i
      rw [← hl, List.length_drop, ← Hn.out] at hll
      have hsbb : sb ≠ b := HvC.out.sect.ne HvC.out.head (by decide)
      obtain ⟨left, hleft⟩ : ∃ left, left = S.room - ((S.mid cs k).used : Int) := ⟨_, rfl⟩
      have hb5 : Blk w5 b 63 [.slice (some ⟨sb, 0, none⟩) S.kept.length S.kept.length, .slice (some ⟨g0, 0, none⟩) n cA, .int .i64 left, .int .i64 c, .bool S.off, .pointer (some ⟨mb, 0, none⟩)] := by
        have := hO5.blk HvC.out.head (fun e => hsbb e.symm)
        rw [r5, r1, ← hleft, r4] at this; exact this
      have hlr : 0 ≤ left ∧ left ≤ 4096 := by
        have h1 := HvC.out.use
        have h2 := Hwf.out.room1
        rw [r1] at h1; omega
      have hO5r : Only F w w5 := HOC.out.trans hO5 (fun j _ e => by rw [e]; exact HvC.out.fs)
      have hsame5 : ∀ j, j < wC.drew.heap.size → j ≠ sb → w5.heap[j]? = wC.drew.heap[j]? := fun j hj hne => hO5.block j hj hne
      by_cases hlk : l = k + 1
      · obtain ⟨hsec, u, hu, hused⟩ := secs_last Hwf.out Hp.out Hi.out.symm HvC.out.secs (by rw [← hl]; exact hlk)
        rw [← Hvs1.out] at hsec
        have hs6 := hs5.set (i * 130 + 129) (.int .i64 0)
        have hb6 := hb5.setOther (a := ⟨sb, i * 130 + 129, none⟩) (fun e => hsbb e.symm) (.int .i64 0)
        have hcu := hs6.cell (hsec.used i u hu)
        have hc2 := hb6.cell (i := 2) rfl
        have hf2 := hb6.frozen 2
        have hO6 : Only F w (w5.setCell ⟨sb, i * 130 + 129, none⟩ (.int .i64 0)) := hO5r.set (Or.inr HvC.out.fs) _
        have hsame6 : ∀ j, j < wC.drew.heap.size → j ≠ sb → (w5.setCell ⟨sb, i * 130 + 129, none⟩ (.int .i64 0)).heap[j]? = wC.drew.heap[j]? := fun j hj hne => (blk_setCell_other _ _ _ _ hne).trans (hsame5 j hj hne)
        subst hlk
        cases u
        · have Hnext := Lib.hid (show (∃ vs, PDAt F ((w5.setCell ⟨sb, i * 130 + 129, none⟩ (.int .i64 0)).setCell ⟨b, 2, none⟩ (.int .i64 (left + 1))) b (S.mid cs (k + 1)) (k + 1) S.waits sb mb vs (.slice (some ⟨g0, 0, none⟩) n cA) c L) ∧ Only F w ((w5.setCell ⟨sb, i * 130 + 129, none⟩ (.int .i64 0)).setCell ⟨b, 2, none⟩ (.int .i64 (left + 1))) from
            ⟨⟨_, mid_pd (left := left + 1) HvC.out (hs6.setOther (a := ⟨b, 2, none⟩) hsbb _) hsec (hb6.set 2 _) (by simp at hused; omega) (by omega) (fun j hj h1 h2 => (blk_setCell_other _ _ _ _ h2).trans (hsame6 j hj h1))⟩, hO6.set (Or.inr hFb) _⟩)
          clear hsec hu hused hs6 hb6 hO6 hsame6 hs5 hO5 hb5 hO5r hsame5 hl hleft HvC HvB Hv HwB HPB HBC HOC HB HOB Hfar Hvs1
          go_wp2_with fail
          go_roundw
          case rel => exact ⟨k + 1, by omega, by go_num, Lib.hid Hnext.out.1, Hnext.out.2⟩
          case measure => simp [intOf]; omega
        · have Hnext := Lib.hid (show (∃ vs, PDAt F (w5.setCell ⟨sb, i * 130 + 129, none⟩ (.int .i64 0)) b (S.mid cs (k + 1)) (k + 1) S.waits sb mb vs (.slice (some ⟨g0, 0, none⟩) n cA) c L) ∧ Only F w (w5.setCell ⟨sb, i * 130 + 129, none⟩ (.int .i64 0)) from
            ⟨⟨_, mid_pd (left := left) HvC.out hs6 hsec hb6 (by simp at hused; omega) (by omega) (fun j hj h1 _ => hsame6 j hj h1)⟩, hO6⟩)
          clear hsec hu hused hs6 hb6 hO6 hsame6 hs5 hO5 hb5 hO5r hsame5 hl hleft HvC HvB Hv HwB HPB HBC HOC HB HOB Hfar Hvs1
          go_wp2_with fail
          go_roundw
          case rel => exact ⟨k + 1, by omega, by go_num, Lib.hid Hnext.out.1, Hnext.out.2⟩
          case measure => simp [intOf]; omega
      · obtain ⟨hsec, hused⟩ := secs_more Hwf.out Hp.out Hi.out.symm HvC.out.secs (by rw [← hl]; exact hlk)
        rw [← Hvs1.out] at hsec
        have Hnext := Lib.hid (show (∃ vs, PDAt F w5 b (S.mid cs (k + 1)) (k + 1) S.waits sb mb vs (.slice (some ⟨g0, 0, none⟩) n cA) c L) ∧ Only F w w5 from
          ⟨⟨_, mid_pd (left := left) HvC.out hs5 hsec hb5 (by omega) (by omega) (fun j hj h1 _ => hsame5 j hj h1)⟩, hO5r⟩)
        have hne : ((l : Int) != (k : Int) + 1) = true := by simp; omega
        clear hsec hused hs5 hO5 hb5 hO5r hsame5 hl hleft HvC HvB Hv HwB HPB HBC HOC HB HOB Hfar Hvs1
        go_wp2_with fail
        go_roundw
        case rel => exact ⟨k + 1, by omega, by go_num, Lib.hid Hnext.out.1, Hnext.out.2⟩
        case measure => simp [intOf]; omega
    · obtain rfl : k = n := by omega
      obtain ⟨vs, hv⟩ := hst.out
      have hc1 := hv.head.cell (i := 1) rfl
      have hf1 := hv.head.frozen 1
      have Hend := Lib.hid (show PD F (wr.setCell ⟨b, 1, none⟩ (.slice none 0 0)) b { S.crashTo cs S.waits.length with waits := [] } ∧ Only F w (wr.setCell ⟨b, 1, none⟩ (.slice none 0 0)) by
        rw [Hn.out] at hv
        have h1 := mid_end hv rfl
        have h2 := Hwf.out.mid cs S.waits.length
        have e : S.mid cs S.waits.length = { S.crashTo cs S.waits.length with waits := [] } := by
          unfold DS.mid; rw [List.drop_of_length_le (Nat.le_refl _)]
        rw [e] at h2
        have hO2 := hO.set (a := ⟨b, 1, none⟩) (Or.inr hFb) (.slice none 0 0)
        exact ⟨⟨h2, hFb, fun k hk => Nat.lt_of_lt_of_le (Hfin.out k hk) hO2.size, sb, mb, vs, _, c, L, h1⟩, hO2⟩)
      clear hv hst
      go_wp2
      go_end0
      exact ⟨rfl, Hend.out⟩
end Go.Proofs.Ythdclncgmhgmfaa
