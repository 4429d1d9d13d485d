/- The program's disk: Read. -/
import Derived.Test.YthdclncgmhgmfaaPD3
import Derived.Laws.ResultCell
namespace Go.Proofs.Ythdclncgmhgmfaa
open Go.RowKit Go.Deep
set_option linter.unusedSimpArgs false
set_option linter.unusedVariables false

theorem results_arr_int {P : Program} {fn : Func} {p u : Tmp} {ty : TypeId} (h : fn.results = #[.cell p ty, .tmp u]) (tmps : Array Value) (w : World) (g : Nat) (t : TypeId) (cs : Array Value) (fr : Nat × Nat) (d : TypeDesc)
    (hp : tmps.getD p undef = .pointer (some ⟨g, 0, none⟩)) (hg : w.heap[g]? = some (.cells cs t fr))
    (hu : P.underlying ty = some d) (hd : (match d with | .struct _ | .array _ _ => true | _ => false) = true) (hi : (P.info? ty).map (·.size) = some cs.size) (z : Value) (hz : tmps.getD u undef = z) :
    (results fn tmps).run P w = .ok (.tuple #[.agg cs, z]) w := by
  rw [results_cell_tmp h, hp, hz]
  simp [asAddr, run_loadVar_row w g t ty cs fr d hg hu hd hi, Result.andThen]

theorem take_set {l : List Int} {k n : Nat} {v : Int} (h : k < n) : (l.set k v).take n = (l.take n).set k v := by
  apply List.ext_getElem?
  intro i
  rw [List.getElem?_take, List.getElem?_set, List.getElem?_set, List.getElem?_take, List.length_take]
  by_cases hi : i < n
  · rw [if_pos hi, if_pos hi]
    by_cases hk : k = i
    · subst hk; rw [if_pos rfl, if_pos rfl]
      by_cases hl : k < l.length
      · rw [if_pos hl, if_pos (by omega)]
      · rw [if_neg hl, if_neg (by omega)]
    · rw [if_neg hk, if_neg hk]
  · rw [if_neg hi, if_neg (by omega), if_neg hi]

/-- Something is counted. -/
theorem dcount_is (F : Nat → Prop) (w : World) (b : Nat) (S : DS) (k : Nat) (ws : List (Int × List Int)) (sb mb : Nat) (vs : List Value) (vw : Value) (c : Int) (L : List Int) (hwf : DWf S) (h : PDAt F w b S k ws sb mb vs vw c L) (q : Nat) (hq : q < 3) (kd : Int) (hk : kd = (q : Int) + 1) :
    Calls Try.prog 43 #[.pointer (some ⟨mb, 0, none⟩), .int .i64 kd, .int .i64 1] w fun e w' => e = .returned (.bool true) ∧ (∃ L', PDAt F w' b (S.count q) k ws sb mb vs vw c L') ∧ w.grownBy w' (some mb) := by
  have hq6 : q < 6 := by omega
  refine (padd_is w mb L kd 1 (by omega) (by omega) h.met).mono ?_
  rintro e w1 ⟨rfl, hm, hg⟩
  rw [hk]
  refine ⟨by rw [mHas_at hq6], ⟨mAdd L ((q : Int) + 1) 1, ?_⟩, hg⟩
  obtain ⟨vm, hvm⟩ := h.met.blk
  have hsame : ∀ k, k < w.heap.size → k ≠ mb → w1.heap[k]? = w.heap[k]? := fun k hlt hne => hg.block k hlt (fun e => hne (Option.some.inj e))
  obtain ⟨u, hu, _⟩ := met_at h.met.1 hq6
  refine ⟨h.fb, h.fs, h.fm, h.head.kept (hsame _ h.head.lt (h.head.ne hvm (by decide))), h.sect.kept (hsame _ h.sect.lt (h.sect.ne hvm (by decide))), ⟨h.secs.len, h.secs.kept, h.secs.used, h.secs.last⟩, h.wait.kept (fun g hg hv => by obtain ⟨vs', hv⟩ := hv; exact hsame g hv.lt (hv.ne hvm (by decide))), h.drop, h.use, h.cut0, h.cut1, h.cut, by rw [← hk]; exact hm, ?_⟩
  rw [mAdd_at 1 hq6 hu, take_set hq, h.ops]
  show _ = S.ops.set q (wrap64 (S.ops.getD q 0 + 1))
  congr 1
  have : S.ops[q]? = some u := by rw [← h.ops, List.getElem?_take, if_pos hq]; exact hu
  simp [List.getD, this]

/-- What a call of the meter leaves of the disk. -/
theorem count_back {F : Nat → Prop} {w w' : World} {b : Nat} {S : DS} {q sb mb : Nat} {vs : List Value} {vw : Value} {c : Int} {L' : List Int} (hwf : DWf S) (hFb : F b) (hfin : ∀ k, F k → k < w.heap.size) (h : PDAt F w' b (S.count q) 0 S.waits sb mb vs vw c L') (hg : w.grownBy w' (some mb)) :
    PD F w' b (S.count q) ∧ Only F w w' :=
  ⟨⟨hwf.count q, hFb, fun k hk => Nat.lt_of_lt_of_le (hfin k hk) hg.size, sb, mb, vs, vw, c, L', h⟩, Only.of_grown hg h.fm⟩

/-- A new array of noughts. -/
theorem zero_new (w : World) : Blk (w.alloc (.cells Try.zeroCells52 52)) w.heap.size 52 (u8s zeros128) := by
  rw [zero_arr]; exact Blk.new w 52 (u8s zeros128)

set_option maxHeartbeats 800000 in
theorem dread_err (F : Nat → Prop) (w : World) (b : Nat) (S : DS) (h : PD F w b S) (n er : Int) (hne : er ≠ 0) (hr : ∀ w', PD F w' b S → Calls Try.prog 41 #[.pointer (some ⟨b, 0, none⟩), .int .i64 n] w' fun e w2 => e = .returned (.int .i64 er) ∧ w2 = w') :
    Calls Try.prog 26 #[.pointer (some ⟨b, 0, none⟩), .int .i64 n] w fun e w' => e = .returned (.tuple #[.agg (u8s zeros128).toArray, .int .i64 er]) ∧ Only Nothing w w' := by
  obtain ⟨w1, hw1⟩ : ∃ w1, w1 = w.alloc (.cells Try.zeroCells52 52) := ⟨_, rfl⟩
  have hz : Blk w1 w.heap.size 52 (u8s zeros128) := by rw [hw1]; exact zero_new w
  have hb1 : Below w.heap.size w w1 := by rw [hw1]; exact below_alloc _ _
  have h1 := h.only (Only.of_below (F := Nothing) hb1) (fun _ _ hk => hk)
  have hr1 := hr w1 h1
  have hsz : Try.zeroCells52 = (u8s zeros128).toArray := zero_arr
  have hsize2 : (Try.prog.info? 52).map (·.size) = some Try.zeroCells52.size := by rw [size_arr, zero_size]
  have Hthere := Lib.hid (hz.there (n := Try.zeroCells52.size) (by rw [zero_size, List.length_map, zeros_len]; omega))
  have hd : (er != 0) = true := by simpa using hne
  have Hw1 := Lib.hid hw1
  have Hsz := Lib.hid hsz
  have Hone := Lib.hid (show Try.zeroCells52.all (·.oneCell') = true by rw [hsz]; exact all_oneCell_toArray (one_u8s _))
  clear hw1 h1 h hr hne hsz
  go_enter Try.func26, Try.ntmps26
  go_wp2_with fail
  rw [← Hw1.out]
  clear Hw1
  refine hr1.mono ?_
  rintro e w2 ⟨rfl, hw⟩
  obtain rfl := hw.symm
  go_wp2_with (refine wpList_store_mid rfl 52 (.tmp 4) (.tmp 13) rfl w.heap.size 0 Try.zeroCells52 rfl rfl Hthere.out hsize2 Hone.out ?_)
  refine bodyPost_ret (v := .tuple #[.agg (u8s zeros128).toArray, .int .i64 er]) ?_ rfl ⟨rfl, Only.of_below (below_setCells hb1 (Nat.le_refl _) _ _)⟩
  rw [← Hsz.out]
  exact results_arr_int rfl _ _ w.heap.size 52 Try.zeroCells52 (0, 0) _ rfl (setCells_whole hz (by rw [Array.length_toList, zero_size, List.length_map, zeros_len])) Try.underlying52 rfl hsize2 _ rfl

theorem setCells_cell {w : World} {b o rb : Nat} {v : Value} (h : w.cell? ⟨b, o, none⟩ = some v) (hne : b ≠ rb) (cs : List Value) (p : Nat) : (w.setCells rb p cs).cell? ⟨b, o, none⟩ = some v :=
  (World.cell?_of_block (w := w) (setCells_other rb cs p w b hne)).trans h
theorem setCells_range {w : World} {g o rb : Nat} {vs : List Value} (h : w.rangeAt g o vs) (hne : g ≠ rb) (cs : List Value) (p : Nat) : (w.setCells rb p cs).rangeAt g o vs := fun j v hj => setCells_cell (h j v hj) hne cs p
theorem setCells_only {F : Nat → Prop} (w : World) {rb : Nat} (h : F rb) (cs : List Value) (p : Nat) : Only F w (w.setCells rb p cs) :=
  ⟨(setCells_misc rb cs p w).1, (setCells_misc rb cs p w).2.1, (setCells_misc rb cs p w).2.2, by rw [setCells_size]; exact Nat.le_refl _, fun k _ hn => setCells_other rb cs p w k (fun e => hn (e ▸ h))⟩
theorem reads_set {w : World} {b1 o1 b2 o2 g o rb : Nat} {v1 v2 : Value} {cs ds : List Value} (h : w.cell? ⟨b1, o1, none⟩ = some v1 ∧ w.cell? ⟨b2, o2, none⟩ = some v2 ∧ w.rangeAt g o cs ∧ w.there rb 0 128) (h1 : b1 ≠ rb) (h2 : b2 ≠ rb) (h3 : g ≠ rb) :
    (w.setCells rb 0 ds).cell? ⟨b1, o1, none⟩ = some v1 ∧ (w.setCells rb 0 ds).cell? ⟨b2, o2, none⟩ = some v2 ∧ (w.setCells rb 0 ds).rangeAt g o cs ∧ (w.setCells rb 0 ds).there rb 0 128 :=
  ⟨setCells_cell h.1 h1 _ _, setCells_cell h.2.1 h2 _ _, setCells_range h.2.2.1 h3 _ _, World.there_setCells h.2.2.2 _ _ _⟩

section
variable (F : Nat → Prop) (w : World) (b : Nat) (S : DS) (h : PD F w b S)
include h
theorem dread_off (n : Int) (ho : S.off = true) : Calls Try.prog 26 #[.pointer (some ⟨b, 0, none⟩), .int .i64 n] w fun e w' => e = .returned (.tuple #[.agg (u8s zeros128).toArray, .int .i64 50]) ∧ Only Nothing w w' :=
  dread_err F w b S h n 50 (by omega) (fun w' h' => dreach_off F w' b S h' n ho)
theorem dread_out (n : Int) (ho : S.off = false) (hn : n < 0 ∨ (S.kept.length : Int) ≤ n) : Calls Try.prog 26 #[.pointer (some ⟨b, 0, none⟩), .int .i64 n] w fun e w' => e = .returned (.tuple #[.agg (u8s zeros128).toArray, .int .i64 51]) ∧ Only Nothing w w' :=
  dread_err F w b S h n 51 (by omega) (fun w' h' => dreach_out F w' b S h' n ho hn)

set_option maxRecDepth 100000 in
set_option maxHeartbeats 3200000 in
theorem dread_in (n : Nat) (ho : S.off = false) (hn : n < S.kept.length) : Calls Try.prog 26 #[.pointer (some ⟨b, 0, none⟩), .int .i64 (n : Int)] w fun e w' => e = .returned (.tuple #[.agg (u8s (S.at_ n)).toArray, .int .i64 0]) ∧ PD (More F w w') w' b (S.count 0) ∧ Only F w w' := by
  obtain ⟨w1, hw1⟩ : ∃ w1, w1 = w.alloc (.cells Try.zeroCells52 52) := ⟨_, rfl⟩
  have hz : Blk w1 w.heap.size 52 (u8s zeros128) := by rw [hw1]; exact zero_new w
  have hb1 : Below w.heap.size w w1 := by rw [hw1]; exact below_alloc _ _
  have hsz1 : w.heap.size < w1.heap.size := hz.lt
  have h1 := h.only (Only.of_below (F := Nothing) hb1) (fun _ _ hk => hk)
  have hr1 := dreach_in F w1 b S h1 n ho hn
  have hnF : ∀ k, F k → k < w.heap.size := fun k hk => h.fin hk
  clear h
  obtain ⟨hwf, hFb, hfin, sb, mb, vs, vw, c, L, h⟩ := h1
  have hcnt := dcount_is F w1 b S 0 S.waits sb mb vs vw c L hwf h 0 (by omega) 1 rfl
  have hc5 := h.head.cell (i := 5) rfl
  have hmF := hnF mb h.fm
  have Hw1 := Lib.hid hw1
  have Hh := Lib.hid h
  have Hwf := Lib.hid hwf
  have Hfin := Lib.hid hfin
  have hat := at_byte hwf hn
  obtain ⟨bs, hbs⟩ : ∃ bs, bs = S.at_ n := ⟨_, rfl⟩
  rw [← hbs] at hat ⊢
  have Hbs := Lib.hid hbs
  have Hn := Lib.hid hn
  have hl1 : bs.length = 128 := hat.1
  have hsizeL : (Try.prog.info? 52).map (·.size) = some (u8s bs).length := by rw [size_arr, List.length_map, hl1]
  have hsizeA : (Try.prog.info? 52).map (·.size) = some (u8s bs).toArray.size := by rw [size_arr, List.size_toArray, List.length_map, hl1]
  clear hw1 h hwf hfin hbs ho hn hat
  go_enter Try.func26, Try.ntmps26
  go_wp2_with fail
  rw [← Hw1.out]
  clear Hw1
  refine hr1.mono ?_
  rintro e w2 ⟨rfl, hw⟩
  obtain rfl := hw.symm
  go_wp2_with fail
  refine hcnt.mono ?_
  rintro e w2 ⟨rfl, ⟨L', h2⟩, hg2⟩
  have hz2 : Blk w2 w.heap.size 52 (u8s zeros128) := hz.kept (hg2.block _ hsz1 (fun e => by have := Option.some.inj e; omega))
  have hc0 := h2.head.cell (i := 0) rfl
  have hc1 := h2.head.cell (i := 1) rfl
  obtain ⟨K, hK⟩ : ∃ K, K = S.kept.length := ⟨_, rfl⟩
  have hc0 : w2.cell? ⟨b, 0, none⟩ = some (.slice (some ⟨sb, 0, none⟩) K K) := by rw [hK]; exact hc0
  have hnK : (n : Int) < (K : Int) := by rw [hK]; have := Hn.out; omega
  have hlc := h2.sect.cell (h2.secs.last n Hn.out)
  have Hthere := Lib.hid (hz2.there (n := (u8s bs).toArray.size) (by rw [List.size_toArray, List.length_map, List.length_map, hl1, zeros_len]; omega))
  have Hback := Lib.hid (count_back (w := w1) Hwf.out hFb Hfin.out h2 hg2)
  obtain ⟨l, hl⟩ : ∃ l, l = lastOf (S.count 0).waits 0 n := ⟨_, rfl⟩
  rw [← hl] at hlc
  have hlK : l ≤ S.waits.length := by rw [hl]; have := lastOf_le S.waits 0 n; rw [Nat.zero_add] at this; exact this
  have Hl := Lib.hid (show l = lastOf S.waits 0 n from hl)
  have Hend := Lib.hid (show ∀ w3, Only (fun k => k = w.heap.size) w2 w3 → PD (More F w w3) w3 b (S.count 0) ∧ Only F w w3 from fun w3 hO => by
    obtain ⟨hp, ho2⟩ := Hback.out
    have hp3 := hp.only hO (fun k hk e => by have := hnF k hk; omega)
    exact ⟨More.refl hp3, ((Only.of_below (F := F) hb1).trans ho2 (fun _ _ h => h)).trans hO (fun k hk e => by omega)⟩)
  clear hl hK
  by_cases h0 : l = 0
  · subst h0
    have Hkept := Lib.hid (show w2.rangeAt sb (n * 130) (u8s bs) by
      have hf : S.waits.any (fun p => p.1 == (n : Int)) = false := (lastOf_zero S.waits 0 n).1 Hl.out.symm
      have e : bs = S.kept.getD n [] := by
        rw [Hbs.out]; unfold DS.at_; rw [find_none_of _ hf]
      have e2 : S.kept[n]? = some bs := by rw [e]; simp [List.getD, List.getElem?_eq_getElem Hn.out]
      intro j v hj
      rw [List.getElem?_map] at hj
      obtain ⟨u, hu, rfl⟩ := Option.map_eq_some_iff.1 hj
      exact h2.sect.cell (h2.secs.kept n bs e2 j u hu))
    have hd : decide (0 < ((0 : Nat) : Int)) = false := rfl
    clear Hl Hbs h2 hlK
    go_wp2_with (first
      | (refine wpList_load_mid rfl 52 (.tmp 45) rfl sb (n * 130) rfl (u8s bs) _ Hkept.out Try.underlying52 rfl hsizeL ?_)
      | (refine wpList_store_mid rfl 52 (.tmp 4) (.tmp 46) rfl w.heap.size 0 (u8s bs).toArray rfl rfl Hthere.out hsizeA (all_oneCell_toArray (one_u8s _)) ?_))
    have hO3 : Only (fun k => k = w.heap.size) w2 (w2.setCells w.heap.size 0 (u8s bs).toArray.toList) := setCells_only (F := fun k => k = w.heap.size) w2 (rb := w.heap.size) rfl _ _
    refine bodyPost_ret (v := .tuple #[.agg (u8s bs).toArray, .int .i64 0]) ?_ rfl ⟨rfl, Hend.out _ ?_⟩
    · exact results_arr_int rfl _ _ w.heap.size 52 _ (0, 0) _ rfl (setCells_whole hz2 (by simp [hl1, zeros_len])) Try.underlying52 rfl hsizeA _ rfl
    · exact hO3
  · obtain ⟨p, hp, hp1, hpf⟩ := lastOf_find S.waits 0 n (by rw [← Hl.out]; exact h0)
    have e : bs = p.2 := by
      rw [Hbs.out]; unfold DS.at_; rw [hpf]
    obtain ⟨A, cA, rfl, hmw, hrow⟩ := h2.wait.form
    obtain ⟨g, rfl, hFg, hl2, _, Hr, _⟩ := hrow _ p hp
    rw [← Hl.out, Nat.zero_add, ← e] at Hr
    obtain ⟨l', rfl⟩ : ∃ l', l = l' + 1 := ⟨l - 1, by omega⟩
    rw [Nat.add_sub_cancel] at Hr
    obtain ⟨m, hm⟩ : ∃ m, m = S.waits.length := ⟨_, rfl⟩
    rw [← hm] at hc1 hmw hlK
    have hd : decide (0 < ((l' + 1 : Nat) : Int)) = true := decide_eq_true (by omega)
    have hsub : ((l' + 1 : Nat) : Int) - 1 = (l' : Int) := by omega
    have hwr2 : IntKind.i64.wrap (l' : Int) = (l' : Int) := by rw [wrap_i64]; exact IntWalk.wrap64_in _ ⟨by omega, by omega⟩
    have hl0 : (0 : Int) ≤ (l' : Int) := by omega
    have hwr : IntKind.i64.wrap ((l' : Int) + 1 - 1) = (l' : Int) := by rw [wrap_i64, show (l' : Int) + 1 - 1 = (l' : Int) by omega]; exact IntWalk.wrap64_in _ ⟨by omega, by omega⟩
    have hlm : (l' : Int) < (m : Int) := by omega
    have hlc : w2.cell? ⟨sb, n * 130 + 129, none⟩ = some (.int .i64 ((l' : Int) + 1)) := hlc
    have hS2 := (show w2.cell? ⟨b, 1, none⟩ = some (.slice (some ⟨g, 0, none⟩) m cA) ∧ w2.cell? ⟨sb, n * 130 + 129, none⟩ = some (.int .i64 ((l' : Int) + 1)) ∧ w2.rangeAt g (l' * 129 + 1) (u8s bs) ∧ w2.there w.heap.size 0 (u8s bs).toArray.size from ⟨hc1, hlc, Hr, Hthere.out⟩)
    clear Hl Hbs h2 hm hrow hp hp1 hpf e hlK h0
    have hu52 := Try.underlying52
    have hne1 : b ≠ w.heap.size := by have := hnF b hFb; omega
    have hne2 : sb ≠ w.heap.size := by have := hnF sb Hh.out.fs; omega
    have hne3 : g ≠ w.heap.size := by have := hnF g hFg; omega
    have hone8 : ∀ v ∈ u8s bs, v.oneCell' = true := one_u8s bs
    have hlen8 : (u8s bs).length = 128 := by rw [List.length_map, hl1]
    have hS2 : w2.cell? ⟨b, 1, none⟩ = some (.slice (some ⟨g, 0, none⟩) m cA) ∧ w2.cell? ⟨sb, n * 130 + 129, none⟩ = some (.int .i64 ((l' : Int) + 1)) ∧ w2.rangeAt g (l' * 129 + 1) (u8s bs) ∧ w2.there w.heap.size 0 128 := ⟨hS2.1, hS2.2.1, hS2.2.2.1, hz2.there (by rw [List.length_map, zeros_len]; omega)⟩
    go_upto_region 7 with fail
    go_region_held3 (fun w' => w'.cell? ⟨b, 1, none⟩ = some (.slice (some ⟨g, 0, none⟩) m cA) ∧ w'.cell? ⟨sb, n * 130 + 129, none⟩ = some (.int .i64 ((l' : Int) + 1)) ∧ w'.rangeAt g (l' * 129 + 1) (u8s bs) ∧ w'.there w.heap.size 0 128) (first | (exact reads_set (by assumption) hne1 hne2 hne3) | (go_keep_ranges)) (fail)
    go_wp2
    refine bodyPost_ret (v := .tuple #[.agg (u8s bs).toArray, .int .i64 0]) ?_ rfl ⟨rfl, Hend.out _ ?_⟩
    · exact results_arr_int rfl _ _ w.heap.size 52 (u8s bs).toArray (0, 0) _ rfl (setCells_whole hz2.drew (by simp [hl1, zeros_len])) Try.underlying52 rfl hsizeA _ rfl
    · have := setCells_only (F := fun k => k = w.heap.size) w2.drew (rb := w.heap.size) rfl (u8s bs) 0
      exact ⟨this.os, this.tape, this.output, this.size, this.block⟩
end
end Go.Proofs.Ythdclncgmhgmfaa
