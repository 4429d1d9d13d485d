/- The program's disk: Load, the walk; Image. -/
import Derived.Test.YthdclncgmhgmfaaPD12
import Derived.Laws.IdiomCopy
namespace Go.Proofs.Ythdclncgmhgmfaa
open Go.RowKit Go.Deep
set_option linter.unusedSimpArgs false
set_option linter.unusedVariables false

theorem wpList_copy {P : Program} {w : World} {ops : Array Oper} {rest : List Oper} {o : Oper} {a : Act} {Q : Exit → Act → World → Prop} (hgd : o.guard = none) (d s : Operand) (t t' : TypeId)
    (ho : o.op = .call { callee := .builtin .copy, args := #[d, s], argTypes := #[t, t'] }) (v u : Value) (hd : a.eval d = v) (hs : a.eval s = u) {v' : Value} {w' : World}
    (hr : (Builtin.copy_ #[t, t'] o.type #[v, u]).run P w = .ok v' w') (h : wpList P ops Q rest (a.put o.dst v') w') : wpList P ops Q (o :: rest) a w := by
  refine wpList_plain hgd fun K hK => ?_
  unfold Oper.wp execOp
  simp only [ho, resolve, invoke, builtin, Sem.run_bind, Sem.run_pure, Result.andThen_ok, List.map_toArray, List.map_cons, List.map_nil, hd, hs, hr]
  exact hK _ _ h

set_option maxRecDepth 100000 in
set_option maxHeartbeats 6400000 in
theorem dload_in (w : World) (A : Option Addr) (n c : Nat) (s room : Nat) (xs : List Int) (hx : Sl w A n (u8s xs)) (hnc : n ≤ c) (hxb : ∀ x ∈ xs, 0 ≤ x ∧ x < 256) (h1 : 1 ≤ s) (h2 : s ≤ 4096) (h3 : room ≤ s) (h4 : n ≤ 128 * s) :
    Calls Try.prog 9 #[.slice A n c, .int .i64 (s : Int), .int .i64 (room : Int)] w fun e w' => Below w.heap.size w w' ∧
      ((sectorsOf n ≤ room ∧ ∃ b, e = .returned (.tuple #[.pointer (some ⟨b, 0, none⟩), .int .i64 0]) ∧ PD (fun k => w.heap.size ≤ k ∧ k < w'.heap.size) w' b (DS.loaded s (room : Int) xs)) ∨ (room < sectorsOf n ∧ e = .returned (.tuple #[.pointer none, .int .i64 52]))) := by
  have hln : xs.length = n := by simpa using hx.1
  have hnew := dnew_is w s room h1 h2 h3
  have hs4 : (s : Int) ≤ 4096 := by omega
  have hr4 : (room : Int) ≤ 4096 := by omega
  have hd1 : decide ((s : Int) * 128 < (n : Int)) = false := decide_eq_false (by omega)
  by_cases hfull : room < sectorsOf n
  · have hd2 : decide ((room : Int) * 128 < (n : Int)) = true := decide_eq_true (by unfold sectorsOf at hfull; omega)
    go_enter Try.func9, Try.ntmps9
    go_wp2_with fail
    refine hnew.mono ?_
    rintro e w1 ⟨b, rfl, hp, hbel⟩
    clear hp
    go_wp2
    go_ret2
    exact ⟨hbel, Or.inr ⟨hfull, rfl⟩⟩
  · have hd2 : decide ((room : Int) * 128 < (n : Int)) = false := decide_eq_false (by unfold sectorsOf at hfull; omega)
    have Hln := Lib.hid hln
    have Hxb := Lib.hid hxb
    have Hfull := Lib.hid (show sectorsOf n ≤ room by omega)
    obtain ⟨i8, hi8, hz8, hs8, hb8⟩ := info_parts' info_u8
    have H4 := Lib.hid h4
    clear hln hxb hfull h4
    go_enter Try.func9, Try.ntmps9
    go_wp2_with fail
    refine hnew.mono ?_
    rintro e w1 ⟨b, rfl, ⟨hwf, hFb, hfin, sb, mb, vs0, vw, cc, L, hp⟩, hbel⟩
    obtain ⟨F, hF⟩ : ∃ F : Nat → Prop, F = fun k => w.heap.size ≤ k ∧ k < w1.heap.size := ⟨_, rfl⟩
    have hFb : F b := by rw [hF]; exact hFb
    rw [← hF] at hp
    have HF := Lib.hid hF
    have hst0 : ∃ vs, PDAt F w1 b (DS.loaded s (room : Int) (xs.take (128 * 0))) 0 [] sb mb vs vw cc L := ⟨vs0, by rw [Nat.mul_zero, List.take_zero, loaded_nil]; exact hp⟩
    have Hst0 := Lib.hid hst0
    have Hsl0 := Lib.hid (show Sl w A (n - 128 * 0) (u8s (xs.drop (128 * 0))) by rw [Nat.mul_zero, Nat.sub_zero, List.drop_zero]; exact hx)
    have Hbs := Lib.hid (Nat.le_refl w1.heap.size)
    clear hst0 hp hF hwf hfin hnew
    go_wp2_with fail
    go_loopw [0, 10] (fun im i wr => ∃ (k : Nat) (A' : Option Addr) (c' : Nat), k ≤ sectorsOf n ∧ im = .slice A' (n - 128 * k) c' ∧ n - 128 * k ≤ c' ∧ i = .int .i64 k ∧ Hid (Sl w A' (n - 128 * k) (u8s (xs.drop (128 * k)))) ∧ Hid (∃ vs, PDAt F wr b (DS.loaded s (room : Int) (xs.take (128 * k))) 0 [] sb mb vs vw cc L) ∧ Below w.heap.size w wr ∧ Hid (w1.heap.size ≤ wr.heap.size)) (fun _ i _ => n - 128 * (intOf i).toNat)
    case atStart => exact ⟨0, A, c, Nat.zero_le _, rfl, by omega, rfl, Hsl0, Hst0, hbel, Hbs⟩
    case round =>
      clear Hsl0 Hst0 hbel Hbs
      obtain ⟨k, A', c', hk, rfl, hnk, rfl, hsl, hst, hb, hws⟩ := hrel
      by_cases hlt : 128 * k < n
      · obtain ⟨vs, hv⟩ := hst.out
        obtain ⟨nk, hnk'⟩ : ∃ nk, nk = n - 128 * k := ⟨_, rfl⟩
        have hsl1 := hsl.out
        rw [← hnk'] at hsl1 hnk ⊢
        have hnk0 : 0 < nk := by omega
        obtain ⟨ad, rfl, _⟩ := hsl1.at_ (k := 0) hnk0
        have e1 : ∀ ys : List Int, (DS.loaded s (room : Int) ys).kept.length = s := fun ys => by simp [DS.loaded]
        have hks : k < s := by have := H4.out; omega
        obtain ⟨m, hm⟩ : ∃ m, m = min nk 128 := ⟨_, rfl⟩
        have hbl : ((xs.drop (128 * k)).take 128).length = m := by rw [List.length_take, List.length_drop, Hln.out]; omega
        have hslw := hsl1.below hb
        have hlen := hv.secs.len
        rw [e1] at hlen
        have hv130 : k * 130 + 130 ≤ vs.length := by omega
        have hcopy : (Builtin.copy_ #[22, 22] 3 #[.slice (some ⟨sb, k * 130, none⟩) 128 128, .slice (some ad) nk c']).run Try.prog wr = .ok (.int .i64 (m : Int)) (wr.setCells sb (k * 130) (u8s ((xs.drop (128 * k)).take 128))) := by
          have := run_copy_cells (P := Try.prog) wr 22 22 3 5 sb (k * 130) 128 128 ad nk c' (u8s ((xs.drop (128 * k)).take 128)) Try.underlying22 (by kernel_rfl) (by rw [List.length_map, hbl, hm]) (fun j v hj => by
            rw [List.getElem?_map, List.getElem?_take] at hj
            split at hj
            · obtain ⟨ad', e, hc⟩ := hslw.2 j v (by rw [List.getElem?_map]; exact hj)
              cases e; exact hc
            · simp at hj) (fun j hj => by
            rw [List.length_map, hbl] at hj
            rw [hv.sect.cell (List.getElem?_eq_getElem (show k * 130 + j < vs.length by omega))]; rfl) (fun j _ => hv.sect.frozen _) (one_u8s _)
          rw [List.length_map, hbl] at this
          exact this
        obtain ⟨w2, hw2⟩ : ∃ w2, w2 = wr.setCells sb (k * 130) (u8s ((xs.drop (128 * k)).take 128)) := ⟨_, rfl⟩
        rw [← hw2] at hcopy
        have hsbb : sb ≠ b := hv.sect.ne hv.head (by decide)
        have hs2 : Blk w2 sb 70 (vs.take (k * 130) ++ u8s ((xs.drop (128 * k)).take 128) ++ vs.drop (k * 130 + (u8s ((xs.drop (128 * k)).take 128)).length)) := by
          rw [hw2]; exact setCells_blk _ _ _ _ hv.sect (by rw [List.length_map, hbl]; omega)
        have hl2 : (u8s ((xs.drop (128 * k)).take 128)).length = m := by rw [List.length_map, hbl]
        obtain ⟨u, hcu⟩ : ∃ u, w2.cell? ⟨sb, k * 130 + 128, none⟩ = some u := ⟨_, hs2.cell (List.getElem?_eq_getElem (by
          rw [List.length_append, List.length_append, List.length_take, List.length_drop, hl2]; omega))⟩
        have hfu := hs2.frozen (k * 130 + 128)
        have hb2 : Blk w2 b 63 _ := hv.head.kept (by rw [hw2]; exact setCells_other _ _ _ _ _ (fun e => hsbb e.symm))
        have hused : (DS.loaded s (room : Int) (xs.take (128 * k))).used = k := by
          rw [loaded_used _ _ _ (by rw [List.length_take]; omega), List.length_take, Hln.out]; unfold sectorsOf; omega
        rw [e1, hused] at hb2
        obtain ⟨left, hleft⟩ : ∃ left, left = (room : Int) - (k : Int) := ⟨_, rfl⟩
        have hb2 : Blk w2 b 63 [.slice (some ⟨sb, 0, none⟩) s s, vw, .int .i64 left, .int .i64 cc, .bool false, .pointer (some ⟨mb, 0, none⟩)] := by rw [hleft]; exact hb2
        have hs3 := hs2.set (k * 130 + 128) (.bool true)
        have hb3 := hb2.setOther (a := ⟨sb, k * 130 + 128, none⟩) (fun e => hsbb e.symm) (.bool true)
        have hc0 : wr.cell? ⟨b, 0, none⟩ = some (.slice (some ⟨sb, 0, none⟩) s s) := by have := hv.head.cell (i := 0) rfl; rw [e1] at this; exact this
        have hc2 := hb3.cell (i := 2) rfl
        have hf2 := hb3.frozen 2
        have hk2 : k + 1 ≤ sectorsOf n := by unfold sectorsOf; omega
        have hlr : 0 ≤ left ∧ left ≤ 4096 := by have := Hfull.out; omega
        have Hfin := Lib.hid (show (∃ vs, PDAt F ((w2.setCell ⟨sb, k * 130 + 128, none⟩ (.bool true)).setCell ⟨b, 2, none⟩ (.int .i64 (left - 1))) b (DS.loaded s (room : Int) (xs.take (128 * (k + 1)))) 0 [] sb mb vs vw cc L) ∧ Below w.heap.size w ((w2.setCell ⟨sb, k * 130 + 128, none⟩ (.bool true)).setCell ⟨b, 2, none⟩ (.int .i64 (left - 1))) ∧ w1.heap.size ≤ ((w2.setCell ⟨sb, k * 130 + 128, none⟩ (.bool true)).setCell ⟨b, 2, none⟩ (.int .i64 (left - 1))).heap.size from by
          have hgb : w.heap.size ≤ b := by have := hv.fb; rw [HF.out] at this; exact this.1
          have hgs : w.heap.size ≤ sb := by have := hv.fs; rw [HF.out] at this; exact this.1
          refine ⟨⟨_, load_step (by rw [Hln.out]; exact hlt) (by rw [Hln.out]; exact H4.out) (by rw [Hln.out]; have := Hfull.out; omega) hv ?_ ?_ ?_⟩, ?_, ?_⟩
          · have h5 := hs3.setOther (a := ⟨b, 2, none⟩) hsbb (.int .i64 (left - 1))
            unfold loadIn
            rw [hl2] at h5
            rw [hbl]; exact h5
          · rw [← hleft]; exact hb3.set 2 _
          · intro j hj h6 h7
            rw [blk_setCell_other _ _ _ _ (show j ≠ b from h7), blk_setCell_other _ _ _ _ (show j ≠ sb from h6), hw2]
            exact setCells_other _ _ _ _ _ h6
          · have h8 : Below w.heap.size w w2 := by rw [hw2]; exact below_setCells hb hgs _ _
            exact (h8.setCell (p := ⟨sb, k * 130 + 128, none⟩) hgs _).setCell (p := ⟨b, 2, none⟩) hgb _
          · rw [nblk_setCell, nblk_setCell, hw2, setCells_size]; exact hws.out)
        have Hcopy := Lib.hid hcopy
        have Hsl1 := Lib.hid hsl1
        have Hnk := Lib.hid hnk'
        have hd3 : decide (0 < (nk : Int)) = true := decide_eq_true (by omega)
        have hksI : (k : Int) < (s : Int) := by omega
        have hk0 : (0 : Int) ≤ (k : Int) := by omega
        have hmnk : m ≤ nk := by omega
        have hnx : n - 128 * (k + 1) = nk - m := by omega
        have Hnx := Lib.hid hnx
        have hkb : (k : Int) + 1 ≤ 4096 := by omega
        clear hcopy hsl1 hslw hnk' hbl hw2 hs2 hb2 hs3 hb3 hv hst hsl hb hws hlen hl2 hused hleft hm hnx e1
        go_wp2_with (first
          | (refine wpList_copy rfl (.tmp 46) (.tmp 47) 22 22 rfl _ _ rfl rfl Hcopy.out ?_)
          | (refine wpList_cut (.tmp 42) (.tmp 48) 22 5 i8 rfl rfl Try.underlying22 hi8 hs8 (some ad) nk c' m .i64 rfl rfl hmnk hnk ?_; intro A'' hA''))
        go_roundw
        case rel =>
          refine ⟨k + 1, A'', c' - m, hk2, by rw [Hnx.out], by rw [Hnx.out]; omega, by go_num, Lib.hid ?_, Lib.hid Hfin.out.1, Hfin.out.2.1, Lib.hid Hfin.out.2.2⟩
          have h9 := hA'' w _ Hsl1.out
          rw [Hnx.out]
          have e5 : (u8s (xs.drop (128 * k))).drop m = u8s (xs.drop (128 * (k + 1))) := by
            rw [← List.map_drop, List.drop_drop]
            by_cases hm2 : m = 128
            · rw [hm2]; congr 2
            · have hnk2 := Hnk.out
              have h10 := Hnx.out
              rw [List.drop_of_length_le (show xs.length ≤ 128 * k + m by rw [Hln.out]; omega), List.drop_of_length_le (show xs.length ≤ 128 * (k + 1) by rw [Hln.out]; omega)]
          rw [← e5]; exact h9
        case measure => (simp only [intOf]; have := Hnx.out; omega)
      · have hz : n - 128 * k = 0 := by omega
        rw [hz]
        obtain ⟨vs, hv⟩ := hst.out
        have hd3 : decide (0 < ((0 : Nat) : Int)) = false := rfl
        have Hend := Lib.hid (show PD (fun k => w.heap.size ≤ k ∧ k < wr.heap.size) wr b (DS.loaded s (room : Int) xs) by
          rw [List.take_of_length_le (by rw [Hln.out]; omega)] at hv
          have hup : ∀ j, j < wr.heap.size → F j → w.heap.size ≤ j ∧ j < wr.heap.size := fun j hj hf => by rw [HF.out] at hf; exact ⟨hf.1, hj⟩
          have hv2 := hv.mono hup
          exact ⟨DWf.loaded h1 h2 (by omega) (by omega) Hxb.out, hv2.fb, fun j hj => hj.2, sb, mb, vs, vw, cc, L, hv2⟩)
        clear hv hst hsl
        go_wp2
        go_ret2
        exact ⟨hb, Or.inl ⟨Hfull.out, b, rfl, Hend.out⟩⟩
end Go.Proofs.Ythdclncgmhgmfaa
