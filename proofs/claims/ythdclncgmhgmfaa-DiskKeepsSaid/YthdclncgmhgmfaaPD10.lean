/- The program's disk: Flush and Crash. -/
import Derived.Test.YthdclncgmhgmfaaPD9
namespace Go.Proofs.Ythdclncgmhgmfaa
open Go.RowKit Go.Deep
set_option linter.unusedSimpArgs false
set_option linter.unusedVariables false

theorem ent_of {f : FuncId} {fn : Func} {c : Code} (hf : Try.prog.funcs[f]? = some fn) (hname : (fn.name == "runtime.NumGoroutine") = false) (hb : fn.body = some c) (args : Array Value) (w : World) :
    (callFunc f args).run Try.prog w = .ok (.enter f args) w := by
  have h1 : fn.name ≠ "runtime.NumGoroutine" := by simpa using hname
  simp [callFunc, hf, h1, hb]

theorem flush1_is (w : World) (k : Nat) : Calls Try.prog 46 (#[.int .i64 (k : Int)] ++ #[]) w fun e w' => e = .returned (.int .i64 ((128 : Nat) : Int)) ∧ w' = w := by
  show Calls Try.prog 46 #[.int .i64 (k : Int)] w _
  go_enter Try.func46, Try.ntmps46
  go_wp2
  go_ret
  exact ⟨rfl, rfl⟩

theorem crash1_whole {S : DS} (hwf : DWf S) {p : Int × List Int} (h0 : 0 ≤ p.1) (h1 : p.1 < S.kept.length) (hp : p.2.length = 128) : S.crash1 p 128 = { S with kept := S.kept.set p.1.toNat p.2, inn := S.inn.set p.1.toNat true } := by
  have hl : p.1.toNat < S.kept.length := by omega
  rw [crash1_pos S p (by omega) rfl]
  have e : (S.kept.getD p.1.toNat []).length = 128 := by
    rw [show S.kept.getD p.1.toNat [] = S.kept[p.1.toNat] by simp [List.getD, hl]]
    exact (hwf.rows _ (List.getElem_mem hl)).1
  rw [List.take_of_length_le (by omega), List.drop_of_length_le (by omega), List.append_nil]
theorem crashTo_full {S : DS} (hwf : DWf S) (k : Nat) (hk : k ≤ S.waits.length) : S.crashTo (List.replicate S.waits.length 128) k = S.keepTo k := by
  induction k with
  | zero => rfl
  | succ k ih =>
    obtain ⟨p, hp⟩ : ∃ p, S.waits[k]? = some p := ⟨_, List.getElem?_eq_getElem (by omega)⟩
    have hc : cutAt (List.replicate S.waits.length 128) k = 128 := by
      unfold cutAt
      simp only [List.getD, List.getElem?_replicate]
      rw [if_pos (by omega)]; rfl
    have hw := hwf.wts p (List.mem_of_getElem? hp)
    have hk1 := hwf.crashTo (List.replicate S.waits.length 128) k
    rw [crashTo_succ hp, hc, keepTo_succ S hp, crash1_whole hk1 hw.1 (by rw [(crashTo_same S _ k).2]; exact hw.2.1) hw.2.2.1, ih (by omega)]
theorem settled_flushed {S : DS} (hwf : DWf S) : { S.crashTo (List.replicate S.waits.length 128) S.waits.length with waits := [] } = S.flushed := by
  rw [crashTo_full hwf _ (Nat.le_refl _)]; rfl

section
variable (F : Nat → Prop) (w : World) (b : Nat) (S : DS) (h : PD F w b S)
include h
theorem dflush_off (ho : S.off = true) : Calls Try.prog 25 #[.pointer (some ⟨b, 0, none⟩)] w fun e w' => e = .returned (.int .i64 50) ∧ Only Nothing w w' := by
  have hp := dpowered_is F w b S h
  rw [ho, if_pos rfl] at hp
  go_enter Try.func25, Try.ntmps25
  go_wp2_with fail
  refine hp.mono ?_
  rintro e w1 ⟨rfl, hw⟩
  obtain rfl := hw.symm
  go_wp2
  go_ret
  exact ⟨rfl, Only.none_ _⟩

set_option maxHeartbeats 800000 in
theorem dflush_gone (ho : S.off = false) (hg : (S.goes 2).2 = true) : Calls Try.prog 25 #[.pointer (some ⟨b, 0, none⟩)] w fun e w' => e = .returned (.int .i64 50) ∧ PD (More F w w') w' b (S.goes 2).1 ∧ Only F w w' := by
  have hp := dpowered_is F w b S h
  rw [ho, if_neg (by simp)] at hp
  obtain ⟨hwf, hFb, hfin, sb, mb, vs, vw, c, L, h⟩ := h
  have hcnt := dcount_is F w b S 0 S.waits sb mb vs vw c L hwf h 2 (by omega) 3 rfl
  have hc5 := h.head.cell (i := 5) rfl
  have Hwf := Lib.hid hwf
  have Hfin := Lib.hid hfin
  have Ho := Lib.hid ho
  have Hg := Lib.hid hg
  clear h hwf hfin ho hg
  go_enter Try.func25, Try.ntmps25
  go_wp2_with fail
  refine hp.mono ?_
  rintro e w1 ⟨rfl, hw⟩
  obtain rfl := hw.symm
  go_wp2_with fail
  refine hcnt.mono ?_
  rintro e w1 ⟨rfl, ⟨L', h1⟩, hg1⟩
  obtain ⟨hp1, hO1⟩ := count_back Hwf.out hFb Hfin.out h1 hg1
  go_wp2_with fail
  have hsp := dspend_is F w1 b (S.count 2) hp1 Ho.out
  rw [← goes_spent, Hg.out] at hsp
  refine hsp.mono ?_
  rintro e w2 ⟨rfl, hp2, hO2⟩
  rw [show goneErr true = 50 from rfl]
  go_wp2
  go_ret
  exact ⟨rfl, More.refl hp2, hO1.trans hO2 (fun _ _ h => h)⟩

set_option maxHeartbeats 800000 in
theorem dflush_in (ho : S.off = false) (hg : (S.goes 2).2 = false) : Calls Try.prog 25 #[.pointer (some ⟨b, 0, none⟩)] w fun e w' => e = .returned (.int .i64 0) ∧ PD (More F w w') w' b (S.goes 2).1.flushed ∧ Only F w w' := by
  have hp := dpowered_is F w b S h
  rw [ho, if_neg (by simp)] at hp
  obtain ⟨hwf, hFb, hfin, sb, mb, vs, vw, c, L, h⟩ := h
  have hcnt := dcount_is F w b S 0 S.waits sb mb vs vw c L hwf h 2 (by omega) 3 rfl
  have hc5 := h.head.cell (i := 5) rfl
  have Hwf := Lib.hid hwf
  have Hfin := Lib.hid hfin
  have Ho := Lib.hid ho
  have Hg := Lib.hid hg
  clear h hwf hfin ho hg
  go_enter Try.func25, Try.ntmps25
  go_wp2_with fail
  refine hp.mono ?_
  rintro e w1 ⟨rfl, hw⟩
  obtain rfl := hw.symm
  go_wp2_with fail
  refine hcnt.mono ?_
  rintro e w1 ⟨rfl, ⟨L', h1⟩, hg1⟩
  obtain ⟨hp1, hO1⟩ := count_back Hwf.out hFb Hfin.out h1 hg1
  go_wp2_with fail
  have hsp := dspend_is F w1 b (S.count 2) hp1 Ho.out
  rw [← goes_spent, Hg.out] at hsp
  refine hsp.mono ?_
  rintro e w2 ⟨rfl, hp2, hO2⟩
  rw [show goneErr false = 0 from rfl]
  obtain ⟨S', hS'⟩ : ∃ S', S' = (S.goes 2).1 := ⟨_, rfl⟩
  rw [← hS'] at hp2
  have hset := dsettle_is F w2 b S' (List.replicate S'.waits.length 128) hp2 46 #[] (ent_of Try.func46 (by kernel_rfl) rfl)
    (fun k => if k < S'.waits.length then 128 else 0) (fun k => by
      refine ⟨by split <;> omega, ?_⟩
      unfold cutAt
      simp only [List.getD, List.getElem?_replicate]
      split <;> rfl) (fun k wr hk _ => by rw [if_pos hk]; exact flush1_is wr k)
  rw [settled_flushed hp2.wf] at hset
  have HS' := Lib.hid hS'
  clear hS'
  go_wp2_with fail
  refine hset.mono ?_
  rintro e w3 ⟨rfl, hp3, hO3⟩
  go_wp2
  go_ret
  exact ⟨rfl, by rw [← HS'.out]; exact More.refl hp3, (hO1.trans hO2 (fun _ _ h => h)).trans hO3 (fun _ _ h => h)⟩

omit h in
theorem crash1_in (w : World) (k cb n c : Nat) (A : Option Addr) (cs : List Int) (hb : w.cell? ⟨cb, 0, none⟩ = some (.slice A n c)) (hx : Sl w A n (u8s cs)) (hn : n ≤ 9223372036854775807) (hcs : ∀ x ∈ cs, 0 ≤ x ∧ x < 256) :
    Calls Try.prog 47 (#[.int .i64 (k : Int)] ++ #[.pointer (some ⟨cb, 0, none⟩)]) w fun e w' => e = .returned (.int .i64 (((cs.getD k 0).toNat : Nat) : Int)) ∧ w' = w := by
  show Calls Try.prog 47 #[.int .i64 (k : Int), .pointer (some ⟨cb, 0, none⟩)] w _
  have hl : cs.length = n := by simpa using hx.1
  by_cases hk : k < n
  · obtain ⟨ad, u, rfl, hc, hu⟩ := hx.num hk
    have hur := hcs u (List.mem_of_getElem? hu)
    have e : (((cs.getD k 0).toNat : Nat) : Int) = u := by
      rw [show cs.getD k 0 = u by simp [List.getD, hu]]; omega
    rw [e]
    have hkI : (k : Int) < (n : Int) := by omega
    have hk0 : (0 : Int) ≤ (k : Int) := by omega
    obtain ⟨hu0, hu1⟩ := hur
    clear e hu hl
    go_enter Try.func47, Try.ntmps47
    go_wp2
    go_ret
    exact ⟨rfl, rfl⟩
  · have e : (((cs.getD k 0).toNat : Nat) : Int) = 0 := by
      rw [show cs.getD k 0 = 0 by simp only [List.getD]; rw [List.getElem?_eq_none (by omega)]; rfl]; rfl
    rw [e]
    have hd : decide ((k : Int) < (n : Int)) = false := decide_eq_false (by omega)
    clear e hl
    go_enter Try.func47, Try.ntmps47
    go_wp2
    go_ret
    exact ⟨rfl, rfl⟩

set_option maxHeartbeats 800000 in
theorem dcrash_is (A : Option Addr) (n c : Nat) (cs : List Int) (hx : Sl w A n (u8s cs)) (hcs : ∀ x ∈ cs, 0 ≤ x ∧ x < 256) (hn : n ≤ 9223372036854775807) (hxF : ∀ ad, A = some ad → 0 < n → ¬ F ad.block) :
    Calls Try.prog 27 #[.pointer (some ⟨b, 0, none⟩), .slice A n c] w fun e w' => e = .returned (.tuple #[]) ∧ PD (More F w w') w' b (S.crashed cs) ∧ Only F w w' := by
  have hF0 : ∀ k, F k → k < w.heap.size := fun k hk => h.fin hk
  obtain ⟨w1, hw1⟩ : ∃ w1, w1 = w.alloc (.cells #[.slice A n c] 22) := ⟨_, rfl⟩
  have hbx : Blk w1 w.heap.size 22 [.slice A n c] := by rw [hw1]; exact Blk.new w 22 [.slice A n c]
  have hb1 : Below w.heap.size w w1 := by rw [hw1]; exact below_alloc _ _
  have h1 := h.only (Only.of_below (F := Nothing) hb1) (fun _ _ hk => hk)
  have hno := dnone_is F w1 b S h1
  have hx1 := hx.below hb1
  have hset := dsettle_is F w1 b S cs h1 47 #[.pointer (some ⟨w.heap.size, 0, none⟩)] (ent_of Try.func47 (by kernel_rfl) rfl)
    (fun k => (cs.getD k 0).toNat) (fun k => ⟨by
      have : 0 ≤ cs.getD k 0 ∧ cs.getD k 0 < 256 := by
        simp only [List.getD]
        cases e : cs[k]? with
        | none => simp
        | some u => exact hcs u (List.mem_of_getElem? e)
      omega, rfl⟩) (fun k wr _ hO => crash1_in wr k w.heap.size n c A cs ((hO.blk hbx (fun hk => by have := hF0 _ hk; omega)).cell (i := 0) rfl) (hx1.only hO hxF) hn hcs)
  have Hw1 := Lib.hid hw1
  clear hw1 h1 hx1
  go_enter Try.func27, Try.ntmps27
  go_wp2_with fail
  rw [← Hw1.out]
  clear Hw1
  refine hno.mono ?_
  rintro e w2 ⟨rfl, hw⟩
  obtain rfl := hw.symm
  go_wp2_with fail
  refine hset.mono ?_
  rintro e w2 ⟨rfl, hp2, hO2⟩
  obtain ⟨hwf2, _, hfin2, sb, mb, vs, vw, cc, L, h2⟩ := hp2
  have hc4 := h2.head.cell (i := 4) rfl
  have hf4 := h2.head.frozen 4
  have hb3 := h2.head.set 4 (.bool false)
  have hc3 := hb3.cell (i := 3) rfl
  have hf3 := hb3.frozen 3
  have hb4 := hb3.set 3 (.int .i64 (-1))
  have hO4 : Only F w2 ((w2.setCell ⟨b, 4, none⟩ (.bool false)).setCell ⟨b, 3, none⟩ (.int .i64 (-1))) := ((Only.refl F w2).set (Or.inr h2.fb) _).set (Or.inr h2.fb) _
  have Hfin := Lib.hid (show PD F ((w2.setCell ⟨b, 4, none⟩ (.bool false)).setCell ⟨b, 3, none⟩ (.int .i64 (-1))) b (S.crashed cs) from
    ⟨hwf2.cutOff (-1) false (by omega) (by omega), h2.fb, fun k hk => Nat.lt_of_lt_of_le (hfin2 k hk) hO4.size, sb, mb, vs, vw, -1, L,
      h2.upHead (S.crashed cs) (-1) rfl rfl rfl rfl rfl (by omega) (by omega) (fun _ => rfl) hb4 (fun k _ hne => (blk_setCell_other _ _ _ _ hne).trans (blk_setCell_other _ _ _ _ hne))⟩)
  have HO := Lib.hid (show Only F w ((w2.setCell ⟨b, 4, none⟩ (.bool false)).setCell ⟨b, 3, none⟩ (.int .i64 (-1))) from ((Only.of_below (F := F) hb1).trans hO2 (fun _ _ h => h)).trans hO4 (fun _ _ h => h))
  clear h2 hwf2 hfin2 hb3 hb4 hO4 hO2 hset
  go_wp2
  go_end0
  exact ⟨rfl, More.refl Hfin.out, HO.out⟩
end
end Go.Proofs.Ythdclncgmhgmfaa
