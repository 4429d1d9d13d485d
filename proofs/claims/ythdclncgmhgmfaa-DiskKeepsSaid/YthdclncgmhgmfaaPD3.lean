/- The program's disk: what is in use, what is spent, where it is cut. -/
import Derived.Test.YthdclncgmhgmfaaPD2
namespace Go.Proofs.Ythdclncgmhgmfaa
open Go.RowKit Go.Deep
set_option linter.unusedSimpArgs false
set_option linter.unusedVariables false

theorem PMet.blk {w : World} {b : Nat} {L : List Int} (h : PMet w b L) : ∃ vs, Blk w b 83 vs := by
  obtain ⟨cs, hb, _⟩ := h.2
  exact ⟨cs.toList, by unfold Blk; simpa using hb⟩

/-- The head alone has changed. -/
theorem PDAt.upHead {F : Nat → Prop} {w w' : World} {b : Nat} {S : DS} {k : Nat} {ws : List (Int × List Int)} {sb mb : Nat} {vs : List Value} {vw : Value} {c : Int} {L : List Int} (h : PDAt F w b S k ws sb mb vs vw c L)
    (S' : DS) (c' : Int) (e1 : S'.kept = S.kept) (e2 : S'.inn = S.inn) (e3 : S'.waits = S.waits) (e4 : S'.room = S.room) (e5 : S'.ops = S.ops) (h0 : -9223372036854775808 ≤ c') (h1 : c' ≤ 9223372036854775807) (hc : S'.off = false → S'.cut = if c' < 0 then -1 else c')
    (hb : Blk w' b 63 [.slice (some ⟨sb, 0, none⟩) S.kept.length S.kept.length, vw, .int .i64 (S.room - (S.used : Int)), .int .i64 c', .bool S'.off, .pointer (some ⟨mb, 0, none⟩)])
    (e : ∀ k, F k → k ≠ b → w'.heap[k]? = w.heap[k]?) : PDAt F w' b S' k ws sb mb vs vw c' L := by
  have hu : S'.used = S.used := by
    unfold DS.used usedTo DS.isUse DS.waitsFor
    rw [e1, e2, e3]
  obtain ⟨vm, hm⟩ := h.met.blk
  refine ⟨h.fb, h.fs, h.fm, by rw [e1, e4, hu]; exact hb, h.sect.kept (e _ h.fs (h.sect.ne h.head (by decide))), ⟨by rw [e1]; exact h.secs.len, by rw [e1]; exact h.secs.kept, by rw [e2]; exact h.secs.used, by rw [e1, e3]; exact h.secs.last⟩, h.wait.kept (fun g hg hv => ?_), by rw [e3]; exact h.drop, by rw [hu, e4]; exact h.use, h0, h1, hc, h.met.kept (e _ h.fm (hm.ne h.head (by decide))), by rw [e5]; exact h.ops⟩
  obtain ⟨vs', hv⟩ := hv
  exact e g hg (hv.ne h.head (by decide))

theorem dinuse_is (F : Nat → Prop) (w : World) (b : Nat) (S : DS) (sb mb : Nat) (vs : List Value) (vw : Value) (c : Int) (L : List Int) (hwf : DWf S) (h : PDAt F w b S 0 S.waits sb mb vs vw c L) (n : Nat) (hn : n < S.kept.length) :
    Calls Try.prog 42 #[.pointer (some ⟨sb, n * 130, none⟩)] w fun e w' => e = .returned (.bool (S.isUse (n : Int))) ∧ w' = w := by
  obtain ⟨u, hu⟩ : ∃ u, S.inn[n]? = some u := ⟨_, List.getElem?_eq_getElem (by rw [hwf.ninn]; exact hn)⟩
  have hc1 := h.sect.cell (h.secs.used n u hu)
  have hc2 := h.sect.cell (h.secs.last n hn)
  obtain ⟨l, hl⟩ : ∃ l, l = lastOf S.waits 0 n := ⟨_, rfl⟩
  rw [← hl] at hc2
  have hz := lastOf_zero S.waits 0 n
  rw [← hl] at hz
  have hres : S.isUse (n : Int) = (u || decide (0 < l)) := by
    unfold DS.isUse DS.waitsFor
    have e2 : S.inn.getD ((n : Int)).toNat false = u := by simp [List.getD, hu]
    rw [e2]
    by_cases h0 : l = 0
    · rw [hz.1 h0, decide_eq_false (by omega)]; simp
    · have h3 : (S.waits.any fun p => p.1 == (n : Int)) = true := by
        cases e : S.waits.any fun p => p.1 == (n : Int)
        · exact absurd (hz.2 e) h0
        · rfl
      rw [h3, decide_eq_true (by omega)]; simp
  rw [hres]
  clear hres hz hl hu h hwf hn
  cases u
  · by_cases h0 : 0 < l
    · rw [decide_eq_true h0]
      have hd : decide (0 < (l : Int)) = true := decide_eq_true (by omega)
      go_enter Try.func42, Try.ntmps42
      go_wp2
      go_ret
      exact ⟨by simp, rfl⟩
    · rw [decide_eq_false h0]
      have hd : decide (0 < (l : Int)) = false := decide_eq_false (by omega)
      go_enter Try.func42, Try.ntmps42
      go_wp2
      go_ret
      exact ⟨by simp, rfl⟩
  · go_enter Try.func42, Try.ntmps42
    go_wp2
    go_ret
    exact ⟨rfl, rfl⟩

/-- An operation is spent. -/
def DS.spent (S : DS) : DS × Bool := if S.cut < 0 then (S, false) else ({ S with cut := S.cut - 1, off := decide (S.cut - 1 < 0) }, decide (S.cut - 1 < 0))
theorem goes_spent (S : DS) (k : Nat) : S.goes k = (S.count k).spent := rfl

theorem set_only {F : Nat → Prop} {w : World} {a : Addr} (ha : F a.block) (v : Value) : Only F w (w.setCell a v) := (Only.refl F w).set (Or.inr ha) v

theorem dspend_is (F : Nat → Prop) (w : World) (b : Nat) (S : DS) (h : PD F w b S) (ho : S.off = false) :
    Calls Try.prog 44 #[.pointer (some ⟨b, 0, none⟩)] w fun e w' => e = .returned (.int .i64 (goneErr S.spent.2)) ∧ PD F w' b S.spent.1 ∧ Only F w w' := by
  obtain ⟨hwf, hFb, hfin, sb, mb, vs, vw, c, L, h⟩ := h
  have hc3 := h.head.cell (i := 3) rfl
  have hf3 := h.head.frozen 3
  have hf4 := h.head.frozen 4
  have hc4 := h.head.cell (i := 4) rfl
  have hcut := h.cut ho
  have h0 := h.cut0
  have h1 := h.cut1
  have hwb := hwf.cut0
  rw [ho] at hc4
  by_cases hc : c = 0
  · subst hc
    rw [if_neg (by omega)] at hcut
    have e : S.spent = ({ S with cut := -1, off := true }, true) := by
      unfold DS.spent; rw [hcut, if_neg (by omega)]; rfl
    rw [e]
    have Hfin := Lib.hid (show PD F (w.setCell ⟨b, 4, none⟩ (.bool true)) b { S with cut := -1, off := true } ∧ Only F w (w.setCell ⟨b, 4, none⟩ (.bool true)) from
      ⟨⟨hwf.cutOff _ _ (by omega) (by omega), hFb, fun k hk => by rw [nblk_setCell]; exact hfin k hk, sb, mb, vs, vw, 0, L,
        h.upHead _ 0 rfl rfl rfl rfl rfl (by omega) (by omega) (by intro h; cases h) (by have := h.head.set 4 (.bool true); simpa using this) (fun k _ hne => blk_setCell_other _ _ _ _ hne)⟩, set_only hFb _⟩)
    clear e hcut h hwf hfin ho hFb
    go_enter Try.func44, Try.ntmps44
    go_wp2
    go_ret
    exact ⟨rfl, Hfin.out⟩
  · by_cases hp : 0 < c
    · rw [if_neg (by omega)] at hcut
      have e : S.spent = ({ S with cut := c - 1 }, false) := by
        unfold DS.spent; rw [hcut, if_neg (by omega), decide_eq_false (by omega)]
        congr 1
        cases S; simp at ho; subst ho; rfl
      rw [e]
      have Hfin := Lib.hid (show PD F (w.setCell ⟨b, 3, none⟩ (.int .i64 (c - 1))) b { S with cut := c - 1 } ∧ Only F w (w.setCell ⟨b, 3, none⟩ (.int .i64 (c - 1))) from
        ⟨⟨hwf.cutOff _ S.off (by omega) (by omega), hFb, fun k hk => by rw [nblk_setCell]; exact hfin k hk, sb, mb, vs, vw, c - 1, L,
          h.upHead _ (c - 1) rfl rfl rfl rfl rfl (by omega) (by omega) (by intro _; show c - 1 = _; rw [if_neg (by omega)]) (by have := h.head.set 3 (.int .i64 (c - 1)); simpa using this) (fun k _ hne => blk_setCell_other _ _ _ _ hne)⟩, set_only hFb _⟩)
      have hd : decide (c = 0) = false := decide_eq_false hc
      have hd2 : decide (0 < c) = true := decide_eq_true hp
      have hcb : (c == 0) = false := by simpa using hc
      clear e hcut h hwf hfin ho hFb hc4 hf4
      go_enter Try.func44, Try.ntmps44
      go_wp2
      go_ret
      exact ⟨rfl, Hfin.out⟩
    · rw [if_pos (by omega)] at hcut
      have e : S.spent = (S, false) := by unfold DS.spent; rw [hcut, if_pos (by omega)]
      rw [e]
      have Hfin := Lib.hid (show PD F w b S ∧ Only F w w from ⟨⟨hwf, hFb, hfin, sb, mb, vs, vw, c, L, h⟩, Only.refl _ _⟩)
      have hd : decide (c = 0) = false := decide_eq_false hc
      have hd2 : decide (0 < c) = false := decide_eq_false hp
      have hcb : (c == 0) = false := by simpa using hc
      clear e hcut h hwf hfin ho hFb hc4 hf4 hf3
      go_enter Try.func44, Try.ntmps44
      go_wp2
      go_ret
      exact ⟨rfl, Hfin.out⟩

theorem More.refl {F : Nat → Prop} {w : World} {b : Nat} {S : DS} {w' : World} (h : PD F w' b S) : PD (More F w w') w' b S :=
  h.mono' (fun _ hk => Or.inl hk) (fun k hk => by rcases hk with hk | hk; exact h.fin hk; exact hk.2)

theorem dcut_is (F : Nat → Prop) (w : World) (b : Nat) (S : DS) (h : PD F w b S) (n : Int) (h1 : -9223372036854775808 ≤ n) (h2 : n ≤ 9223372036854775807) : Calls Try.prog 28 #[.pointer (some ⟨b, 0, none⟩), .int .i64 n] w fun e w' => e = .returned (.tuple #[]) ∧ PD (More F w w') w' b { S with cut := if n < 0 then -1 else n } ∧ Only F w w' := by
  have hno := dnone_is F w b S h
  obtain ⟨q, hq⟩ : ∃ q, q = (if n < 0 then -1 else n) := ⟨_, rfl⟩
  have hq0 : -1 ≤ q ∧ q ≤ 9223372036854775807 := by rw [hq]; split <;> omega
  rw [← hq]
  obtain ⟨hwf, hFb, hfin, sb, mb, vs, vw, c, L, h⟩ := h
  have hc3 := h.head.cell (i := 3) rfl
  have hf3 := h.head.frozen 3
  have Hfin := Lib.hid (show PD F (w.setCell ⟨b, 3, none⟩ (.int .i64 n)) b { S with cut := q } ∧ Only F w (w.setCell ⟨b, 3, none⟩ (.int .i64 n)) from
    ⟨⟨hwf.cutOff _ S.off hq0.1 hq0.2, hFb, fun k hk => by rw [nblk_setCell]; exact hfin k hk, sb, mb, vs, vw, n, L,
      h.upHead _ n rfl rfl rfl rfl rfl (by omega) (by omega) (fun _ => hq) (by have := h.head.set 3 (.int .i64 n); simpa using this) (fun k _ hne => blk_setCell_other _ _ _ _ hne)⟩, set_only hFb _⟩)
  clear h hwf hfin hq hq0
  go_enter Try.func28, Try.ntmps28
  go_wp2_with fail
  refine hno.mono ?_
  rintro e w1 ⟨rfl, hw⟩
  obtain rfl := hw.symm
  go_wp2
  go_end0
  exact ⟨rfl, More.refl Hfin.out.1, Hfin.out.2⟩
end Go.Proofs.Ythdclncgmhgmfaa
