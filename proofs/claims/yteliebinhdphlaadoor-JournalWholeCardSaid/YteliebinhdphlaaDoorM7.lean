/- Merged texts: BothJ OneJ0 OneJ1 OneJ2 OneJ3 OneJ4 OneJ5 OneJ6 Jour1 Jour2 Awake9 PInv Awake9b. -/
import Derived.Test.YteliebinhdphlaaDoorM6
import Derived.Test.YteliebinhdphlaaDoorM4
import Derived.Test.YteliebinhdphlaaDoorM1
/- The program's disk and the document's, side by side, and blocks that stay; both journals, opened. -/
namespace Go.Proofs.YteliebinhdphlaaDoor
set_option maxRecDepth 100000
open Go.RowKit Go.Deep
set_option linter.unusedSimpArgs false
set_option linter.unusedVariables false

/-- Both are the same disk, in blocks of their own, all of them from B on; the blocks of K are none of them. -/
def BothK (B : Nat) (K : Nat → Prop) (w : World) (d c : Nat) (S : DS) : Prop := ∃ F G, PD F w d S ∧ RD G w c S ∧ (∀ k, F k → ¬ G k) ∧ (∀ k, F k → B ≤ k) ∧ (∀ k, G k → B ≤ k) ∧ (∀ k, K k → ¬ F k ∧ ¬ G k ∧ B ≤ k ∧ k < w.heap.size)

theorem BothK.below {B : Nat} {K : Nat → Prop} {w w' : World} {d c : Nat} {S : DS} (h : BothK B K w d c S) (ho : Below w.heap.size w w') : BothK B K w' d c S := by
  obtain ⟨F, G, h1, h2, h3, h4, h5, h6⟩ := h
  exact ⟨F, G, h1.only (Only.of_below (F := Nothing) ho) (fun _ _ hk => hk), h2.only (Only.of_below (F := Nothing) ho) (fun _ _ hk => hk), h3, h4, h5, fun k hk => ⟨(h6 k hk).1, (h6 k hk).2.1, (h6 k hk).2.2.1, Nat.lt_of_lt_of_le (h6 k hk).2.2.2 ho.size⟩⟩
theorem BothK.lt {B : Nat} {K : Nat → Prop} {w : World} {d c : Nat} {S : DS} (h : BothK B K w d c S) {k : Nat} (hk : K k) : B ≤ k ∧ k < w.heap.size := by
  obtain ⟨F, G, h1, h2, h3, h4, h5, h6⟩ := h
  exact (h6 k hk).2.2
theorem BothK.less {B : Nat} {K L : Nat → Prop} {w : World} {d c : Nat} {S : DS} (h : BothK B K w d c S) (hs : ∀ k, L k → K k) : BothK B L w d c S := by
  obtain ⟨F, G, h1, h2, h3, h4, h5, h6⟩ := h
  exact ⟨F, G, h1, h2, h3, h4, h5, fun k hk => h6 k (hs k hk)⟩
/-- A store into a block that is none of theirs. -/
theorem BothK.set {B : Nat} {K : Nat → Prop} {w : World} {d c : Nat} {S : DS} (h : BothK B K w d c S) {b : Nat} (hb : K b) (i : Nat) (v : Value) : BothK B K (w.setCell ⟨b, i, none⟩ v) d c S := by
  obtain ⟨F, G, h1, h2, h3, h4, h5, h6⟩ := h
  have ho : Only (fun k => k = b) w (w.setCell ⟨b, i, none⟩ v) := (Only.refl (fun k => k = b) w).set (a := ⟨b, i, none⟩) (Or.inr rfl) v
  exact ⟨F, G, h1.only ho (fun k hk e => (h6 b hb).1 (e ▸ hk)), h2.only ho (fun k hk e => (h6 b hb).2.1 (e ▸ hk)), h3, h4, h5, fun k hk => ⟨(h6 k hk).1, (h6 k hk).2.1, (h6 k hk).2.2.1, by rw [nblk_setCell]; exact (h6 k hk).2.2.2⟩⟩

/-- One call of each. -/
theorem bothK_step {B : Nat} {K F G F' G' X1 X2 : Nat → Prop} {w w1 w2 : World} {d c : Nat} {S S1 : DS} (hF : PD F w d S) (hG : RD G w c S) (hd : ∀ k, F k → ¬ G k) (hFB : ∀ k, F k → B ≤ k) (hGB : ∀ k, G k → B ≤ k) (hK : ∀ k, K k → ¬ F k ∧ ¬ G k ∧ B ≤ k ∧ k < w.heap.size) (hB : B ≤ w.heap.size)
    (hX1 : ∀ k, X1 k → K k) (hX2 : ∀ k, X2 k → K k) (h1 : PD F' w1 d S1) (f1 : ∀ k, F' k → F k ∨ w.heap.size ≤ k) (o1 : Only (fun k => F k ∨ X1 k) w w1) (h2 : RD G' w2 c S1) (g2 : ∀ k, G' k → G k ∨ w1.heap.size ≤ k) (o2 : Only (fun k => G k ∨ X2 k) w1 w2) :
    (PD F' w2 d S1 ∧ (∀ k, F' k → ¬ G' k) ∧ (∀ k, F' k → B ≤ k) ∧ (∀ k, G' k → B ≤ k) ∧ (∀ k, K k → ¬ F' k ∧ ¬ G' k ∧ B ≤ k ∧ k < w2.heap.size)) ∧ Below B w w2 ∧ ∀ k, K k → ¬ X1 k → ¬ X2 k → w2.heap[k]? = w.heap[k]? := by
  have hFG : ∀ k, F' k → ¬ (G k ∨ X2 k) := by
    intro k hk hg
    rcases f1 k hk with h | h
    · rcases hg with hg | hg
      · exact hd k h hg
      · exact (hK k (hX2 k hg)).1 h
    · rcases hg with hg | hg
      · have := hG.fin hg; omega
      · have := (hK k (hX2 k hg)).2.2.2; omega
  refine ⟨⟨h1.only o2 hFG, ?_, ?_, ?_, ?_⟩, ?_, ?_⟩
  · intro k hk hg
    rcases g2 k hg with h | h
    · exact hFG k hk (Or.inl h)
    · have := h1.fin hk; omega
  · intro k hk
    rcases f1 k hk with h | h
    · exact hFB k h
    · omega
  · intro k hk
    rcases g2 k hk with h | h
    · exact hGB k h
    · have := o1.size; omega
  · intro k hk
    have hl := (hK k hk).2.2
    refine ⟨fun h => ?_, fun h => ?_, hl.1, Nat.lt_of_lt_of_le hl.2 (Nat.le_trans o1.size o2.size)⟩
    · rcases f1 k h with h | h
      · exact (hK k hk).1 h
      · omega
    · rcases g2 k h with h | h
      · exact (hK k hk).2.1 h
      · have := o1.size; omega
  · refine (o1.below hB (fun k hk => ?_)).trans (o2.below (Nat.le_trans hB o1.size) (fun k hk => ?_))
    · rcases hk with hk | hk
      · exact hFB k hk
      · exact (hK k (hX1 k hk)).2.2.1
    · rcases hk with hk | hk
      · exact hGB k hk
      · exact (hK k (hX2 k hk)).2.2.1
  · intro k hk n1 n2
    have hl := (hK k hk).2.2.2
    exact (o2.block k (Nat.lt_of_lt_of_le hl o1.size) (fun h => by rcases h with h | h; exact (hK k hk).2.1 h; exact n2 h)).trans (o1.block k hl (fun h => by rcases h with h | h; exact (hK k hk).1 h; exact n1 h))
theorem more_new {F : Nat → Prop} {w w' : World} (k : Nat) (h : More F w w' k) : F k ∨ w.heap.size ≤ k := by
  rcases h with h | h
  · exact Or.inl h
  · exact Or.inr h.1

/-- The law's struct, at bb. -/
def BB (w : World) (bb d a c : Nat) (vj vw : Value) : Prop := Blk w bb 44 [.pointer (some ⟨d, 0, none⟩), .pointer (some ⟨a, 0, none⟩), vj, .pointer (some ⟨c, 0, none⟩), vw]

/-- What open leaves. -/
def OpenPost (B : Nat) (K : Nat → Prop) (w : World) (bb d a c : Nat) (vj vw : Value) (kind : Int) (r : Int × Nat × DS) (w' : World) : Prop :=
  PArea w' a d 1 8 ∧ Below B w w' ∧
  ((r.1 ≠ 0 ∧ BothK B K w' d c r.2.2 ∧ BB w' bb d a c vj vw ∧ ∀ k, K k → w'.heap[k]? = w.heap[k]?) ∨
   (r.1 = 0 ∧ ∃ j q, j ≠ q ∧ BothK B (fun k => k = a ∨ k = bb ∨ k = j ∨ k = q) w' d c r.2.2 ∧ BB w' bb d a c (.pointer (some ⟨j, 0, none⟩)) (.pointer (some ⟨q, 0, none⟩)) ∧ PJ w' j a kind r.2.1 ∧ RJ w' q c 1 8 kind r.2.1))

set_option maxHeartbeats 3200000 in
theorem bothj_open (B : Nat) (K : Nat → Prop) (w : World) (bb d a c : Nat) (S : DS) (vj vw : Value) (h : BothK B K w d c S) (hKa : K a) (hKb : K bb) (ha : PArea w a d 1 8) (hb : BB w bb d a c vj vw) (hlen : S.kept.length = 10) (hB : B ≤ w.heap.size) (ht : Tabs w) (hTB : NoTabs (fun k => B ≤ k))
    (kind : Int) (hk : -9223372036854775808 ≤ kind ∧ kind ≤ 9223372036854775807) (hmany : S.waits.length ≤ 100000) (r : Int × Nat × DS) (hr : r = S.jOpen 1 8 kind) :
    Calls Tryd.prog 15 #[.pointer (some ⟨bb, 0, none⟩), .int .i64 kind] w fun e w' => e = .returned (.bool true) ∧ OpenPost B K w bb d a c vj vw kind r w' := by
  obtain ⟨F, G, hF, hG, hFG, hFB, hGB, hK⟩ := h
  have hs : Spot ((1 : Nat) : Int) ((8 : Nat) : Int) := by unfold Spot; omega
  have hc1 := Blk.cell hb (i := 1) rfl
  have hop := Lib.hid (pjopen_is F w a d S 1 8 hF ha (hK a hKa).1 hs (by omega) (by omega) ht (hTB.mono hFB) kind hk (by omega) r hr)
  have hrop0 := Lib.hid (fun (w1 : World) (hG1 : RD G w1 c S) => rjopen_is G w1 c S hG1 1 8 hs (by omega) (by omega) kind hk r hr (by omega))
  have hbl := Blk.lt hb
  have Hr := Lib.hid hr
  clear hr
  go_enter Tryd.func15, Tryd.ntmps15
  go_wp2_with fail
  refine hop.out.mono ?_
  intro e w1 hp
  obtain ⟨F', pv, rfl, hF1, f1, o1, hpv⟩ : ∃ F' pv, e = .returned (.tuple #[pv, .int .i64 r.1]) ∧ PD F' w1 d r.2.2 ∧ (∀ k, F' k → F k ∨ w.heap.size ≤ k) ∧ Only F w w1 ∧ ((r.1 ≠ 0 ∧ pv = .pointer none) ∨ (r.1 = 0 ∧ ∃ j, pv = .pointer (some ⟨j, 0, none⟩) ∧ w.heap.size ≤ j ∧ ¬ F' j ∧ PJ w1 j a kind r.2.1)) := by
    rcases hp with ⟨h0, rfl, h1, h2⟩ | ⟨h0, j, F', rfl, h1, h2, h3, h4, h5, h6⟩
    · exact ⟨_, _, rfl, h1, more_new, h2, Or.inl ⟨h0, rfl⟩⟩
    · exact ⟨F', _, by rw [h0], h5, h3, h6, Or.inr ⟨h0, j, rfl, h1, h2, h4⟩⟩
  clear hp hop
  have hG1 := hG.only o1 (fun k hk hf => hFG k hf hk)
  have hb1 : BB w1 bb d a c vj vw := Blk.kept hb (o1.block bb hbl (hK bb hKb).1)
  have hc3 := Blk.cell hb1 (i := 3) rfl
  have hrop := Lib.hid (hrop0.out w1 hG1)
  clear hrop0
  go_wp2_with fail
  refine hrop.out.mono ?_
  intro e w2 hp
  obtain ⟨G', qv, rfl, hG2, g2, o2, hqv⟩ : ∃ G' qv, e = .returned (.tuple #[qv, .int .i64 r.1]) ∧ RD G' w2 c r.2.2 ∧ (∀ k, G' k → G k ∨ w1.heap.size ≤ k) ∧ Only G w1 w2 ∧ ((r.1 ≠ 0 ∧ qv = .pointer none) ∨ (r.1 = 0 ∧ ∃ q, qv = .pointer (some ⟨q, 0, none⟩) ∧ w1.heap.size ≤ q ∧ ¬ G' q ∧ RJ w2 q c 1 8 kind r.2.1)) := by
    rcases hp with ⟨h0, rfl, h1, h2⟩ | ⟨h0, q, G', rfl, h1, h2, h3, h4, h5, h6⟩
    · exact ⟨_, _, rfl, h1, more_new, h2, Or.inl ⟨h0, rfl⟩⟩
    · exact ⟨G', _, by rw [h0], h5, h3, h6, Or.inr ⟨h0, q, rfl, h1, h2, h4⟩⟩
  clear hp hrop
  have hstep := bothK_step (X1 := Nothing) (X2 := Nothing) hF hG hFG hFB hGB hK hB (fun k hk => hk.elim) (fun k hk => hk.elim) hF1 f1 (o1.mono (fun _ _ hk => Or.inl hk)) hG2 g2 (o2.mono (fun _ _ hk => Or.inl hk))
  obtain ⟨⟨hF2, hFG2, hFB2, hGB2, hK2⟩, hbw, hkp⟩ := hstep
  have ha2 : PArea w2 a d 1 8 := ha.kept (hkp a hKa (fun h => h) (fun h => h))
  have hb2 : BB w2 bb d a c vj vw := Blk.kept hb (hkp bb hKb (fun h => h) (fun h => h))
  have hsz1 := o1.size
  have hsz2 := o2.size
  by_cases h0 : r.1 = 0
  · rcases hpv with ⟨h1, _⟩ | ⟨_, j, rfl, hj1, hj2, hj3⟩
    · exact absurd h0 h1
    rcases hqv with ⟨h1, _⟩ | ⟨_, q, rfl, hq1, hq2, hq3⟩
    · exact absurd h0 h1
    have hjl := hj3.lt
    have hql := hq3.lt
    have hjq : j ≠ q := by omega
    have hj4 : PJ w2 j a kind r.2.1 := hj3.kept (o2.block j hjl (fun h => by have := hG.fin h; omega))
    have hK3 : BothK B (fun k => k = a ∨ k = bb ∨ k = j ∨ k = q) w2 d c r.2.2 := ⟨F', G', hF2, hG2, hFG2, hFB2, hGB2, fun k hk => by
      rcases hk with rfl | rfl | rfl | rfl
      · exact hK2 _ hKa
      · exact hK2 _ hKb
      · exact ⟨hj2, fun h => by rcases g2 _ h with h | h; have := hG.fin h; omega; omega, by omega, by omega⟩
      · exact ⟨fun h => by have := hF1.fin h; omega, hq2, by omega, hql⟩⟩
    have hane : a ≠ bb := fun e => (Blk.ne ha2 hb2 (by decide)) e
    have hjne : bb ≠ j := hj4.ne hb2 (by decide)
    have hqne : bb ≠ q := Blk.ne hb2 hq3 (by decide)
    have hsw := fun (w3 : World) (hw3 : w3 = ((w2.setCell ⟨bb, 2, none⟩ (.pointer (some ⟨j, 0, none⟩))).setCell ⟨bb, 4, none⟩ (.pointer (some ⟨q, 0, none⟩))) ∨ w3 = ((w2.setCell ⟨bb, 4, none⟩ (.pointer (some ⟨q, 0, none⟩))).setCell ⟨bb, 2, none⟩ (.pointer (some ⟨j, 0, none⟩))) ) => (by
      have hb3 : BB w3 bb d a c (.pointer (some ⟨j, 0, none⟩)) (.pointer (some ⟨q, 0, none⟩)) := by
        rcases hw3 with rfl | rfl
        · exact (Blk.set (Blk.set hb2 2 _) 4 _)
        · exact (Blk.set (Blk.set hb2 4 _) 2 _)
      have hK5 : BothK B (fun k => k = a ∨ k = bb ∨ k = j ∨ k = q) w3 d c r.2.2 := by
        rcases hw3 with rfl | rfl
        · exact ((hK3.set (Or.inr (Or.inl rfl)) 2 _).set (Or.inr (Or.inl rfl)) 4 _)
        · exact ((hK3.set (Or.inr (Or.inl rfl)) 4 _).set (Or.inr (Or.inl rfl)) 2 _)
      have ho3 : Only (fun k => k = bb) w2 w3 := by
        rcases hw3 with rfl | rfl
        · exact (((Only.refl (fun k => k = bb) w2).set (a := ⟨bb, 2, none⟩) (Or.inr rfl) _).set (a := ⟨bb, 4, none⟩) (Or.inr rfl) _)
        · exact (((Only.refl (fun k => k = bb) w2).set (a := ⟨bb, 4, none⟩) (Or.inr rfl) _).set (a := ⟨bb, 2, none⟩) (Or.inr rfl) _)
      exact ⟨ha2.kept (ho3.block a ha2.lt hane), hbw.trans (ho3.below (Nat.le_trans hB (Nat.le_trans hsz1 hsz2)) (fun k e => by rw [e]; exact (hK bb hKb).2.2.1)), Or.inr ⟨h0, j, q, hjq, hK5, hb3, hj4.kept (ho3.block j hj4.lt (fun e => hjne e.symm)), hq3.kept (ho3.block q hql (fun e => hqne e.symm))⟩⟩ : OpenPost B K w bb d a c vj vw kind r w3)
    have hend := Lib.hid hsw
    have hc2 := Blk.cell hb2 (i := 2) rfl
    have hc4 := Blk.cell hb2 (i := 4) rfl
    have hf2 := Blk.frozen hb2 2
    have hf4 := Blk.frozen hb2 4
    have hf4' : (w2.setCell ⟨bb, 2, none⟩ (.pointer (some ⟨j, 0, none⟩))).frozen? ⟨bb, 4, none⟩ = false := Blk.frozen (Blk.set hb2 2 _) 4
    have hf2' : (w2.setCell ⟨bb, 4, none⟩ (.pointer (some ⟨q, 0, none⟩))).frozen? ⟨bb, 2, none⟩ = false := Blk.frozen (Blk.set hb2 4 _) 2
    rw [h0]
    clear hsw hK3 hF2 hFG2 hFB2 hGB2 hK2 hbw hkp hF1 f1 o1 hG2 g2 o2 hj2 hq2 hj3 hj4 hq3 hF hG hFG hFB hGB hK
    go_wp2_with fail
    all_goals
      go_ret
      first
        | exact ⟨rfl, hend.out _ (Or.inl rfl)⟩
        | exact ⟨rfl, hend.out _ (Or.inr rfl)⟩
  · rcases hpv with ⟨_, rfl⟩ | ⟨h1, _⟩
    rotate_left
    · exact absurd h1 h0
    rcases hqv with ⟨_, rfl⟩ | ⟨h1, _⟩
    rotate_left
    · exact absurd h1 h0
    have hend := Lib.hid (show OpenPost B K w bb d a c vj vw kind r w2 from ⟨ha2, hbw, Or.inl ⟨h0, ⟨F', G', hF2, hG2, hFG2, hFB2, hGB2, hK2⟩, hb2, fun k hk => hkp k hk (fun h => h) (fun h => h)⟩⟩)
    obtain ⟨re, hre⟩ : ∃ re, re = r.1 := ⟨_, rfl⟩
    have hne : (re == 0) = false := by simpa [hre] using h0
    have hne' : (re != 0) = true := by simpa [hre] using h0
    rw [← hre]
    clear hre h0 hF2 hFG2 hFB2 hGB2 hK2 hbw hkp hF1 f1 o1 hG2 g2 o2 hF hG hFG hFB hGB hK
    go_wp2_with fail
    go_ret
    exact ⟨rfl, hend.out⟩
end Go.Proofs.YteliebinhdphlaaDoor

/- Stage 9: both journals, and what 'one' leaves. -/
namespace Go.Proofs.YteliebinhdphlaaDoor
set_option maxRecDepth 100000
open Go.RowKit Go.Deep
set_option linter.unusedSimpArgs false
set_option linter.unusedVariables false

/-- Both journals are there, and are the same. -/
def JInv (B : Nat) (w : World) (bb d a c : Nat) (S : DS) (kd : Int) (next : Nat) : Prop := ∃ j q, j ≠ q ∧ BothK B (fun k => k = a ∨ k = bb ∨ k = j ∨ k = q) w d c S ∧ PArea w a d 1 8 ∧ BB w bb d a c (.pointer (some ⟨j, 0, none⟩)) (.pointer (some ⟨q, 0, none⟩)) ∧ PJ w j a kd next ∧ RJ w q c 1 8 kd next ∧ (1 ≤ kd ∧ kd ≤ 255) ∧ next ≤ 8 ∧ S.kept.length = 10
theorem JInv.below {B : Nat} {w w' : World} {bb d a c : Nat} {S : DS} {kd : Int} {next : Nat} (h : JInv B w bb d a c S kd next) (hb : Below w.heap.size w w') : JInv B w' bb d a c S kd next := by
  obtain ⟨j, q, h1, h2, h3, h4, h5, h6, h7⟩ := h
  exact ⟨j, q, h1, h2.below hb, h3.kept (hb.block _ h3.lt), Blk.kept h4 (hb.block _ (Blk.lt h4)), h5.kept (hb.block _ h5.lt), h6.kept (hb.block _ h6.lt), h7⟩
/-- What 'one' leaves. -/
def OnePostJ (B : Nat) (w : World) (bb d a c : Nat) (S : DS) (e : Ending) (w' : World) : Prop :=
  e = .returned (.bool true) ∧ ∃ S' kd' next', JInv B w' bb d a c S' kd' next' ∧ Below B w w' ∧ S'.waits.length ≤ S.waits.length + 8
theorem jOpen_kind {S : DS} {f m : Nat} {kind : Int} (h : (S.jOpen f m kind).1 = 0) : 1 ≤ kind ∧ kind ≤ 255 := by
  by_cases hb : kind < 1 ∨ 255 < kind
  · unfold DS.jOpen at h; rw [if_pos hb] at h; simp at h
  · omega
/-- What open leaves, when both journals were there. -/
theorem OpenPost.inv {B : Nat} {w w' : World} {bb d a c j q : Nat} {S : DS} {kd kind : Int} {next : Nat} {r : Int × Nat × DS} (hr : r = S.jOpen 1 8 kind) (hjq : j ≠ q) (hpj : PJ w j a kd next) (hrj : RJ w q c 1 8 kd next) (hkd : 1 ≤ kd ∧ kd ≤ 255) (hnx : next ≤ 8) (hlen : S.kept.length = 10)
    (h : OpenPost B (fun k => k = a ∨ k = bb ∨ k = j ∨ k = q) w bb d a c (.pointer (some ⟨j, 0, none⟩)) (.pointer (some ⟨q, 0, none⟩)) kind r w') :
    ∃ S' kd' next', JInv B w' bb d a c S' kd' next' ∧ Below B w w' ∧ S'.waits.length ≤ S.waits.length + 8 := by
  obtain ⟨ha, hb, hor⟩ := h
  have hsame := jOpen_same S 1 8 kind
  rw [← hr] at hsame
  rcases hor with ⟨_, h1, h2, h3⟩ | ⟨h0, j', q', h1, h2, h3, h4, h5⟩
  · exact ⟨r.2.2, kd, next, ⟨j, q, hjq, h1, ha, h2, hpj.kept (h3 j (Or.inr (Or.inr (Or.inl rfl)))), hrj.kept (h3 q (Or.inr (Or.inr (Or.inr rfl)))), hkd, hnx, by rw [hsame.2.1]; exact hlen⟩, hb, hsame.1⟩
  · exact ⟨r.2.2, kind, r.2.1, ⟨j', q', h1, h2, ha, h3, h4, h5, jOpen_kind (by rw [← hr]; exact h0), hsame.2.2, by rw [hsame.2.1]; exact hlen⟩, hb, hsame.1⟩
theorem setcut_waits (S : DS) (n : Int) : ({ S with cut := n } : DS).waits = S.waits := rfl
end Go.Proofs.YteliebinhdphlaaDoor

/- One of stage 9: a record is added. -/
namespace Go.Proofs.YteliebinhdphlaaDoor
set_option maxRecDepth 100000
open Go.RowKit Go.Deep
set_option linter.unusedSimpArgs false
set_option linter.unusedVariables false

set_option maxHeartbeats 6400000 in
theorem onej_add (B : Nat) (w : World) (bb d a c : Nat) (S : DS) (kd : Int) (next : Nat) (h : JInv B w bb d a c S kd next) (hB : B ≤ w.heap.size) (ht : Tabs w) (hTB : NoTabs (fun k => B ≤ k)) (n : Int) (hn : -9223372036854775808 ≤ n ∧ n ≤ 9223372036854775807)
    (A : Option Addr) (q cc : Nat) (xs : List Int) (hx : Sl w A q (u8s xs)) (hxb : ∀ x ∈ xs, 0 ≤ x ∧ x < 256) (hq : q ≤ 9223372036854775807) (hA : ∀ ad, A = some ad → 0 < q → ad.block < B) (hmany : S.waits.length ≤ 90000) :
    Calls Tryd.prog 16 #[.pointer (some ⟨bb, 0, none⟩), .agg #[.int .i64 1, .int .i64 n, .slice A q cc]] w (OnePostJ B w bb d a c S) := by
  obtain ⟨pd, hpd⟩ : ∃ pd, pd = w.heap.size := ⟨_, rfl⟩
  obtain ⟨w1, hw1⟩ : ∃ w1, w1 = w.alloc (.cells #[.int .i64 1, .int .i64 n, .slice A q cc] 47) := ⟨_, rfl⟩
  have hb1 : Below w.heap.size w w1 := by rw [hw1]; exact below_alloc _ _
  have hD : Blk w1 pd 47 [.int .i64 1, .int .i64 n, .slice A q cc] := by rw [hw1, hpd]; exact Blk.new _ _ _
  have hs : Spot ((1 : Nat) : Int) ((8 : Nat) : Int) := by unfold Spot; omega
  have hB1 : B ≤ w1.heap.size := Nat.le_trans hB hb1.size
  have hx1 := hx.below hb1
  have ht1 := ht.below hb1
  have hbB1 : Below B w w1 := hb1.mono hB
  have hpdB : B ≤ pd := by rw [hpd]; exact hB
  obtain ⟨j, jq, hjq, hboth0, ha, hb, hpj, hrj, hkd, hnx, hlen⟩ := h
  replace ha := ha.kept (hb1.block _ ha.lt)
  replace hb : BB w1 bb d a c _ _ := Blk.kept hb (hb1.block _ (Blk.lt hb))
  replace hpj := hpj.kept (hb1.block _ hpj.lt)
  replace hrj := hrj.kept (hb1.block _ hrj.lt)
  have hpdK : ∀ k, (k = a ∨ k = bb ∨ k = j ∨ k = jq) → k ≠ pd := fun k hk e => by
    rcases hk with rfl | rfl | rfl | rfl
    · exact Blk.ne ha hD (by decide) e
    · exact Blk.ne hb hD (by decide) e
    · exact hpj.ne hD (by decide) e.symm
    · exact Blk.ne hrj hD (by decide) e
  obtain ⟨F, G, hF, hG, hFG, hFB, hGB, hK, hpdF, hpdG⟩ : ∃ F G, PD F w1 d S ∧ RD G w1 c S ∧ (∀ k, F k → ¬ G k) ∧ (∀ k, F k → B ≤ k) ∧ (∀ k, G k → B ≤ k) ∧ (∀ k, (k = a ∨ k = bb ∨ k = j ∨ k = jq) → ¬ F k ∧ ¬ G k ∧ B ≤ k ∧ k < w1.heap.size) ∧ ¬ F pd ∧ ¬ G pd := by
    obtain ⟨F, G, g1, g2, g3, g4, g5, g6⟩ := hboth0
    exact ⟨F, G, g1.only (Only.of_below (F := Nothing) hb1) (fun _ _ hk => hk), g2.only (Only.of_below (F := Nothing) hb1) (fun _ _ hk => hk), g3, g4, g5, fun k hk => ⟨(g6 k hk).1, (g6 k hk).2.1, (g6 k hk).2.2.1, Nat.lt_of_lt_of_le (g6 k hk).2.2.2 hb1.size⟩, fun hk => by have := g1.fin hk; omega, fun hk => by have := g2.fin hk; omega⟩
  have hTF := hTB.mono hFB
  have hTG := hTB.mono hGB
  have haF := (hK a (Or.inl rfl)).1
  have hjF := (hK j (Or.inr (Or.inr (Or.inl rfl)))).1
  have hqG := (hK jq (Or.inr (Or.inr (Or.inr rfl)))).2.1
  have hbK := hK bb (Or.inr (Or.inl rfl))
  have hbj : bb ≠ j := hpj.ne hb (by decide)
  have hbq : bb ≠ jq := Blk.ne hb hrj (by decide)
  have haj : a ≠ j := hpj.ne ha (by decide)
  have haq : a ≠ jq := Blk.ne ha hrj (by decide)
  have hc0 := Blk.cell hb (i := 0) rfl
  have hc2 := Blk.cell hb (i := 2) rfl
  have hc3 := Blk.cell hb (i := 3) rfl
  have hc4 := Blk.cell hb (i := 4) rfl
  have he0 := hD.cell (i := 0) rfl
  have he1 := hD.cell (i := 1) rfl
  have he2 := hD.cell (i := 2) rfl
  have Hw1 := Lib.hid hw1
  have Hpd := Lib.hid hpd
  clear hw1 hpd
  have hd0 : PD F w1.drew d S := hF.drew
  obtain ⟨r, hr⟩ : ∃ r, r = S.jAdd 1 8 kd next xs := ⟨_, rfl⟩
  have Hadd := Lib.hid (pjadd_is F w1.drew a d S 1 8 hd0 (ha.kept rfl) haF hs (by omega) (by omega) (ht1.below (Below.refl _ _).drew) hTF j kd next (hpj.kept rfl) hjF hnx hkd A q cc xs (hx1.below (Below.refl _ _).drew) hxb hq (by omega) r hr)
  have Hr := Lib.hid hr
  clear hr
  have hcq : w1.cell? ⟨bb, 2, none⟩ = some (.pointer (some ⟨j, 0, none⟩)) ∧ w1.cell? ⟨pd, 2, none⟩ = some (.slice A q cc) := ⟨hc2, he2⟩
  go_enter Tryd.func16, Tryd.ntmps16
  go_upto_region 1 with fail
  rw [← Hw1.out, ← Hpd.out]
  go_upto_region 3 with fail
  go_region_held3 (fun w' => w'.cell? ⟨bb, 2, none⟩ = some (.pointer (some ⟨j, 0, none⟩)) ∧ w'.cell? ⟨pd, 2, none⟩ = some (.slice A q cc))
    (first | exact hcq | exact hcr)
    (first
      | (go_at_call 7; refine Hadd.out.mono ?_; rintro e w2 ⟨rfl, hpj2, hF2, o2x⟩;
         have o2 := o2x.undrew;
         have hb2 : BB w2 bb d a c (.pointer (some ⟨j, 0, none⟩)) (.pointer (some ⟨jq, 0, none⟩)) := Blk.kept hb (o2.block bb hbK.2.2.2 (fun h => by rcases h with h | h; exact hbK.1 h; exact hbj h));
         have hD2 := o2.blk hD (fun h => by rcases h with h | h; exact hpdF h; exact hpdK j (Or.inr (Or.inr (Or.inl rfl))) h.symm);
         have hcr : w2.cell? ⟨bb, 2, none⟩ = some (.pointer (some ⟨j, 0, none⟩)) ∧ w2.cell? ⟨pd, 2, none⟩ = some (.slice A q cc) := ⟨Blk.cell hb2 (i := 2) rfl, hD2.cell (i := 2) rfl⟩))
  have hF2' : PD (More F w1 w2) w2 d r.2.2.2 := hF2
  have hG2 := hG.only o2 (fun k hk h => by rcases h with h | h; exact hFG k h hk; exact (hK j (Or.inr (Or.inr (Or.inl rfl)))).2.1 (h ▸ hk))
  have hrj2 : RJ w2 jq c 1 8 kd next := hrj.kept (o2.block jq hrj.lt (fun h => by rcases h with h | h; exact (hK jq (Or.inr (Or.inr (Or.inr rfl)))).1 h; exact hjq h.symm))
  have hx2 : Sl w2 A q (u8s xs) := hx1.only o2 (fun ad e h0 h => by
    have h3 := hA ad e h0
    rcases h with h | h
    · have := hFB _ h; omega
    · have := (hK j (Or.inr (Or.inr (Or.inl rfl)))).2.2.1; omega)
  have hG2d : RD G w2.drew c S := hG2.keep (Nat.le_refl _) (fun _ _ => rfl)
  have Hradd := Lib.hid (rjadd_is G w2.drew jq c 1 8 kd next S hG2d (hrj2.kept rfl) hs hqG hnx (by omega) A q cc xs (hx2.below (Below.refl _ _).drew) hxb hq (by omega) r Hr.out)
  have hcq2 : w2.cell? ⟨bb, 4, none⟩ = some (.pointer (some ⟨jq, 0, none⟩)) ∧ w2.cell? ⟨pd, 2, none⟩ = some (.slice A q cc) := ⟨Blk.cell hb2 (i := 4) rfl, hD2.cell (i := 2) rfl⟩
  clear hcq hcr hd0 Hadd hF2 o2x
  go_upto_region 4 with fail
  go_region_held3 (fun w' => w'.cell? ⟨bb, 4, none⟩ = some (.pointer (some ⟨jq, 0, none⟩)) ∧ w'.cell? ⟨pd, 2, none⟩ = some (.slice A q cc))
    (first | exact hcq2 | exact hcr2)
    (first
      | (go_at_call 41; refine Hradd.out.mono ?_; rintro e w3 ⟨rfl, hrj3, hG3, o3x⟩;
         have o3 := o3x.undrew;
         have hb3 : BB w3 bb d a c (.pointer (some ⟨j, 0, none⟩)) (.pointer (some ⟨jq, 0, none⟩)) := Blk.kept hb2 (o3.block bb (Blk.lt hb2) (fun h => by rcases h with h | h; exact hbK.2.1 h; exact hbq h));
         have hD3 := o3.blk hD2 (fun h => by rcases h with h | h; exact hpdG h; exact hpdK jq (Or.inr (Or.inr (Or.inr rfl))) h.symm);
         have hcr2 : w3.cell? ⟨bb, 4, none⟩ = some (.pointer (some ⟨jq, 0, none⟩)) ∧ w3.cell? ⟨pd, 2, none⟩ = some (.slice A q cc) := ⟨Blk.cell hb3 (i := 4) rfl, hD3.cell (i := 2) rfl⟩))
  have hG3' : RD (More G w2 w3) w3 c r.2.2.2 := hG3
  obtain ⟨⟨hF3, hFG3, hFB3, hGB3, hK3⟩, hbw, hkp⟩ := bothK_step (X1 := fun k => k = j) (X2 := fun k => k = jq) hF hG hFG hFB hGB hK hB1 (fun k e => Or.inr (Or.inr (Or.inl e))) (fun k e => Or.inr (Or.inr (Or.inr e))) hF2' more_new o2 hG3' more_new o3
  have hsame := jAdd_same S 1 8 kd next xs
  rw [← Hr.out] at hsame
  have hend := Lib.hid (show ∃ S' kd' next', JInv B w3 bb d a c S' kd' next' ∧ Below B w w3 ∧ S'.waits.length ≤ S.waits.length + 8 from
    ⟨r.2.2.2, kd, r.2.2.1, ⟨j, jq, hjq, ⟨_, _, hF3, hG3', hFG3, hFB3, hGB3, hK3⟩, ha.kept (hkp a (Or.inl rfl) haj haq), hb3, hpj2.kept (o3.block j hpj2.lt (fun h => by rcases h with h | h; exact (hK j (Or.inr (Or.inr (Or.inl rfl)))).2.1 h; exact hjq h)), hrj3, hkd, hsame.2.2 hnx, by rw [hsame.2.1]; exact hlen⟩, hbB1.trans hbw, by omega⟩)
  obtain ⟨r1, r2, rn, rS⟩ := r
  simp only [] at hend ⊢
  clear hsame hF3 hG3' hFG3 hFB3 hGB3 hK3 hbw hkp hG3 hF2' hcq2 hcr2 Hradd hG2 hG2d o2 o3 o3x hb3 hD3 hrj3 hpj2 hrj2 hb2 hD2 hx2
  go_wp2_with fail
  go_ret
  exact ⟨rfl, hend.out⟩
end Go.Proofs.YteliebinhdphlaaDoor

/- One of stage 9: what is flushed. -/
namespace Go.Proofs.YteliebinhdphlaaDoor
set_option maxRecDepth 100000
open Go.RowKit Go.Deep
set_option linter.unusedSimpArgs false
set_option linter.unusedVariables false

set_option maxHeartbeats 6400000 in
theorem onej_flush (B : Nat) (w : World) (bb d a c : Nat) (S : DS) (kd : Int) (next : Nat) (h : JInv B w bb d a c S kd next) (hB : B ≤ w.heap.size) (ht : Tabs w) (hTB : NoTabs (fun k => B ≤ k)) (n : Int) (hn : -9223372036854775808 ≤ n ∧ n ≤ 9223372036854775807)
    (A : Option Addr) (q cc : Nat) (xs : List Int) (hx : Sl w A q (u8s xs)) (hxb : ∀ x ∈ xs, 0 ≤ x ∧ x < 256) (hq : q ≤ 9223372036854775807) (hA : ∀ ad, A = some ad → 0 < q → ad.block < B) (hmany : S.waits.length ≤ 90000) :
    Calls Tryd.prog 16 #[.pointer (some ⟨bb, 0, none⟩), .agg #[.int .i64 2, .int .i64 n, .slice A q cc]] w (OnePostJ B w bb d a c S) := by
  obtain ⟨pd, hpd⟩ : ∃ pd, pd = w.heap.size := ⟨_, rfl⟩
  obtain ⟨w1, hw1⟩ : ∃ w1, w1 = w.alloc (.cells #[.int .i64 2, .int .i64 n, .slice A q cc] 47) := ⟨_, rfl⟩
  have hb1 : Below w.heap.size w w1 := by rw [hw1]; exact below_alloc _ _
  have hD : Blk w1 pd 47 [.int .i64 2, .int .i64 n, .slice A q cc] := by rw [hw1, hpd]; exact Blk.new _ _ _
  have hs : Spot ((1 : Nat) : Int) ((8 : Nat) : Int) := by unfold Spot; omega
  have hB1 : B ≤ w1.heap.size := Nat.le_trans hB hb1.size
  have hx1 := hx.below hb1
  have ht1 := ht.below hb1
  have hbB1 : Below B w w1 := hb1.mono hB
  have hpdB : B ≤ pd := by rw [hpd]; exact hB
  obtain ⟨j, jq, hjq, hboth0, ha, hb, hpj, hrj, hkd, hnx, hlen⟩ := h
  replace ha := ha.kept (hb1.block _ ha.lt)
  replace hb : BB w1 bb d a c _ _ := Blk.kept hb (hb1.block _ (Blk.lt hb))
  replace hpj := hpj.kept (hb1.block _ hpj.lt)
  replace hrj := hrj.kept (hb1.block _ hrj.lt)
  have hpdK : ∀ k, (k = a ∨ k = bb ∨ k = j ∨ k = jq) → k ≠ pd := fun k hk e => by
    rcases hk with rfl | rfl | rfl | rfl
    · exact Blk.ne ha hD (by decide) e
    · exact Blk.ne hb hD (by decide) e
    · exact hpj.ne hD (by decide) e.symm
    · exact Blk.ne hrj hD (by decide) e
  obtain ⟨F, G, hF, hG, hFG, hFB, hGB, hK, hpdF, hpdG⟩ : ∃ F G, PD F w1 d S ∧ RD G w1 c S ∧ (∀ k, F k → ¬ G k) ∧ (∀ k, F k → B ≤ k) ∧ (∀ k, G k → B ≤ k) ∧ (∀ k, (k = a ∨ k = bb ∨ k = j ∨ k = jq) → ¬ F k ∧ ¬ G k ∧ B ≤ k ∧ k < w1.heap.size) ∧ ¬ F pd ∧ ¬ G pd := by
    obtain ⟨F, G, g1, g2, g3, g4, g5, g6⟩ := hboth0
    exact ⟨F, G, g1.only (Only.of_below (F := Nothing) hb1) (fun _ _ hk => hk), g2.only (Only.of_below (F := Nothing) hb1) (fun _ _ hk => hk), g3, g4, g5, fun k hk => ⟨(g6 k hk).1, (g6 k hk).2.1, (g6 k hk).2.2.1, Nat.lt_of_lt_of_le (g6 k hk).2.2.2 hb1.size⟩, fun hk => by have := g1.fin hk; omega, fun hk => by have := g2.fin hk; omega⟩
  have hTF := hTB.mono hFB
  have hTG := hTB.mono hGB
  have haF := (hK a (Or.inl rfl)).1
  have hjF := (hK j (Or.inr (Or.inr (Or.inl rfl)))).1
  have hqG := (hK jq (Or.inr (Or.inr (Or.inr rfl)))).2.1
  have hbK := hK bb (Or.inr (Or.inl rfl))
  have hbj : bb ≠ j := hpj.ne hb (by decide)
  have hbq : bb ≠ jq := Blk.ne hb hrj (by decide)
  have haj : a ≠ j := hpj.ne ha (by decide)
  have haq : a ≠ jq := Blk.ne ha hrj (by decide)
  have hc0 := Blk.cell hb (i := 0) rfl
  have hc2 := Blk.cell hb (i := 2) rfl
  have hc3 := Blk.cell hb (i := 3) rfl
  have hc4 := Blk.cell hb (i := 4) rfl
  have he0 := hD.cell (i := 0) rfl
  have he1 := hD.cell (i := 1) rfl
  have he2 := hD.cell (i := 2) rfl
  have Hw1 := Lib.hid hw1
  have Hpd := Lib.hid hpd
  clear hw1 hpd
  have hd0 : PD F w1.drew d S := hF.drew
  obtain ⟨r, hr⟩ : ∃ r, r = S.flushOf := ⟨_, rfl⟩
  have Hone := Lib.hid (pjflush_is F w1.drew a d S 1 8 hd0 (ha.kept rfl) haF hs (by omega) (by omega) (ht1.below (Below.refl _ _).drew) hTF j kd next (hpj.kept rfl) hjF hnx hkd r hr)
  have Htwo := Lib.hid (fun (w2 : World) (h2 : RD G w2 c S) => rflush_any G w2 c S h2 r hr)
  have hsame1 : r.2.waits.length ≤ S.waits.length := by rw [hr]; exact flushOf_waits S
  have hsame2 : r.2.kept.length = S.kept.length := by rw [hr]; exact flushOf_len S
  clear hr
  have hcq : w1.cell? ⟨bb, 2, none⟩ = some (.pointer (some ⟨j, 0, none⟩)) ∧ w1.cell? ⟨bb, 3, none⟩ = some (.pointer (some ⟨c, 0, none⟩)) := ⟨hc2, hc3⟩
  go_enter Tryd.func16, Tryd.ntmps16
  go_upto_region 1 with fail
  rw [← Hw1.out, ← Hpd.out]
  go_upto_region 7 with fail
  go_region_held3 (fun w' => w'.cell? ⟨bb, 2, none⟩ = some (.pointer (some ⟨j, 0, none⟩)) ∧ w'.cell? ⟨bb, 3, none⟩ = some (.pointer (some ⟨c, 0, none⟩)))
    (first | exact hcq | exact hcr | exact hcr2)
    (first
      | (go_at_call 10; refine Hone.out.mono ?_; rintro e w2 ⟨rfl, hF2, o2x⟩;
         have o2 := o2x.undrew;
         have hb2 : BB w2 bb d a c (.pointer (some ⟨j, 0, none⟩)) (.pointer (some ⟨jq, 0, none⟩)) := Blk.kept hb (o2.block bb hbK.2.2.2 hbK.1);
         have hG2 := hG.only o2 (fun k hk h => hFG k h hk);
         have hcr : w2.cell? ⟨bb, 2, none⟩ = some (.pointer (some ⟨j, 0, none⟩)) ∧ w2.cell? ⟨bb, 3, none⟩ = some (.pointer (some ⟨c, 0, none⟩)) := ⟨Blk.cell hb2 (i := 2) rfl, Blk.cell hb2 (i := 3) rfl⟩)
      | (go_at_call 42; refine (Htwo.out w2 hG2).mono ?_; rintro e w3 ⟨rfl, hG3, o3⟩;
         have hb3 : BB w3 bb d a c (.pointer (some ⟨j, 0, none⟩)) (.pointer (some ⟨jq, 0, none⟩)) := Blk.kept hb2 (o3.block bb (Blk.lt hb2) hbK.2.1);
         have hcr2 : w3.cell? ⟨bb, 2, none⟩ = some (.pointer (some ⟨j, 0, none⟩)) ∧ w3.cell? ⟨bb, 3, none⟩ = some (.pointer (some ⟨c, 0, none⟩)) := ⟨Blk.cell hb3 (i := 2) rfl, Blk.cell hb3 (i := 3) rfl⟩))
  have hF2' : PD (More F w1 w2) w2 d r.2 := hF2
  obtain ⟨⟨hF3, hFG3, hFB3, hGB3, hK3⟩, hbw, hkp⟩ := bothK_step (X1 := Nothing) (X2 := Nothing) hF hG hFG hFB hGB hK hB1 (fun k e => e.elim) (fun k e => e.elim) hF2' more_new (o2.mono (fun _ _ hk => Or.inl hk)) hG3 more_new (o3.mono (fun _ _ hk => Or.inl hk))
  have hend := Lib.hid (show ∃ S' kd' next', JInv B w3 bb d a c S' kd' next' ∧ Below B w w3 ∧ S'.waits.length ≤ S.waits.length + 8 from
    ⟨r.2, kd, next, ⟨j, jq, hjq, ⟨_, _, hF3, hG3, hFG3, hFB3, hGB3, hK3⟩, ha.kept (hkp a (Or.inl rfl) (fun h => h) (fun h => h)), hb3, hpj.kept (hkp j (Or.inr (Or.inr (Or.inl rfl))) (fun h => h) (fun h => h)), hrj.kept (hkp jq (Or.inr (Or.inr (Or.inr rfl))) (fun h => h) (fun h => h)), hkd, hnx, by rw [hsame2]; exact hlen⟩, hbB1.trans hbw, by omega⟩)
  obtain ⟨r1, rS⟩ := r
  simp only [] at hend ⊢
  clear hsame1 hsame2 hF3 hG3 hFG3 hFB3 hGB3 hK3 hbw hkp hF2' hcq hcr hcr2 hG2 o2 o3 o2x hb3 hb2 Hone Htwo
  go_wp2_with fail
  go_ret
  exact ⟨rfl, hend.out⟩
end Go.Proofs.YteliebinhdphlaaDoor

/- One of stage 9: a record is got. -/
namespace Go.Proofs.YteliebinhdphlaaDoor
set_option maxRecDepth 100000
open Go.RowKit Go.Deep
set_option linter.unusedSimpArgs false
set_option linter.unusedVariables false

set_option maxHeartbeats 6400000 in
theorem onej_get (B : Nat) (w : World) (bb d a c : Nat) (S : DS) (kd : Int) (next : Nat) (h : JInv B w bb d a c S kd next) (hB : B ≤ w.heap.size) (ht : Tabs w) (hTB : NoTabs (fun k => B ≤ k)) (n : Int) (hn : -9223372036854775808 ≤ n ∧ n ≤ 9223372036854775807)
    (A : Option Addr) (q cc : Nat) (xs : List Int) (hx : Sl w A q (u8s xs)) (hxb : ∀ x ∈ xs, 0 ≤ x ∧ x < 256) (hq : q ≤ 9223372036854775807) (hA : ∀ ad, A = some ad → 0 < q → ad.block < B) (hmany : S.waits.length ≤ 90000) :
    Calls Tryd.prog 16 #[.pointer (some ⟨bb, 0, none⟩), .agg #[.int .i64 3, .int .i64 n, .slice A q cc]] w (OnePostJ B w bb d a c S) := by
  obtain ⟨pd, hpd⟩ : ∃ pd, pd = w.heap.size := ⟨_, rfl⟩
  obtain ⟨w1, hw1⟩ : ∃ w1, w1 = w.alloc (.cells #[.int .i64 3, .int .i64 n, .slice A q cc] 47) := ⟨_, rfl⟩
  have hb1 : Below w.heap.size w w1 := by rw [hw1]; exact below_alloc _ _
  have hD : Blk w1 pd 47 [.int .i64 3, .int .i64 n, .slice A q cc] := by rw [hw1, hpd]; exact Blk.new _ _ _
  have hs : Spot ((1 : Nat) : Int) ((8 : Nat) : Int) := by unfold Spot; omega
  have hB1 : B ≤ w1.heap.size := Nat.le_trans hB hb1.size
  have hx1 := hx.below hb1
  have ht1 := ht.below hb1
  have hbB1 : Below B w w1 := hb1.mono hB
  have hpdB : B ≤ pd := by rw [hpd]; exact hB
  obtain ⟨j, jq, hjq, hboth0, ha, hb, hpj, hrj, hkd, hnx, hlen⟩ := h
  replace ha := ha.kept (hb1.block _ ha.lt)
  replace hb : BB w1 bb d a c _ _ := Blk.kept hb (hb1.block _ (Blk.lt hb))
  replace hpj := hpj.kept (hb1.block _ hpj.lt)
  replace hrj := hrj.kept (hb1.block _ hrj.lt)
  have hpdK : ∀ k, (k = a ∨ k = bb ∨ k = j ∨ k = jq) → k ≠ pd := fun k hk e => by
    rcases hk with rfl | rfl | rfl | rfl
    · exact Blk.ne ha hD (by decide) e
    · exact Blk.ne hb hD (by decide) e
    · exact hpj.ne hD (by decide) e.symm
    · exact Blk.ne hrj hD (by decide) e
  obtain ⟨F, G, hF, hG, hFG, hFB, hGB, hK, hpdF, hpdG⟩ : ∃ F G, PD F w1 d S ∧ RD G w1 c S ∧ (∀ k, F k → ¬ G k) ∧ (∀ k, F k → B ≤ k) ∧ (∀ k, G k → B ≤ k) ∧ (∀ k, (k = a ∨ k = bb ∨ k = j ∨ k = jq) → ¬ F k ∧ ¬ G k ∧ B ≤ k ∧ k < w1.heap.size) ∧ ¬ F pd ∧ ¬ G pd := by
    obtain ⟨F, G, g1, g2, g3, g4, g5, g6⟩ := hboth0
    exact ⟨F, G, g1.only (Only.of_below (F := Nothing) hb1) (fun _ _ hk => hk), g2.only (Only.of_below (F := Nothing) hb1) (fun _ _ hk => hk), g3, g4, g5, fun k hk => ⟨(g6 k hk).1, (g6 k hk).2.1, (g6 k hk).2.2.1, Nat.lt_of_lt_of_le (g6 k hk).2.2.2 hb1.size⟩, fun hk => by have := g1.fin hk; omega, fun hk => by have := g2.fin hk; omega⟩
  have hTF := hTB.mono hFB
  have hTG := hTB.mono hGB
  have haF := (hK a (Or.inl rfl)).1
  have hjF := (hK j (Or.inr (Or.inr (Or.inl rfl)))).1
  have hqG := (hK jq (Or.inr (Or.inr (Or.inr rfl)))).2.1
  have hbK := hK bb (Or.inr (Or.inl rfl))
  have hbj : bb ≠ j := hpj.ne hb (by decide)
  have hbq : bb ≠ jq := Blk.ne hb hrj (by decide)
  have haj : a ≠ j := hpj.ne ha (by decide)
  have haq : a ≠ jq := Blk.ne ha hrj (by decide)
  have hc0 := Blk.cell hb (i := 0) rfl
  have hc2 := Blk.cell hb (i := 2) rfl
  have hc3 := Blk.cell hb (i := 3) rfl
  have hc4 := Blk.cell hb (i := 4) rfl
  have he0 := hD.cell (i := 0) rfl
  have he1 := hD.cell (i := 1) rfl
  have he2 := hD.cell (i := 2) rfl
  have Hw1 := Lib.hid hw1
  have Hpd := Lib.hid hpd
  clear hw1 hpd
  have hd0 : PD F w1.drew d S := hF.drew
  obtain ⟨r, hr⟩ : ∃ r, r = S.jGet 1 8 kd next n := ⟨_, rfl⟩
  have Hone := Lib.hid (pjget_is F w1.drew a d S 1 8 hd0 (ha.kept rfl) haF hs (by omega) (by omega) (ht1.below (Below.refl _ _).drew) hTF j kd next (hpj.kept rfl) hjF hnx hkd n hn r hr)
  have Htwo := Lib.hid (fun (w2 : World) (h2 : RD G w2 c S) (hq2 : RJ w2 jq c 1 8 kd next) => rjget_is G w2 jq c 1 8 kd next S h2 hq2 hs hqG hnx (by omega) n hn r hr)
  have hsame := jGet_same S 1 8 kd next n
  rw [← hr] at hsame
  have hl113 : r.1.length ≤ 113 := by rw [hr]; exact jGet_len hG.1 1 8 kd next n
  clear hr
  have hcq : w1.cell? ⟨bb, 2, none⟩ = some (.pointer (some ⟨j, 0, none⟩)) ∧ w1.cell? ⟨pd, 1, none⟩ = some (.int .i64 n) := ⟨hc2, he1⟩
  go_enter Tryd.func16, Tryd.ntmps16
  go_upto_region 1 with fail
  rw [← Hw1.out, ← Hpd.out]
  go_upto_region 9 with fail
  go_region_held3 (fun w' => w'.cell? ⟨bb, 2, none⟩ = some (.pointer (some ⟨j, 0, none⟩)) ∧ w'.cell? ⟨pd, 1, none⟩ = some (.int .i64 n))
    (first | exact hcq | exact hcr)
    (first
      | (go_at_call 28; refine Hone.out.mono ?_; rintro e w2 ⟨B1, c1, F', rfl, hs1, hn1, f1, hF2, o2x⟩;
         have o2 := o2x.undrew;
         have hb2 : BB w2 bb d a c (.pointer (some ⟨j, 0, none⟩)) (.pointer (some ⟨jq, 0, none⟩)) := Blk.kept hb (o2.block bb hbK.2.2.2 hbK.1);
         have hD2 := o2.blk hD hpdF;
         have hcr : w2.cell? ⟨bb, 2, none⟩ = some (.pointer (some ⟨j, 0, none⟩)) ∧ w2.cell? ⟨pd, 1, none⟩ = some (.int .i64 n) := ⟨Blk.cell hb2 (i := 2) rfl, hD2.cell (i := 1) rfl⟩))
  have hG2 := hG.only o2 (fun k hk h => hFG k h hk)
  have hrj2 : RJ w2 jq c 1 8 kd next := hrj.kept (o2.block jq hrj.lt (hK jq (Or.inr (Or.inr (Or.inr rfl)))).1)
  have hG2d : RD G w2.drew c S := hG2.keep (Nat.le_refl _) (fun _ _ => rfl)
  have Htwo' := Lib.hid (Htwo.out w2.drew hG2d (hrj2.kept rfl))
  have hcq2 : w2.cell? ⟨bb, 4, none⟩ = some (.pointer (some ⟨jq, 0, none⟩)) ∧ w2.cell? ⟨pd, 1, none⟩ = some (.int .i64 n) := ⟨Blk.cell hb2 (i := 4) rfl, hD2.cell (i := 1) rfl⟩
  have f1' : ∀ k, F' k → F k ∨ w1.heap.size ≤ k := f1
  have hn1' : ∀ ad, B1 = some ad → w1.heap.size ≤ ad.block := fun ad e => (hn1 ad e).1
  clear hcq hcr hd0 Hone Htwo o2x
  go_upto_region 10 with fail
  go_region_held3 (fun w' => w'.cell? ⟨bb, 4, none⟩ = some (.pointer (some ⟨jq, 0, none⟩)) ∧ w'.cell? ⟨pd, 1, none⟩ = some (.int .i64 n))
    (first | exact hcq2 | exact hcr2)
    (first
      | (go_at_call 43; refine Htwo'.out.mono ?_; rintro e w3 ⟨⟨B2, c2, rfl, hs2⟩, hG3, o3x⟩;
         have o3 := o3x.undrew;
         have hb3 : BB w3 bb d a c (.pointer (some ⟨j, 0, none⟩)) (.pointer (some ⟨jq, 0, none⟩)) := Blk.kept hb2 (o3.block bb (Blk.lt hb2) hbK.2.1);
         have hD3 := o3.blk hD2 hpdG;
         have hcr2 : w3.cell? ⟨bb, 4, none⟩ = some (.pointer (some ⟨jq, 0, none⟩)) ∧ w3.cell? ⟨pd, 1, none⟩ = some (.int .i64 n) := ⟨Blk.cell hb3 (i := 4) rfl, hD3.cell (i := 1) rfl⟩))
  have hG3' : RD (More G w2 w3) w3 c r.2.2 := hG3
  have hs1' : Sl w3 B1 r.1.length (u8s r.1) := hs1.only o3 (fun ad e _ hg => by have := hn1' ad e; have := hG.fin hg; omega)
  obtain ⟨⟨hF3, hFG3, hFB3, hGB3, hK3⟩, hbw, hkp⟩ := bothK_step (X1 := Nothing) (X2 := Nothing) hF hG hFG hFB hGB hK hB1 (fun k e => e.elim) (fun k e => e.elim) hF2 f1' (o2.mono (fun _ _ hk => Or.inl hk)) hG3' more_new (o3.mono (fun _ _ hk => Or.inl hk))
  have hend := Lib.hid (show ∃ S' kd' next', JInv B w3 bb d a c S' kd' next' ∧ Below B w w3 ∧ S'.waits.length ≤ S.waits.length + 8 from
    ⟨r.2.2, kd, next, ⟨j, jq, hjq, ⟨_, _, hF3, hG3', hFG3, hFB3, hGB3, hK3⟩, ha.kept (hkp a (Or.inl rfl) (fun h => h) (fun h => h)), hb3, hpj.kept (hkp j (Or.inr (Or.inr (Or.inl rfl))) (fun h => h) (fun h => h)), hrj.kept (hkp jq (Or.inr (Or.inr (Or.inr rfl))) (fun h => h) (fun h => h)), hkd, hnx, by rw [hsame.2]; exact hlen⟩, hbB1.trans hbw, by rw [hsame.1]; omega⟩)
  have hlr : r.1.length ≤ 9223372036854775807 := by omega
  have Hsm := Lib.hid (same_any B1 B2 r.1.length r.1.length c1 c2 r.1 r.1 w3 hs1' hs2 hlr hlr)
  obtain ⟨r1, r2, rS⟩ := r
  obtain ⟨l1, hl1⟩ : ∃ l, l = r1.length := ⟨_, rfl⟩
  simp only [] at hend Hsm ⊢
  rw [← hl1] at Hsm ⊢
  clear hsame hF3 hG3' hFG3 hFB3 hGB3 hK3 hbw hkp hG3 hF2 hcq2 hcr2 Htwo' hG2 hG2d o2 o3 o3x hb3 hD3 hrj2 hb2 hD2 hs1' hs1 hs2 hl1 hlr
  go_wp2_with fail
  refine Hsm.out.mono ?_
  rintro e w4 ⟨rfl, q4, rfl⟩
  rw [decide_true]
  go_wp2_with fail
  go_ret
  obtain ⟨S', kd', next', g1, g2, g3⟩ := hend.out
  exact ⟨rfl, S', kd', next', g1.below (below_drewN (Below.refl _ _) q4), below_drewN g2 q4, g3⟩
end Go.Proofs.YteliebinhdphlaaDoor

/- One of stage 9: a cut is set. -/
namespace Go.Proofs.YteliebinhdphlaaDoor
set_option maxRecDepth 100000
open Go.RowKit Go.Deep
set_option linter.unusedSimpArgs false
set_option linter.unusedVariables false

set_option maxHeartbeats 6400000 in
theorem onej_cut (B : Nat) (w : World) (bb d a c : Nat) (S : DS) (kd : Int) (next : Nat) (h : JInv B w bb d a c S kd next) (hB : B ≤ w.heap.size) (ht : Tabs w) (hTB : NoTabs (fun k => B ≤ k)) (n : Int) (hn : -9223372036854775808 ≤ n ∧ n ≤ 9223372036854775807)
    (A : Option Addr) (q cc : Nat) (xs : List Int) (hx : Sl w A q (u8s xs)) (hxb : ∀ x ∈ xs, 0 ≤ x ∧ x < 256) (hq : q ≤ 9223372036854775807) (hA : ∀ ad, A = some ad → 0 < q → ad.block < B) (hmany : S.waits.length ≤ 90000) :
    Calls Tryd.prog 16 #[.pointer (some ⟨bb, 0, none⟩), .agg #[.int .i64 4, .int .i64 n, .slice A q cc]] w (OnePostJ B w bb d a c S) := by
  obtain ⟨pd, hpd⟩ : ∃ pd, pd = w.heap.size := ⟨_, rfl⟩
  obtain ⟨w1, hw1⟩ : ∃ w1, w1 = w.alloc (.cells #[.int .i64 4, .int .i64 n, .slice A q cc] 47) := ⟨_, rfl⟩
  have hb1 : Below w.heap.size w w1 := by rw [hw1]; exact below_alloc _ _
  have hD : Blk w1 pd 47 [.int .i64 4, .int .i64 n, .slice A q cc] := by rw [hw1, hpd]; exact Blk.new _ _ _
  have hs : Spot ((1 : Nat) : Int) ((8 : Nat) : Int) := by unfold Spot; omega
  have hB1 : B ≤ w1.heap.size := Nat.le_trans hB hb1.size
  have hx1 := hx.below hb1
  have ht1 := ht.below hb1
  have hbB1 : Below B w w1 := hb1.mono hB
  have hpdB : B ≤ pd := by rw [hpd]; exact hB
  obtain ⟨j, jq, hjq, hboth0, ha, hb, hpj, hrj, hkd, hnx, hlen⟩ := h
  replace ha := ha.kept (hb1.block _ ha.lt)
  replace hb : BB w1 bb d a c _ _ := Blk.kept hb (hb1.block _ (Blk.lt hb))
  replace hpj := hpj.kept (hb1.block _ hpj.lt)
  replace hrj := hrj.kept (hb1.block _ hrj.lt)
  have hpdK : ∀ k, (k = a ∨ k = bb ∨ k = j ∨ k = jq) → k ≠ pd := fun k hk e => by
    rcases hk with rfl | rfl | rfl | rfl
    · exact Blk.ne ha hD (by decide) e
    · exact Blk.ne hb hD (by decide) e
    · exact hpj.ne hD (by decide) e.symm
    · exact Blk.ne hrj hD (by decide) e
  obtain ⟨F, G, hF, hG, hFG, hFB, hGB, hK, hpdF, hpdG⟩ : ∃ F G, PD F w1 d S ∧ RD G w1 c S ∧ (∀ k, F k → ¬ G k) ∧ (∀ k, F k → B ≤ k) ∧ (∀ k, G k → B ≤ k) ∧ (∀ k, (k = a ∨ k = bb ∨ k = j ∨ k = jq) → ¬ F k ∧ ¬ G k ∧ B ≤ k ∧ k < w1.heap.size) ∧ ¬ F pd ∧ ¬ G pd := by
    obtain ⟨F, G, g1, g2, g3, g4, g5, g6⟩ := hboth0
    exact ⟨F, G, g1.only (Only.of_below (F := Nothing) hb1) (fun _ _ hk => hk), g2.only (Only.of_below (F := Nothing) hb1) (fun _ _ hk => hk), g3, g4, g5, fun k hk => ⟨(g6 k hk).1, (g6 k hk).2.1, (g6 k hk).2.2.1, Nat.lt_of_lt_of_le (g6 k hk).2.2.2 hb1.size⟩, fun hk => by have := g1.fin hk; omega, fun hk => by have := g2.fin hk; omega⟩
  have hTF := hTB.mono hFB
  have hTG := hTB.mono hGB
  have haF := (hK a (Or.inl rfl)).1
  have hjF := (hK j (Or.inr (Or.inr (Or.inl rfl)))).1
  have hqG := (hK jq (Or.inr (Or.inr (Or.inr rfl)))).2.1
  have hbK := hK bb (Or.inr (Or.inl rfl))
  have hbj : bb ≠ j := hpj.ne hb (by decide)
  have hbq : bb ≠ jq := Blk.ne hb hrj (by decide)
  have haj : a ≠ j := hpj.ne ha (by decide)
  have haq : a ≠ jq := Blk.ne ha hrj (by decide)
  have hc0 := Blk.cell hb (i := 0) rfl
  have hc2 := Blk.cell hb (i := 2) rfl
  have hc3 := Blk.cell hb (i := 3) rfl
  have hc4 := Blk.cell hb (i := 4) rfl
  have he0 := hD.cell (i := 0) rfl
  have he1 := hD.cell (i := 1) rfl
  have he2 := hD.cell (i := 2) rfl
  have Hw1 := Lib.hid hw1
  have Hpd := Lib.hid hpd
  clear hw1 hpd
  have hd0 : PD F w1.drew d S := hF.drew
  obtain ⟨S1, hS1⟩ : ∃ S1, S1 = { S with cut := if n < 0 then -1 else n } := ⟨_, rfl⟩
  have Hone := Lib.hid (show Calls Tryd.prog 20 #[.pointer (some ⟨d, 0, none⟩), .int .i64 n] w1.drew fun e w' => e = .returned (.tuple #[]) ∧ PD (More F w1.drew w') w' d S1 ∧ Only F w1.drew w' by rw [hS1]; exact dcut_is F w1.drew d S hd0 n hn.1 hn.2)
  have Htwo := Lib.hid (fun (w2 : World) (h2 : RD G w2 c S) => show Calls Tryd.prog 44 #[.pointer (some ⟨c, 0, none⟩), .int .i64 n] w2 fun e w' => e = .returned (.tuple #[]) ∧ RD G w' c S1 ∧ Only G w2 w' by rw [hS1]; exact rsetCut_is G w2 c S n h2 hn.1 hn.2)
  have hw' : S1.waits = S.waits := by rw [hS1]
  have hk' : S1.kept = S.kept := by rw [hS1]
  clear hS1
  have hcq : w1.cell? ⟨bb, 0, none⟩ = some (.pointer (some ⟨d, 0, none⟩)) ∧ w1.cell? ⟨pd, 1, none⟩ = some (.int .i64 n) := ⟨hc0, he1⟩
  go_enter Tryd.func16, Tryd.ntmps16
  go_upto_region 1 with fail
  rw [← Hw1.out, ← Hpd.out]
  go_upto_region 13 with fail
  go_region_held3 (fun w' => w'.cell? ⟨bb, 0, none⟩ = some (.pointer (some ⟨d, 0, none⟩)) ∧ w'.cell? ⟨pd, 1, none⟩ = some (.int .i64 n))
    (first | exact hcq | exact hcr)
    (first
      | (go_at_call 20; refine Hone.out.mono ?_; rintro e w2 ⟨rfl, hF2, o2x⟩;
         have o2 := o2x.undrew;
         have hb2 : BB w2 bb d a c (.pointer (some ⟨j, 0, none⟩)) (.pointer (some ⟨jq, 0, none⟩)) := Blk.kept hb (o2.block bb hbK.2.2.2 hbK.1);
         have hD2 := o2.blk hD hpdF;
         have hcr : w2.cell? ⟨bb, 0, none⟩ = some (.pointer (some ⟨d, 0, none⟩)) ∧ w2.cell? ⟨pd, 1, none⟩ = some (.int .i64 n) := ⟨Blk.cell hb2 (i := 0) rfl, hD2.cell (i := 1) rfl⟩))
  have hF2' : PD (More F w1 w2) w2 d S1 := hF2
  have hG2 := hG.only o2 (fun k hk h => hFG k h hk)
  have hG2d : RD G w2.drew c S := hG2.keep (Nat.le_refl _) (fun _ _ => rfl)
  have Htwo' := Lib.hid (Htwo.out w2.drew hG2d)
  have hcq2 : w2.cell? ⟨bb, 3, none⟩ = some (.pointer (some ⟨c, 0, none⟩)) ∧ w2.cell? ⟨pd, 1, none⟩ = some (.int .i64 n) := ⟨Blk.cell hb2 (i := 3) rfl, hD2.cell (i := 1) rfl⟩
  clear hcq hcr hd0 Hone Htwo o2x hF2
  go_upto_region 14 with fail
  go_region_held3 (fun w' => w'.cell? ⟨bb, 3, none⟩ = some (.pointer (some ⟨c, 0, none⟩)) ∧ w'.cell? ⟨pd, 1, none⟩ = some (.int .i64 n))
    (first | exact hcq2 | exact hcr2)
    (first
      | (go_at_call 44; refine Htwo'.out.mono ?_; rintro e w3 ⟨rfl, hG3, o3x⟩;
         have o3 := o3x.undrew;
         have hb3 : BB w3 bb d a c (.pointer (some ⟨j, 0, none⟩)) (.pointer (some ⟨jq, 0, none⟩)) := Blk.kept hb2 (o3.block bb (Blk.lt hb2) hbK.2.1);
         have hD3 := o3.blk hD2 hpdG;
         have hcr2 : w3.cell? ⟨bb, 3, none⟩ = some (.pointer (some ⟨c, 0, none⟩)) ∧ w3.cell? ⟨pd, 1, none⟩ = some (.int .i64 n) := ⟨Blk.cell hb3 (i := 3) rfl, hD3.cell (i := 1) rfl⟩))
  obtain ⟨⟨hF3, hFG3, hFB3, hGB3, hK3⟩, hbw, hkp⟩ := bothK_step (X1 := Nothing) (X2 := Nothing) hF hG hFG hFB hGB hK hB1 (fun k e => e.elim) (fun k e => e.elim) hF2' more_new (o2.mono (fun _ _ hk => Or.inl hk)) hG3 (fun _ hk => Or.inl hk) (o3.mono (fun _ _ hk => Or.inl hk))
  have hend := Lib.hid (show ∃ S' kd' next', JInv B w3 bb d a c S' kd' next' ∧ Below B w w3 ∧ S'.waits.length ≤ S.waits.length + 8 from
    ⟨S1, kd, next, ⟨j, jq, hjq, ⟨_, _, hF3, hG3, hFG3, hFB3, hGB3, hK3⟩, ha.kept (hkp a (Or.inl rfl) (fun h => h) (fun h => h)), hb3, hpj.kept (hkp j (Or.inr (Or.inr (Or.inl rfl))) (fun h => h) (fun h => h)), hrj.kept (hkp jq (Or.inr (Or.inr (Or.inr rfl))) (fun h => h) (fun h => h)), hkd, hnx, by rw [hk']; exact hlen⟩, hbB1.trans hbw, by rw [hw']; omega⟩)
  clear hF3 hG3 hFG3 hFB3 hGB3 hK3 hbw hkp hF2' hcq2 hcr2 Htwo' hG2 hG2d o2 o3 o3x hb3 hD3 hb2 hD2
  go_wp2_with fail
  go_ret
  exact ⟨rfl, hend.out⟩
end Go.Proofs.YteliebinhdphlaaDoor

/- One of stage 9: a crash, and it is opened. -/
namespace Go.Proofs.YteliebinhdphlaaDoor
set_option maxRecDepth 100000
open Go.RowKit Go.Deep
set_option linter.unusedSimpArgs false
set_option linter.unusedVariables false

set_option maxHeartbeats 6400000 in
theorem onej_crash (B : Nat) (w : World) (bb d a c : Nat) (S : DS) (kd : Int) (next : Nat) (h : JInv B w bb d a c S kd next) (hB : B ≤ w.heap.size) (ht : Tabs w) (hTB : NoTabs (fun k => B ≤ k)) (n : Int) (hn : -9223372036854775808 ≤ n ∧ n ≤ 9223372036854775807)
    (A : Option Addr) (q cc : Nat) (xs : List Int) (hx : Sl w A q (u8s xs)) (hxb : ∀ x ∈ xs, 0 ≤ x ∧ x < 256) (hq : q ≤ 9223372036854775807) (hA : ∀ ad, A = some ad → 0 < q → ad.block < B) (hmany : S.waits.length ≤ 90000) :
    Calls Tryd.prog 16 #[.pointer (some ⟨bb, 0, none⟩), .agg #[.int .i64 5, .int .i64 n, .slice A q cc]] w (OnePostJ B w bb d a c S) := by
  obtain ⟨pd, hpd⟩ : ∃ pd, pd = w.heap.size := ⟨_, rfl⟩
  obtain ⟨w1, hw1⟩ : ∃ w1, w1 = w.alloc (.cells #[.int .i64 5, .int .i64 n, .slice A q cc] 47) := ⟨_, rfl⟩
  have hb1 : Below w.heap.size w w1 := by rw [hw1]; exact below_alloc _ _
  have hD : Blk w1 pd 47 [.int .i64 5, .int .i64 n, .slice A q cc] := by rw [hw1, hpd]; exact Blk.new _ _ _
  have hs : Spot ((1 : Nat) : Int) ((8 : Nat) : Int) := by unfold Spot; omega
  have hB1 : B ≤ w1.heap.size := Nat.le_trans hB hb1.size
  have hx1 := hx.below hb1
  have ht1 := ht.below hb1
  have hbB1 : Below B w w1 := hb1.mono hB
  have hpdB : B ≤ pd := by rw [hpd]; exact hB
  obtain ⟨j, jq, hjq, hboth0, ha, hb, hpj, hrj, hkd, hnx, hlen⟩ := h
  replace ha := ha.kept (hb1.block _ ha.lt)
  replace hb : BB w1 bb d a c _ _ := Blk.kept hb (hb1.block _ (Blk.lt hb))
  replace hpj := hpj.kept (hb1.block _ hpj.lt)
  replace hrj := hrj.kept (hb1.block _ hrj.lt)
  have hpdK : ∀ k, (k = a ∨ k = bb ∨ k = j ∨ k = jq) → k ≠ pd := fun k hk e => by
    rcases hk with rfl | rfl | rfl | rfl
    · exact Blk.ne ha hD (by decide) e
    · exact Blk.ne hb hD (by decide) e
    · exact hpj.ne hD (by decide) e.symm
    · exact Blk.ne hrj hD (by decide) e
  obtain ⟨F, G, hF, hG, hFG, hFB, hGB, hK, hpdF, hpdG⟩ : ∃ F G, PD F w1 d S ∧ RD G w1 c S ∧ (∀ k, F k → ¬ G k) ∧ (∀ k, F k → B ≤ k) ∧ (∀ k, G k → B ≤ k) ∧ (∀ k, (k = a ∨ k = bb ∨ k = j ∨ k = jq) → ¬ F k ∧ ¬ G k ∧ B ≤ k ∧ k < w1.heap.size) ∧ ¬ F pd ∧ ¬ G pd := by
    obtain ⟨F, G, g1, g2, g3, g4, g5, g6⟩ := hboth0
    exact ⟨F, G, g1.only (Only.of_below (F := Nothing) hb1) (fun _ _ hk => hk), g2.only (Only.of_below (F := Nothing) hb1) (fun _ _ hk => hk), g3, g4, g5, fun k hk => ⟨(g6 k hk).1, (g6 k hk).2.1, (g6 k hk).2.2.1, Nat.lt_of_lt_of_le (g6 k hk).2.2.2 hb1.size⟩, fun hk => by have := g1.fin hk; omega, fun hk => by have := g2.fin hk; omega⟩
  have hTF := hTB.mono hFB
  have hTG := hTB.mono hGB
  have haF := (hK a (Or.inl rfl)).1
  have hjF := (hK j (Or.inr (Or.inr (Or.inl rfl)))).1
  have hqG := (hK jq (Or.inr (Or.inr (Or.inr rfl)))).2.1
  have hbK := hK bb (Or.inr (Or.inl rfl))
  have hbj : bb ≠ j := hpj.ne hb (by decide)
  have hbq : bb ≠ jq := Blk.ne hb hrj (by decide)
  have haj : a ≠ j := hpj.ne ha (by decide)
  have haq : a ≠ jq := Blk.ne ha hrj (by decide)
  have hc0 := Blk.cell hb (i := 0) rfl
  have hc2 := Blk.cell hb (i := 2) rfl
  have hc3 := Blk.cell hb (i := 3) rfl
  have hc4 := Blk.cell hb (i := 4) rfl
  have he0 := hD.cell (i := 0) rfl
  have he1 := hD.cell (i := 1) rfl
  have he2 := hD.cell (i := 2) rfl
  have Hw1 := Lib.hid hw1
  have Hpd := Lib.hid hpd
  clear hw1 hpd
  have hd0 : PD F w1.drew d S := hF.drew
  have hxF : ∀ ad, A = some ad → 0 < q → ¬ F ad.block := fun ad e h0 hk => by have := hA ad e h0; have := hFB _ hk; omega
  have hxG : ∀ ad, A = some ad → 0 < q → ¬ G ad.block := fun ad e h0 hk => by have := hA ad e h0; have := hGB _ hk; omega
  obtain ⟨S1, hS1⟩ : ∃ S1, S1 = S.crashed xs := ⟨_, rfl⟩
  have Hone := Lib.hid (show Calls Tryd.prog 22 #[.pointer (some ⟨d, 0, none⟩), .slice A q cc] w1.drew fun e w' => e = .returned (.tuple #[]) ∧ PD (More F w1.drew w') w' d S1 ∧ Only F w1.drew w' by rw [hS1]; exact dcrash_is F w1.drew d S hd0 A q cc xs (hx1.below (Below.refl _ _).drew) hxb hq hxF)
  have Htwo := Lib.hid (fun (w2 : World) (h2 : RD G w2 c S) (hx2 : Sl w2 A q (u8s xs)) => show Calls Tryd.prog 45 #[.pointer (some ⟨c, 0, none⟩), .slice A q cc] w2 fun e w' => e = .returned (.tuple #[]) ∧ RD (More G w2 w') w' c S1 ∧ Only G w2 w' by rw [hS1]; exact rcrash_is G w2 c S A q cc xs h2 hx2 hxb hq hxG)
  have hw' : S1.waits = [] := by rw [hS1]; rfl
  have hk' : S1.kept.length = S.kept.length := by rw [hS1]; exact (crashTo_same S xs S.waits.length).2
  clear hS1
  have hcq : w1.cell? ⟨bb, 0, none⟩ = some (.pointer (some ⟨d, 0, none⟩)) ∧ w1.cell? ⟨pd, 2, none⟩ = some (.slice A q cc) := ⟨hc0, he2⟩
  go_enter Tryd.func16, Tryd.ntmps16
  go_upto_region 1 with fail
  rw [← Hw1.out, ← Hpd.out]
  go_upto_region 16 with fail
  go_region_held3 (fun w' => w'.cell? ⟨bb, 0, none⟩ = some (.pointer (some ⟨d, 0, none⟩)) ∧ w'.cell? ⟨pd, 2, none⟩ = some (.slice A q cc))
    (first | exact hcq | exact hcr)
    (first
      | (go_at_call 22; refine Hone.out.mono ?_; rintro e w2 ⟨rfl, hF2, o2x⟩;
         have o2 := o2x.undrew;
         have hb2 : BB w2 bb d a c (.pointer (some ⟨j, 0, none⟩)) (.pointer (some ⟨jq, 0, none⟩)) := Blk.kept hb (o2.block bb hbK.2.2.2 hbK.1);
         have hD2 := o2.blk hD hpdF;
         have hcr : w2.cell? ⟨bb, 0, none⟩ = some (.pointer (some ⟨d, 0, none⟩)) ∧ w2.cell? ⟨pd, 2, none⟩ = some (.slice A q cc) := ⟨Blk.cell hb2 (i := 0) rfl, hD2.cell (i := 2) rfl⟩))
  have hF2' : PD (More F w1 w2) w2 d S1 := hF2
  have hG2 := hG.only o2 (fun k hk h => hFG k h hk)
  have hG2d : RD G w2.drew c S := hG2.keep (Nat.le_refl _) (fun _ _ => rfl)
  have hx2 : Sl w2 A q (u8s xs) := hx1.only o2 hxF
  have Htwo' := Lib.hid (Htwo.out w2.drew hG2d (hx2.below (Below.refl _ _).drew))
  have hcq2 : w2.cell? ⟨bb, 3, none⟩ = some (.pointer (some ⟨c, 0, none⟩)) ∧ w2.cell? ⟨pd, 2, none⟩ = some (.slice A q cc) := ⟨Blk.cell hb2 (i := 3) rfl, hD2.cell (i := 2) rfl⟩
  clear hcq hcr hd0 Hone Htwo o2x hF2
  go_upto_region 17 with fail
  go_region_held3 (fun w' => w'.cell? ⟨bb, 3, none⟩ = some (.pointer (some ⟨c, 0, none⟩)) ∧ w'.cell? ⟨pd, 2, none⟩ = some (.slice A q cc))
    (first | exact hcq2 | exact hcr2)
    (first
      | (go_at_call 45; refine Htwo'.out.mono ?_; rintro e w3 ⟨rfl, hG3x, o3x⟩;
         have o3 := o3x.undrew;
         have hb3 : BB w3 bb d a c (.pointer (some ⟨j, 0, none⟩)) (.pointer (some ⟨jq, 0, none⟩)) := Blk.kept hb2 (o3.block bb (Blk.lt hb2) hbK.2.1);
         have hD3 := o3.blk hD2 hpdG;
         have hcr2 : w3.cell? ⟨bb, 3, none⟩ = some (.pointer (some ⟨c, 0, none⟩)) ∧ w3.cell? ⟨pd, 2, none⟩ = some (.slice A q cc) := ⟨Blk.cell hb3 (i := 3) rfl, hD3.cell (i := 2) rfl⟩))
  have hG3 : RD (More G w2 w3) w3 c S1 := hG3x
  obtain ⟨⟨hF3, hFG3, hFB3, hGB3, hK3⟩, hbw, hkp⟩ := bothK_step (X1 := Nothing) (X2 := Nothing) hF hG hFG hFB hGB hK hB1 (fun k e => e.elim) (fun k e => e.elim) hF2' more_new (o2.mono (fun _ _ hk => Or.inl hk)) hG3 more_new (o3.mono (fun _ _ hk => Or.inl hk))
  have ha3 := ha.kept (hkp a (Or.inl rfl) (fun h => h) (fun h => h))
  have hpj3 := hpj.kept (hkp j (Or.inr (Or.inr (Or.inl rfl))) (fun h => h) (fun h => h))
  have hrj3 := hrj.kept (hkp jq (Or.inr (Or.inr (Or.inr rfl))) (fun h => h) (fun h => h))
  have hB3 : B ≤ w3.heap.size := Nat.le_trans hB1 hbw.size
  obtain ⟨r, hr⟩ : ∃ r, r = S1.jOpen 1 8 kd := ⟨_, rfl⟩
  have Hop := Lib.hid (bothj_open B (fun k => k = a ∨ k = bb ∨ k = j ∨ k = jq) w3 bb d a c S1 _ _ ⟨_, _, hF3, hG3, hFG3, hFB3, hGB3, hK3⟩ (Or.inl rfl) (Or.inr (Or.inl rfl)) ha3 hb3 (by rw [hk']; exact hlen) hB3 (ht1.only (show Only (fun k => B ≤ k) w1 w3 from ⟨hbw.os, hbw.tape, hbw.output, hbw.size, fun k _ hk => hbw.block k (Nat.lt_of_not_le hk)⟩) hTB) hTB kd (by omega) (by rw [hw']; simp) r hr)
  have hwb := hbB1.trans hbw
  have hc43 := Blk.cell hb3 (i := 4) rfl
  have hk33 := Blk.cell hrj3 (i := 3) rfl
  have hfin := Lib.hid (fun (w4 : World) (hop : OpenPost B (fun k => k = a ∨ k = bb ∨ k = j ∨ k = jq) w3 bb d a c (.pointer (some ⟨j, 0, none⟩)) (.pointer (some ⟨jq, 0, none⟩)) kd r w4) => show ∃ S' kd' next', JInv B w4 bb d a c S' kd' next' ∧ Below B w w4 ∧ S'.waits.length ≤ S.waits.length + 8 by
    obtain ⟨S', kd', next', g1, g2, g3⟩ := hop.inv hr hjq hpj3 hrj3 hkd hnx (by rw [hk']; exact hlen)
    exact ⟨S', kd', next', g1, hwb.trans g2, by rw [hw'] at g3; simp at g3; omega⟩)
  clear hr hF3 hG3 hFG3 hFB3 hGB3 hK3 hbw hkp hF2' hcq2 hcr2 Htwo' hG2 hG2d o2 o3 o3x hD3 hb2 hD2 hx2 hG3x ha3 hpj3
  go_wp2_with fail
  refine Hop.out.mono ?_
  rintro e w4 ⟨rfl, hop⟩
  go_wp2_with fail
  go_ret
  exact ⟨rfl, hfin.out w4 hop⟩
end Go.Proofs.YteliebinhdphlaaDoor

/- One of stage 9: it is opened; nothing. -/
namespace Go.Proofs.YteliebinhdphlaaDoor
set_option maxRecDepth 100000
open Go.RowKit Go.Deep
set_option linter.unusedSimpArgs false
set_option linter.unusedVariables false

set_option maxHeartbeats 6400000 in
theorem onej_open (B : Nat) (w : World) (bb d a c : Nat) (S : DS) (kd : Int) (next : Nat) (h : JInv B w bb d a c S kd next) (hB : B ≤ w.heap.size) (ht : Tabs w) (hTB : NoTabs (fun k => B ≤ k)) (n : Int) (hn : -9223372036854775808 ≤ n ∧ n ≤ 9223372036854775807)
    (A : Option Addr) (q cc : Nat) (xs : List Int) (hx : Sl w A q (u8s xs)) (hxb : ∀ x ∈ xs, 0 ≤ x ∧ x < 256) (hq : q ≤ 9223372036854775807) (hA : ∀ ad, A = some ad → 0 < q → ad.block < B) (hmany : S.waits.length ≤ 90000) :
    Calls Tryd.prog 16 #[.pointer (some ⟨bb, 0, none⟩), .agg #[.int .i64 6, .int .i64 n, .slice A q cc]] w (OnePostJ B w bb d a c S) := by
  obtain ⟨pd, hpd⟩ : ∃ pd, pd = w.heap.size := ⟨_, rfl⟩
  obtain ⟨w1, hw1⟩ : ∃ w1, w1 = w.alloc (.cells #[.int .i64 6, .int .i64 n, .slice A q cc] 47) := ⟨_, rfl⟩
  have hb1 : Below w.heap.size w w1 := by rw [hw1]; exact below_alloc _ _
  have hD : Blk w1 pd 47 [.int .i64 6, .int .i64 n, .slice A q cc] := by rw [hw1, hpd]; exact Blk.new _ _ _
  have hs : Spot ((1 : Nat) : Int) ((8 : Nat) : Int) := by unfold Spot; omega
  have hB1 : B ≤ w1.heap.size := Nat.le_trans hB hb1.size
  have hx1 := hx.below hb1
  have ht1 := ht.below hb1
  have hbB1 : Below B w w1 := hb1.mono hB
  have hpdB : B ≤ pd := by rw [hpd]; exact hB
  obtain ⟨j, jq, hjq, hboth0, ha, hb, hpj, hrj, hkd, hnx, hlen⟩ := h
  replace ha := ha.kept (hb1.block _ ha.lt)
  replace hb : BB w1 bb d a c _ _ := Blk.kept hb (hb1.block _ (Blk.lt hb))
  replace hpj := hpj.kept (hb1.block _ hpj.lt)
  replace hrj := hrj.kept (hb1.block _ hrj.lt)
  have hpdK : ∀ k, (k = a ∨ k = bb ∨ k = j ∨ k = jq) → k ≠ pd := fun k hk e => by
    rcases hk with rfl | rfl | rfl | rfl
    · exact Blk.ne ha hD (by decide) e
    · exact Blk.ne hb hD (by decide) e
    · exact hpj.ne hD (by decide) e.symm
    · exact Blk.ne hrj hD (by decide) e
  obtain ⟨F, G, hF, hG, hFG, hFB, hGB, hK, hpdF, hpdG⟩ : ∃ F G, PD F w1 d S ∧ RD G w1 c S ∧ (∀ k, F k → ¬ G k) ∧ (∀ k, F k → B ≤ k) ∧ (∀ k, G k → B ≤ k) ∧ (∀ k, (k = a ∨ k = bb ∨ k = j ∨ k = jq) → ¬ F k ∧ ¬ G k ∧ B ≤ k ∧ k < w1.heap.size) ∧ ¬ F pd ∧ ¬ G pd := by
    obtain ⟨F, G, g1, g2, g3, g4, g5, g6⟩ := hboth0
    exact ⟨F, G, g1.only (Only.of_below (F := Nothing) hb1) (fun _ _ hk => hk), g2.only (Only.of_below (F := Nothing) hb1) (fun _ _ hk => hk), g3, g4, g5, fun k hk => ⟨(g6 k hk).1, (g6 k hk).2.1, (g6 k hk).2.2.1, Nat.lt_of_lt_of_le (g6 k hk).2.2.2 hb1.size⟩, fun hk => by have := g1.fin hk; omega, fun hk => by have := g2.fin hk; omega⟩
  have hTF := hTB.mono hFB
  have hTG := hTB.mono hGB
  have haF := (hK a (Or.inl rfl)).1
  have hjF := (hK j (Or.inr (Or.inr (Or.inl rfl)))).1
  have hqG := (hK jq (Or.inr (Or.inr (Or.inr rfl)))).2.1
  have hbK := hK bb (Or.inr (Or.inl rfl))
  have hbj : bb ≠ j := hpj.ne hb (by decide)
  have hbq : bb ≠ jq := Blk.ne hb hrj (by decide)
  have haj : a ≠ j := hpj.ne ha (by decide)
  have haq : a ≠ jq := Blk.ne ha hrj (by decide)
  have hc0 := Blk.cell hb (i := 0) rfl
  have hc2 := Blk.cell hb (i := 2) rfl
  have hc3 := Blk.cell hb (i := 3) rfl
  have hc4 := Blk.cell hb (i := 4) rfl
  have he0 := hD.cell (i := 0) rfl
  have he1 := hD.cell (i := 1) rfl
  have he2 := hD.cell (i := 2) rfl
  have Hw1 := Lib.hid hw1
  have Hpd := Lib.hid hpd
  clear hw1 hpd
  obtain ⟨r, hr⟩ : ∃ r, r = S.jOpen 1 8 n := ⟨_, rfl⟩
  have Hop := Lib.hid (bothj_open B (fun k => k = a ∨ k = bb ∨ k = j ∨ k = jq) w1 bb d a c S _ _ ⟨F, G, hF, hG, hFG, hFB, hGB, hK⟩ (Or.inl rfl) (Or.inr (Or.inl rfl)) ha hb hlen hB1 ht1 hTB n hn (by omega) r hr)
  have hfin := Lib.hid (fun (w4 : World) (hop : OpenPost B (fun k => k = a ∨ k = bb ∨ k = j ∨ k = jq) w1 bb d a c (.pointer (some ⟨j, 0, none⟩)) (.pointer (some ⟨jq, 0, none⟩)) n r w4) => show ∃ S' kd' next', JInv B w4 bb d a c S' kd' next' ∧ Below B w w4 ∧ S'.waits.length ≤ S.waits.length + 8 by
    obtain ⟨S', kd', next', g1, g2, g3⟩ := hop.inv hr hjq hpj hrj hkd hnx hlen
    exact ⟨S', kd', next', g1, hbB1.trans g2, g3⟩)
  clear hr
  go_enter Tryd.func16, Tryd.ntmps16
  go_upto_region 1 with fail
  rw [← Hw1.out, ← Hpd.out]
  go_wp2_with fail
  refine Hop.out.mono ?_
  rintro e w4 ⟨rfl, hop⟩
  go_wp2_with fail
  go_ret
  exact ⟨rfl, hfin.out w4 hop⟩

set_option maxHeartbeats 6400000 in
theorem onej_other (B : Nat) (w : World) (bb d a c : Nat) (S : DS) (kd : Int) (next : Nat) (h : JInv B w bb d a c S kd next) (hB : B ≤ w.heap.size) (ht : Tabs w) (hTB : NoTabs (fun k => B ≤ k)) (kind : Int) (hkind : kind ≠ 1 ∧ kind ≠ 2 ∧ kind ≠ 3 ∧ kind ≠ 4 ∧ kind ≠ 5 ∧ kind ≠ 6) (n : Int) (hn : -9223372036854775808 ≤ n ∧ n ≤ 9223372036854775807)
    (A : Option Addr) (q cc : Nat) (xs : List Int) (hx : Sl w A q (u8s xs)) (hxb : ∀ x ∈ xs, 0 ≤ x ∧ x < 256) (hq : q ≤ 9223372036854775807) (hA : ∀ ad, A = some ad → 0 < q → ad.block < B) (hmany : S.waits.length ≤ 90000) :
    Calls Tryd.prog 16 #[.pointer (some ⟨bb, 0, none⟩), .agg #[.int .i64 kind, .int .i64 n, .slice A q cc]] w (OnePostJ B w bb d a c S) := by
  obtain ⟨pd, hpd⟩ : ∃ pd, pd = w.heap.size := ⟨_, rfl⟩
  obtain ⟨w1, hw1⟩ : ∃ w1, w1 = w.alloc (.cells #[.int .i64 kind, .int .i64 n, .slice A q cc] 47) := ⟨_, rfl⟩
  have hb1 : Below w.heap.size w w1 := by rw [hw1]; exact below_alloc _ _
  have hD : Blk w1 pd 47 [.int .i64 kind, .int .i64 n, .slice A q cc] := by rw [hw1, hpd]; exact Blk.new _ _ _
  have hs : Spot ((1 : Nat) : Int) ((8 : Nat) : Int) := by unfold Spot; omega
  have hB1 : B ≤ w1.heap.size := Nat.le_trans hB hb1.size
  have hx1 := hx.below hb1
  have ht1 := ht.below hb1
  have hbB1 : Below B w w1 := hb1.mono hB
  have hpdB : B ≤ pd := by rw [hpd]; exact hB
  obtain ⟨j, jq, hjq, hboth0, ha, hb, hpj, hrj, hkd, hnx, hlen⟩ := h
  replace ha := ha.kept (hb1.block _ ha.lt)
  replace hb : BB w1 bb d a c _ _ := Blk.kept hb (hb1.block _ (Blk.lt hb))
  replace hpj := hpj.kept (hb1.block _ hpj.lt)
  replace hrj := hrj.kept (hb1.block _ hrj.lt)
  have hpdK : ∀ k, (k = a ∨ k = bb ∨ k = j ∨ k = jq) → k ≠ pd := fun k hk e => by
    rcases hk with rfl | rfl | rfl | rfl
    · exact Blk.ne ha hD (by decide) e
    · exact Blk.ne hb hD (by decide) e
    · exact hpj.ne hD (by decide) e.symm
    · exact Blk.ne hrj hD (by decide) e
  obtain ⟨F, G, hF, hG, hFG, hFB, hGB, hK, hpdF, hpdG⟩ : ∃ F G, PD F w1 d S ∧ RD G w1 c S ∧ (∀ k, F k → ¬ G k) ∧ (∀ k, F k → B ≤ k) ∧ (∀ k, G k → B ≤ k) ∧ (∀ k, (k = a ∨ k = bb ∨ k = j ∨ k = jq) → ¬ F k ∧ ¬ G k ∧ B ≤ k ∧ k < w1.heap.size) ∧ ¬ F pd ∧ ¬ G pd := by
    obtain ⟨F, G, g1, g2, g3, g4, g5, g6⟩ := hboth0
    exact ⟨F, G, g1.only (Only.of_below (F := Nothing) hb1) (fun _ _ hk => hk), g2.only (Only.of_below (F := Nothing) hb1) (fun _ _ hk => hk), g3, g4, g5, fun k hk => ⟨(g6 k hk).1, (g6 k hk).2.1, (g6 k hk).2.2.1, Nat.lt_of_lt_of_le (g6 k hk).2.2.2 hb1.size⟩, fun hk => by have := g1.fin hk; omega, fun hk => by have := g2.fin hk; omega⟩
  have hTF := hTB.mono hFB
  have hTG := hTB.mono hGB
  have haF := (hK a (Or.inl rfl)).1
  have hjF := (hK j (Or.inr (Or.inr (Or.inl rfl)))).1
  have hqG := (hK jq (Or.inr (Or.inr (Or.inr rfl)))).2.1
  have hbK := hK bb (Or.inr (Or.inl rfl))
  have hbj : bb ≠ j := hpj.ne hb (by decide)
  have hbq : bb ≠ jq := Blk.ne hb hrj (by decide)
  have haj : a ≠ j := hpj.ne ha (by decide)
  have haq : a ≠ jq := Blk.ne ha hrj (by decide)
  have hc0 := Blk.cell hb (i := 0) rfl
  have hc2 := Blk.cell hb (i := 2) rfl
  have hc3 := Blk.cell hb (i := 3) rfl
  have hc4 := Blk.cell hb (i := 4) rfl
  have he0 := hD.cell (i := 0) rfl
  have he1 := hD.cell (i := 1) rfl
  have he2 := hD.cell (i := 2) rfl
  have Hw1 := Lib.hid hw1
  have Hpd := Lib.hid hpd
  clear hw1 hpd
  obtain ⟨k1, k2, k3, k4, k5, k6⟩ := hkind
  have k1 : (kind == 1) = false := by simpa using k1
  have k2 : (kind == 2) = false := by simpa using k2
  have k3 : (kind == 3) = false := by simpa using k3
  have k4 : (kind == 4) = false := by simpa using k4
  have k5 : (kind == 5) = false := by simpa using k5
  have k6 : (kind == 6) = false := by simpa using k6
  have hend := Lib.hid (show ∃ S' kd' next', JInv B w1 bb d a c S' kd' next' ∧ Below B w w1 ∧ S'.waits.length ≤ S.waits.length + 8 from
    ⟨S, kd, next, ⟨j, jq, hjq, ⟨F, G, hF, hG, hFG, hFB, hGB, hK⟩, ha, hb, hpj, hrj, hkd, hnx, hlen⟩, hbB1, by omega⟩)
  go_enter Tryd.func16, Tryd.ntmps16
  go_upto_region 1 with fail
  rw [← Hw1.out, ← Hpd.out]
  go_wp2_with fail
  go_ret
  exact ⟨rfl, hend.out⟩
end Go.Proofs.YteliebinhdphlaaDoor

/- What opening a journal does to a disk, plainly: where the power may go. -/
namespace Go.Proofs.YteliebinhdphlaaDoor
set_option maxRecDepth 100000
open Go.RowKit Go.Deep
set_option linter.unusedSimpArgs false
set_option linter.unusedVariables false

theorem goes_off {S : DS} (ho : S.off = false) (k : Nat) : (S.goes k).1.off = (S.goes k).2 := by
  unfold DS.goes; split
  · exact ho
  · rfl
theorem goes_cut {S : DS} (hc : S.cut = -1) (k : Nat) : (S.goes k).1.cut = -1 ∧ (S.goes k).2 = false := by rw [goes_on8 hc k]; exact ⟨hc, rfl⟩

/-- What a write does, with the power on, and room. -/
theorem write_on {S : DS} (ho : S.off = false) {q : Nat} (hq : q < S.kept.length) (hroom : (S.kept.length : Int) ≤ S.room) (bs : List Int) :
    ((S.writeOf (q : Int) bs).1 = 0 ∧ (S.writeOf (q : Int) bs).2.off = false ∨ (S.writeOf (q : Int) bs).1 = 50 ∧ (S.writeOf (q : Int) bs).2.off = true) ∧ (S.writeOf (q : Int) bs).2.waits = S.waits ++ [((q : Int), bs)] ∧ (S.writeOf (q : Int) bs).2.kept = S.kept ∧ (S.writeOf (q : Int) bs).2.room = S.room ∧ (S.cut = -1 → (S.writeOf (q : Int) bs).1 = 0 ∧ (S.writeOf (q : Int) bs).2.cut = -1) ∧ ∀ i, (S.writeOf (q : Int) bs).2.at_ i = if i = q then bs else S.at_ i := by
  have e : S.writeOf (q : Int) bs = (goneErr ((S.put q bs).goes 1).2, ((S.put q bs).goes 1).1) := by
    unfold DS.writeOf
    rw [if_neg (by rw [ho]; decide), if_neg (by omega), if_neg (fun hh => by have := used_lt hq hh.1; omega)]
    rfl
  rw [e]
  have hoff := goes_off (S := S.put q bs) ho 1
  obtain ⟨h1, h2, h3, h4⟩ := goes_len (S.put q bs) 1
  refine ⟨?_, h3, h1, h4, fun hc => ?_, fun i => by show ((S.put q bs).goes 1).1.at_ i = _; rw [goes_at, at_put]⟩
  · cases hg : ((S.put q bs).goes 1).2
    · exact Or.inl ⟨rfl, by rw [hoff, hg]⟩
    · exact Or.inr ⟨rfl, by rw [hoff, hg]⟩
  · obtain ⟨g1, g2⟩ := goes_cut (S := S.put q bs) hc 1
    exact ⟨by show goneErr _ = 0; rw [g2]; rfl, g1⟩
theorem arWrite_in (S : DS) {f m n : Nat} (hn : n < m) (bs : List Int) : S.arWrite f m n bs = S.writeOf ((f + n : Nat) : Int) bs := by
  unfold DS.arWrite
  rw [if_neg (by omega), show ((f : Int) + (n : Int)) = ((f + n : Nat) : Int) by omega]

theorem wipe_spec (f m : Nat) (row : Nat → List Int) : ∀ (k : Nat) (S : DS) (n c : Nat), n + k = m → S.off = false → f + m ≤ S.kept.length → (S.kept.length : Int) ≤ S.room →
    ((DS.wipeGo f m row S n k c).1 = 0 ∧ (DS.wipeGo f m row S n k c).2.2.off = false ∧ c ≤ (DS.wipeGo f m row S n k c).2.1 ∧ ((DS.wipeGo f m row S n k c).2.1 = c → (DS.wipeGo f m row S n k c).2.2 = S) ∧ (∀ i, n ≤ i → i < m → (DS.wipeGo f m row S n k c).2.2.at_ (f + i) = if row i = zeros128 then S.at_ (f + i) else zeros128) ∨
      (DS.wipeGo f m row S n k c).1 = 50 ∧ (DS.wipeGo f m row S n k c).2.2.off = true) ∧
    (∀ q, q < f + n ∨ f + m ≤ q → (DS.wipeGo f m row S n k c).2.2.at_ q = S.at_ q) ∧ (DS.wipeGo f m row S n k c).2.2.room = S.room ∧ (S.cut = -1 → (DS.wipeGo f m row S n k c).1 = 0 ∧ (DS.wipeGo f m row S n k c).2.2.cut = -1) ∧
    ∃ ws, (DS.wipeGo f m row S n k c).2.2.waits = S.waits ++ ws ∧ ∀ p ∈ ws, p.2 = zeros128 ∧ ∃ i : Nat, n ≤ i ∧ i < m ∧ p.1 = ((f + i : Nat) : Int)
  | 0, S, n, c, hk, ho, hin, hroom => ⟨Or.inl ⟨rfl, ho, Nat.le_refl _, fun _ => rfl, fun i h1 h2 => by omega⟩, fun q _ => rfl, rfl, fun hc => ⟨rfl, hc⟩, [], by simp [DS.wipeGo], fun p hp => by simp at hp⟩
  | k + 1, S, n, c, hk, ho, hin, hroom => by
    unfold DS.wipeGo
    by_cases hz : row n = zeros128
    · rw [if_pos hz]
      obtain ⟨h1, h2, h3, h4, ws, h5, h6⟩ := wipe_spec f m row k S (n + 1) c (by omega) ho hin hroom
      refine ⟨?_, fun q hq => h2 q (by omega), h3, h4, ws, h5, fun p hp => ?_⟩
      · rcases h1 with ⟨g1, g2, g3, g4, g5⟩ | h1
        · refine Or.inl ⟨g1, g2, g3, g4, fun i hi hm => ?_⟩
          by_cases e : i = n
          · subst e; rw [if_pos hz]; exact h2 (f + i) (by omega)
          · exact g5 i (by omega) hm
        · exact Or.inr h1
      · obtain ⟨g1, i, g2, g3, g4⟩ := h6 p hp
        exact ⟨g1, i, by omega, g3, g4⟩
    · rw [if_neg hz, arWrite_in S (by omega : n < m)]
      obtain ⟨w1, w2, w3, w4, w5, w6⟩ := write_on ho (by omega : f + n < S.kept.length) hroom zeros128
      rcases w1 with ⟨w0, woff⟩ | ⟨w0, woff⟩
      · rw [if_pos w0]
        obtain ⟨h1, h2, h3, h4, ws, h5, h6⟩ := wipe_spec f m row k (S.writeOf ((f + n : Nat) : Int) zeros128).2 (n + 1) (c + 1) (by omega) woff (by rw [w3]; exact hin) (by rw [w3, w4]; exact hroom)
        refine ⟨?_, fun q hq => ?_, h3.trans w4, fun hc => h4 (w5 hc).2, (((f + n : Nat) : Int), zeros128) :: ws, ?_, fun p hp => ?_⟩
        · rcases h1 with ⟨g1, g2, g3, g4, g5⟩ | h1
          · refine Or.inl ⟨g1, g2, by omega, fun e => by omega, fun i hi hm => ?_⟩
            by_cases e : i = n
            · subst e; rw [if_neg hz, h2 (f + i) (by omega), w6, if_pos rfl]
            · rw [g5 i (by omega) hm, w6, if_neg (show ¬ f + i = f + n by omega)]
          · exact Or.inr h1
        · rw [h2 q (by omega), w6, if_neg (by omega)]
        · rw [h5, w2, List.append_assoc]; rfl
        · rcases List.mem_cons.1 hp with rfl | hp
          · exact ⟨rfl, n, Nat.le_refl _, by omega, rfl⟩
          · obtain ⟨g1, i, g2, g3, g4⟩ := h6 p hp
            exact ⟨g1, i, by omega, g3, g4⟩
      · rw [if_neg (by rw [w0]; decide)]
        refine ⟨Or.inr ⟨w0, woff⟩, fun q hq => by show (S.writeOf ((f + n : Nat) : Int) zeros128).2.at_ q = _; rw [w6, if_neg (by omega)], w4, fun hc => by have := (w5 hc).1; rw [w0] at this; exact absurd this (by decide), [(((f + n : Nat) : Int), zeros128)], w2, fun p hp => ?_⟩
        rcases List.mem_cons.1 hp with rfl | hp
        · exact ⟨rfl, n, Nat.le_refl _, by omega, rfl⟩
        · simp at hp

/-- What a flush does, with the power on. -/
theorem flush_on {S : DS} (ho : S.off = false) (hp : ∀ p ∈ S.waits, 0 ≤ p.1) :
    (S.flushOf.1 = 0 ∧ S.flushOf.2.off = false ∧ S.flushOf.2.waits = [] ∧ (∀ q, q < S.kept.length → S.flushOf.2.at_ q = S.at_ q) ∨ S.flushOf.1 = 50 ∧ S.flushOf.2.off = true ∧ S.flushOf.2.waits = S.waits ∧ S.flushOf.2.kept = S.kept) ∧ S.flushOf.2.room = S.room ∧ (S.cut = -1 → S.flushOf.1 = 0 ∧ S.flushOf.2.cut = -1) := by
  have hoff := goes_off ho 2
  obtain ⟨h1, h2, h3, h4⟩ := goes_len S 2
  unfold DS.flushOf
  rw [if_neg (by rw [ho]; decide)]
  cases hg : (S.goes 2).2
  · rw [if_neg (by decide)]
    refine ⟨Or.inl ⟨rfl, by show (S.goes 2).1.off = false; rw [hoff, hg], rfl, fun q hq => ?_⟩, h4, fun hc => ⟨rfl, (goes_cut hc 2).1⟩⟩
    show (S.goes 2).1.flushed.at_ q = _
    rw [at_flushed (by rw [h3]; exact hp) (by rw [h1]; exact hq), goes_at]
  · rw [if_pos rfl]
    exact ⟨Or.inr ⟨rfl, by show (S.goes 2).1.off = true; rw [hoff, hg], h3, h1⟩, h4, fun hc => by have := (goes_cut hc 2).2; rw [hg] at this; cases this⟩

/-- What opening does, with the power on, and nothing that waits. -/
theorem jopen_on {S : DS} {f m : Nat} {kind : Int} (hk : 1 ≤ kind ∧ kind ≤ 255) (ho : S.off = false) (hw : S.waits = []) (hin : f + m ≤ S.kept.length) (hroom : (S.kept.length : Int) ≤ S.room) :
    ((S.jOpen f m kind).1 = 0 ∧ (S.jOpen f m kind).2.1 = jNext kind m (S.rowAt f) ∧ (S.jOpen f m kind).2.2.off = false ∧ (S.jOpen f m kind).2.2.waits = [] ∧ (∀ i, i < m → (S.jOpen f m kind).2.2.at_ (f + i) = if i < jNext kind m (S.rowAt f) then S.at_ (f + i) else zeros128) ∨
      (S.jOpen f m kind).1 = 50 ∧ (S.jOpen f m kind).2.2.kept = S.kept ∧ ∀ p ∈ (S.jOpen f m kind).2.2.waits, p.2 = zeros128 ∧ ∃ i : Nat, jNext kind m (S.rowAt f) ≤ i ∧ i < m ∧ p.1 = ((f + i : Nat) : Int)) ∧
    (S.jOpen f m kind).2.2.room = S.room ∧ (S.cut = -1 → (S.jOpen f m kind).1 = 0 ∧ (S.jOpen f m kind).2.2.cut = -1) := by
  obtain ⟨r1, r2, r3, r4, r5, r6⟩ := reads_same S m
  obtain ⟨k, hkk⟩ : ∃ k, k = jNext kind m (S.rowAt f) := ⟨_, rfl⟩
  have hkm : k ≤ m := by rw [hkk]; exact (jNext_spec kind m (S.rowAt f)).1
  obtain ⟨h1, h2, h3, h4, ws, h5, h6⟩ := wipe_spec f m (S.rowAt f) (m - k) (S.reads m) k 0 (by omega) (by rw [r6]; exact ho) (by rw [r1]; exact hin) (by rw [r1, r4]; exact hroom)
  have hW : S.jWiped f m kind = DS.wipeGo f m (S.rowAt f) (S.reads m) k (m - k) 0 := by unfold DS.jWiped; rw [← hkk]
  have hkept := (jWiped_same S f m kind).2
  rw [hW] at hkept
  obtain ⟨R, hR⟩ : ∃ R, R = DS.wipeGo f m (S.rowAt f) (S.reads m) k (m - k) 0 := ⟨_, rfl⟩
  rw [← hR] at h1 h2 h3 h4 h5 hkept hW
  rw [r3, hw, List.nil_append] at h5
  have hat : ∀ i, i < m → R.1 = 0 → R.2.2.at_ (f + i) = if i < k then S.at_ (f + i) else zeros128 := by
    intro i hi h0
    rcases h1 with ⟨g1, g2, g3, g4, g5⟩ | ⟨g1, _⟩
    · by_cases hik : i < k
      · rw [if_pos hik, h2 (f + i) (by omega), reads_at]
      · rw [if_neg hik, g5 i (by omega) hi]
        split
        · next e => rw [reads_at]; exact e
        · rfl
    · rw [h0] at g1; exact absurd g1 (by decide)
  unfold DS.jOpen
  rw [if_neg (by omega), if_neg (by rw [ho]; decide), hW, ← hkk]
  by_cases h0 : R.1 = 0
  · rw [if_neg (by simp [h0])]
    rcases h1 with ⟨g1, g2, g3, g4, g5⟩ | ⟨g1, _⟩
    · by_cases hc0 : R.2.1 = 0
      · rw [if_pos hc0]
        have hS := g4 hc0
        refine ⟨Or.inl ⟨rfl, rfl, g2, ?_, fun i hi => hat i hi h0⟩, h3.trans r4, fun hc => ⟨rfl, (h4 (by rw [r5]; exact hc)).2⟩⟩
        show R.2.2.waits = []
        rw [hS, r3, hw]
      · rw [if_neg hc0]
        obtain ⟨f1, f2, f3⟩ := flush_on g2 (fun p hp => by
          rw [h5] at hp
          obtain ⟨_, i, _, _, e⟩ := h6 p hp
          rw [e]; omega)
        rcases f1 with ⟨e1, e2, e3, e4⟩ | ⟨e1, e2, e3, e4⟩
        · rw [if_neg (by simp [e1])]
          exact ⟨Or.inl ⟨rfl, rfl, e2, e3, fun i hi => by
            show R.2.2.flushOf.2.at_ (f + i) = _
            rw [e4 (f + i) (by rw [hkept]; omega)]; exact hat i hi h0⟩, f2.trans (h3.trans r4), fun hc => ⟨rfl, (f3 (h4 (by rw [r5]; exact hc)).2).2⟩⟩
        · rw [if_pos (by rw [e1]; decide)]
          exact ⟨Or.inr ⟨e1, e4.trans hkept, fun p hp => h6 p (by rw [← h5, ← e3]; exact hp)⟩, f2.trans (h3.trans r4), fun hc => by have := (f3 (h4 (by rw [r5]; exact hc)).2).1; rw [e1] at this; exact absurd this (by decide)⟩
    · rw [h0] at g1; exact absurd g1 (by decide)
  · rw [if_pos h0]
    rcases h1 with ⟨g1, _⟩ | ⟨g1, _⟩
    · exact absurd g1 h0
    · exact ⟨Or.inr ⟨g1, hkept, fun p hp => h6 p (by rw [← h5]; exact hp)⟩, h3.trans r4, fun hc => by have := (h4 (by rw [r5]; exact hc)).1; rw [g1] at this; exact absurd this (by decide)⟩

/-- Where all sectors behind the records are blank, nothing is wiped. -/
theorem wipeGo_blank (f m : Nat) (row : Nat → List Int) : ∀ (k : Nat) (S : DS) (n c : Nat), (∀ i, n ≤ i → i < n + k → row i = zeros128) → DS.wipeGo f m row S n k c = (0, c, S)
  | 0, S, n, c, _ => rfl
  | k + 1, S, n, c, h => by
    unfold DS.wipeGo
    rw [if_pos (h n (Nat.le_refl _) (by omega))]
    exact wipeGo_blank f m row k S (n + 1) c (fun i h1 h2 => h i (by omega) (by omega))
theorem jopen_blank {S : DS} {f m : Nat} {kind : Int} (hk : 1 ≤ kind ∧ kind ≤ 255) (ho : S.off = false) (hb : ∀ i, jNext kind m (S.rowAt f) ≤ i → i < m → S.at_ (f + i) = zeros128) : S.jOpen f m kind = (0, jNext kind m (S.rowAt f), S.reads m) := by
  have hW : S.jWiped f m kind = (0, 0, S.reads m) := by
    unfold DS.jWiped
    exact wipeGo_blank f m (S.rowAt f) _ _ _ _ (fun i h1 h2 => hb i h1 (by have := (jNext_spec kind m (S.rowAt f)).1; omega))
  unfold DS.jOpen
  rw [if_neg (by omega), if_neg (by rw [ho]; decide), hW]
  rfl
/-- A row that begins with a nought is no record, nor is one that doesn't end with the mark. -/
theorem isRec_nought {kind : Int} {r : List Int} {n : Nat} (hb : Bytes r) (hk : 1 ≤ kind) (h : r[0]? = some 0) : isRec kind r n = false := by
  refine isRec_false.2 (Or.inl fun h0 => ?_)
  rcases openOf_says hb kind with ⟨_, hs⟩ | ⟨e, _⟩
  · have := sealed_0 kind (openOf r kind).1 (openOf r kind).2.1
    rw [← hs.1, h] at this
    injection this with this
    omega
  · rw [h0] at e; exact absurd e (by decide)
theorem isRec_unmarked {kind : Int} {r : List Int} {n : Nat} (hb : Bytes r) (h : r[127]? ≠ some 215) : isRec kind r n = false := by
  refine isRec_false.2 (Or.inl ?_)
  rw [(openOf_says hb kind).torn h]
  decide
theorem zeros_rec {kind : Int} {n : Nat} (hk : 1 ≤ kind) : isRec kind zeros128 n = false := isRec_nought zeros_byte.2 hk (by simp [zeros128])
theorem at_kept {S : DS} (h : S.waits = []) (q : Nat) : S.at_ q = S.kept.getD q [] := by unfold DS.at_; rw [h]; rfl
end Go.Proofs.YteliebinhdphlaaDoor

/- A journal over crashes, plainly: what was flushed is there, and of what was added behind it some first ones. -/
namespace Go.Proofs.YteliebinhdphlaaDoor
set_option maxRecDepth 100000
open Go.RowKit Go.Deep
set_option linter.unusedSimpArgs false
set_option linter.unusedVariables false

theorem openOf_sealed {kind : Int} {i : Nat} {l : List Int} (hk : 1 ≤ kind ∧ kind ≤ 255) (hi : i ≤ 9223372036854775807) (hl : l.length ≤ 113) (hb : Bytes l) : openOf (sealed kind i l) kind = ((i : Int), l, 0) := by
  have h := openOf_says (sealed_bytes (n := (i : Int)) hk hl hb) kind
  have h2 : OpenSays (sealed kind i l) kind i l 0 := Or.inl ⟨rfl, rfl, hk.1, hk.2, by omega, by omega, hl, hb⟩
  obtain ⟨e1, e2, e3⟩ := h.one h2
  exact Prod.ext e1 (Prod.ext e2 e3)
theorem sealed_rec {kind : Int} {i : Nat} {l : List Int} (hk : 1 ≤ kind ∧ kind ≤ 255) (hi : i ≤ 9223372036854775807) (hl : l.length ≤ 113) (hb : Bytes l) : isRec kind (sealed kind i l) i = true :=
  isRec_true.2 (by rw [openOf_sealed hk hi hl hb]; exact ⟨rfl, rfl⟩)
theorem rec_nought {kind : Int} {r : List Int} {n : Nat} (hk : 1 ≤ kind) (h : r[0]? = some 0) : isRec kind r n = false := by
  refine isRec_false.2 (Or.inl ?_)
  unfold openOf
  rw [if_neg (fun hc => by
    have h2 := sealed_0 kind (getVal ((r.drop 1).take 8)) ((r.drop 10).take (r.getD 9 0).toNat)
    rw [← hc.1, h] at h2
    injection h2 with h2
    omega)]
  simp
theorem rec_unmarked {kind : Int} {r : List Int} {n : Nat} (h : r[127]? ≠ some 215) : isRec kind r n = false := by
  refine isRec_false.2 (Or.inl ?_)
  unfold openOf
  rw [if_neg (fun hc => by
    have h2 := sealed_127 kind (getVal ((r.drop 1).take 8)) hc.2.2.2.2
    rw [← hc.1] at h2
    exact h h2)]
  simp

theorem torn_127 {a : List Int} {c : Nat} (ha : a.length = 128) (hc : c < 128) : (a.take c ++ zeros128.drop c)[127]? = some 0 := by
  rw [List.getElem?_append_right (by rw [List.length_take]; omega), List.length_take, ha, show min c 128 = c by omega, List.getElem?_drop, show c + (127 - c) = 127 by omega]
  simp [zeros128]
/-- Between an opening and a crash: what was flushed is kept; what was added behind it waits; all else is blank. -/
structure Good (S : DS) (all : List (List Int)) (s : Nat) : Prop where
  len : S.kept.length = 10
  room : S.room = 10
  many : all.length ≤ 8
  le : s ≤ all.length
  loads : ∀ l ∈ all, l.length ≤ 113 ∧ Bytes l
  sure : ∀ (i : Nat) (l : List Int), i < s → all[i]? = some l → S.kept.getD (1 + i) [] = sealed 3 i l
  blank : ∀ i, s ≤ i → i < 8 → S.kept.getD (1 + i) [] = zeros128
  wlen : S.waits.length = all.length - s
  waits : ∀ (i : Nat) (l : List Int), s ≤ i → all[i]? = some l → S.waits[i - s]? = some (((1 + i : Nat) : Int), sealed 3 i l)
  at1 : ∀ (i : Nat) (l : List Int), all[i]? = some l → S.at_ (1 + i) = sealed 3 i l
  at2 : ∀ i, all.length ≤ i → i < 8 → S.at_ (1 + i) = zeros128
/-- Behind a crash: k records are there. -/
structure Pre (T : DS) (all : List (List Int)) (s k : Nat) : Prop where
  len : T.kept.length = 10
  room : T.room = 10
  off : T.off = false
  nowaits : T.waits = []
  many : all.length ≤ 8
  le1 : s ≤ k
  le2 : k ≤ all.length
  loads : ∀ l ∈ all, l.length ≤ 113 ∧ Bytes l
  rows : ∀ (i : Nat) (l : List Int), i < k → all[i]? = some l → T.kept.getD (1 + i) [] = sealed 3 i l
  stop : k < 8 → isRec 3 (T.kept.getD (1 + k) []) k = false

theorem Good.cut {S : DS} {all : List (List Int)} {s : Nat} (h : Good S all s) (n : Int) : Good { S with cut := n } all s := ⟨h.len, h.room, h.many, h.le, h.loads, h.sure, h.blank, h.wlen, h.waits, h.at1, h.at2⟩
theorem Pre.cut {S : DS} {all : List (List Int)} {s k : Nat} (h : Pre S all s k) (n : Int) : Pre { S with cut := n } all s k := ⟨h.len, h.room, h.off, h.nowaits, h.many, h.le1, h.le2, h.loads, h.rows, h.stop⟩
theorem getElem_of {l : List (List Int)} {i : Nat} (h : i < l.length) : ∃ x, l[i]? = some x := ⟨_, List.getElem?_eq_getElem h⟩
theorem Pre.next {T : DS} {all : List (List Int)} {s k : Nat} (h : Pre T all s k) : jNext 3 8 (T.rowAt 1) = k := by
  refine jNext_one (Nat.le_trans h.le2 h.many) (fun i hi => ?_) (fun hk => ?_)
  · obtain ⟨l, hl⟩ := getElem_of (Nat.lt_of_lt_of_le hi h.le2)
    have hL := h.loads l (List.mem_of_getElem? hl)
    show isRec 3 (T.at_ (1 + i)) i = true
    rw [at_kept h.nowaits, h.rows i l hi hl]
    exact sealed_rec (by decide) (by have := h.le2; have := h.many; omega) hL.1 hL.2
  · show isRec 3 (T.at_ (1 + k)) k = false
    rw [at_kept h.nowaits]; exact h.stop hk

/-- A record is added, with the power on. -/
theorem Good.add {S : DS} {all : List (List Int)} {s : Nat} (h : Good S all s) (ho : S.off = false) (load : List Int) (hb : Bytes load) :
    ((113 < load.length ∨ 8 ≤ all.length) ∧ (S.jAdd 1 8 3 all.length load).2.1 ≠ 0 ∧ (S.jAdd 1 8 3 all.length load).2.1 ≠ 50 ∧ (S.jAdd 1 8 3 all.length load).2.2.1 = all.length ∧ (S.jAdd 1 8 3 all.length load).2.2.2 = S) ∨
    ((S.cut = -1 → (S.jAdd 1 8 3 all.length load).2.2.2.cut = -1) ∧ (S.jAdd 1 8 3 all.length load).1 = (all.length : Int) ∧ (S.jAdd 1 8 3 all.length load).2.1 = 0 ∧ (S.jAdd 1 8 3 all.length load).2.2.1 = all.length + 1 ∧ (S.jAdd 1 8 3 all.length load).2.2.2.off = false ∧ Good (S.jAdd 1 8 3 all.length load).2.2.2 (all ++ [load]) s) ∨
    (S.cut ≠ -1 ∧ (S.jAdd 1 8 3 all.length load).2.1 = 50 ∧ (S.jAdd 1 8 3 all.length load).2.2.1 ≤ 8 ∧ (S.jAdd 1 8 3 all.length load).2.2.2.off = true ∧ Good (S.jAdd 1 8 3 all.length load).2.2.2 (all ++ [load]) s) := by
  unfold DS.jAdd
  by_cases h1 : 113 < load.length
  · rw [if_pos h1]; exact Or.inl ⟨Or.inl h1, by simp, by simp, rfl, rfl⟩
  rw [if_neg h1]
  by_cases h2 : 8 ≤ all.length
  · rw [if_pos h2]; exact Or.inl ⟨Or.inr h2, by simp, by simp, rfl, rfl⟩
  rw [if_neg h2]
  have e0 : makeErr 3 (all.length : Int) load.length = 0 := makeErr_zero.2 ⟨by decide, by decide, by omega, by omega⟩
  have eP : S.arPut ((1 : Nat) : Int) ((8 : Nat) : Int) (all.length : Int) 3 (all.length : Int) load = S.writeOf ((1 + all.length : Nat) : Int) (sealed 3 all.length load) := by
    unfold DS.arPut
    rw [if_pos e0, arWrite_in S (by omega : all.length < 8)]
  rw [eP]
  obtain ⟨w1, w2, w3, w4, w5, w6⟩ := write_on ho (by rw [h.len]; omega : 1 + all.length < S.kept.length) (by rw [h.len, h.room]; decide) (sealed 3 all.length load)
  have hg : Good (S.writeOf ((1 + all.length : Nat) : Int) (sealed 3 all.length load)).2 (all ++ [load]) s := by
    have hlast : ∀ (i : Nat) (l : List Int), (all ++ [load])[i]? = some l → (i < all.length ∧ all[i]? = some l) ∨ (i = all.length ∧ l = load) := by
      intro i l hl
      by_cases hi : i < all.length
      · rw [List.getElem?_append_left hi] at hl; exact Or.inl ⟨hi, hl⟩
      · rw [List.getElem?_append_right (by omega)] at hl
        have := (List.getElem?_eq_some_iff.1 hl).1
        simp at this
        have e : i = all.length := by omega
        subst e
        simp at hl
        exact Or.inr ⟨rfl, hl.symm⟩
    refine ⟨by rw [w3]; exact h.len, w4.trans h.room, by simp; omega, by simp; have := h.le; omega, fun l hl => ?_, fun i l hi hl => ?_, fun i h1 h2 => by rw [w3]; exact h.blank i h1 h2, by rw [w2]; simp [h.wlen]; have := h.le; omega, fun i l hi hl => ?_, fun i l hl => ?_, fun i h1 h2 => ?_⟩
    · rcases List.mem_append.1 hl with hl | hl
      · exact h.loads l hl
      · rw [List.mem_singleton.1 hl]; exact ⟨by omega, hb⟩
    · rcases hlast i l hl with ⟨_, hl⟩ | ⟨e, _⟩
      · rw [w3]; exact h.sure i l hi hl
      · have := h.le; omega
    · rcases hlast i l hl with ⟨hi2, hl⟩ | ⟨e, e2⟩
      · rw [w2, List.getElem?_append_left (by rw [h.wlen]; omega)]; exact h.waits i l hi hl
      · subst e e2
        rw [w2, List.getElem?_append_right (by rw [h.wlen]; exact Nat.le_refl _), h.wlen, Nat.sub_self]; rfl
    · rw [w6]
      rcases hlast i l hl with ⟨hi2, hl⟩ | ⟨e, e2⟩
      · rw [if_neg (by omega)]; exact h.at1 i l hl
      · subst e e2; rw [if_pos rfl]
    · simp at h1
      rw [w6, if_neg (by omega)]; exact h.at2 i (by omega) h2
  rcases w1 with ⟨g1, g2⟩ | ⟨g1, g2⟩
  · rw [if_neg (fun hne => hne g1)]
    exact Or.inr (Or.inl ⟨fun hc => (w5 hc).2, rfl, rfl, rfl, g2, hg⟩)
  · rw [if_pos (by rw [g1]; decide)]
    exact Or.inr (Or.inr ⟨fun hc => by have := (w5 hc).1; rw [g1] at this; exact absurd this (by decide), g1, by show all.length ≤ 8; omega, g2, hg⟩)

/-- All is flushed, with the power on. -/
theorem Good.flush {S : DS} {all : List (List Int)} {s : Nat} (h : Good S all s) (ho : S.off = false) (hp : ∀ p ∈ S.waits, 0 ≤ p.1) :
    ((S.cut = -1 → S.flushOf.2.cut = -1) ∧ S.flushOf.1 = 0 ∧ S.flushOf.2.off = false ∧ Good S.flushOf.2 all all.length) ∨ (S.cut ≠ -1 ∧ S.flushOf.1 = 50 ∧ S.flushOf.2.off = true ∧ Good S.flushOf.2 all s) := by
  obtain ⟨f1, f2, f3⟩ := flush_on ho hp
  have hl := flushOf_len S
  rcases f1 with ⟨g1, g2, g3, g4⟩ | ⟨g1, g2, g3, g4⟩
  · refine Or.inl ⟨fun hc => (f3 hc).2, g1, g2, by rw [hl]; exact h.len, f2.trans h.room, h.many, Nat.le_refl _, h.loads, fun i l hi hl => ?_, fun i h1 h2 => ?_, by rw [g3]; simp, fun i l hi hl => ?_, fun i l hl => ?_, fun i h1 h2 => ?_⟩
    · rw [← at_kept g3, g4 (1 + i) (by rw [h.len]; have := h.many; omega)]; exact h.at1 i l hl
    · rw [← at_kept g3, g4 (1 + i) (by rw [h.len]; omega)]; exact h.at2 i h1 h2
    · have := (List.getElem?_eq_some_iff.1 hl).1; omega
    · have := (List.getElem?_eq_some_iff.1 hl).1
      rw [g4 (1 + i) (by rw [h.len]; have := h.many; omega)]; exact h.at1 i l hl
    · rw [g4 (1 + i) (by rw [h.len]; omega)]; exact h.at2 i h1 h2
  · exact Or.inr ⟨fun hc => by have := (f3 hc).1; rw [g1] at this; exact absurd this (by decide), g1, g2, by rw [hl]; exact h.len, f2.trans h.room, h.many, h.le, h.loads, fun i l hi hl => by rw [g4]; exact h.sure i l hi hl, fun i h1 h2 => by rw [g4]; exact h.blank i h1 h2, by rw [g3]; exact h.wlen, fun i l hi hl => by rw [g3]; exact h.waits i l hi hl, fun i l hl => by rw [at_same g3 g4]; exact h.at1 i l hl, fun i h1 h2 => by rw [at_same g3 g4]; exact h.at2 i h1 h2⟩

theorem crash1_kept (S : DS) (p : Int × List Int) (c : Nat) : (S.crash1 p c).kept = if c = 0 then S.kept else S.kept.set p.1.toNat (p.2.take c ++ (S.kept.getD p.1.toNat []).drop c) := by
  unfold DS.crash1; split <;> rfl
theorem getD_set {K : List (List Int)} {i j : Nat} (x : List Int) (hi : i < K.length) : (K.set i x).getD j [] = if j = i then x else K.getD j [] := by
  by_cases e : j = i
  · subst e; simp [List.getD, hi]
  · rw [if_neg e]; simp [List.getD, List.getElem?_set_ne (Ne.symm e)]

theorem Good.torn {S : DS} {all : List (List Int)} {s : Nat} (h : Good S all s) (cs : List Int) : ∀ t, t ≤ all.length - s →
    (S.crashTo cs t).kept.length = 10 ∧ (∀ q, (q < 1 + s ∨ 1 + s + t ≤ q) → (S.crashTo cs t).kept.getD q [] = S.kept.getD q []) ∧
    ∀ (i : Nat) (l : List Int), s ≤ i → i < s + t → all[i]? = some l → ∃ c, c ≤ 128 ∧ (S.crashTo cs t).kept.getD (1 + i) [] = (sealed 3 i l).take c ++ zeros128.drop c
  | 0, _ => ⟨h.len, fun q _ => rfl, fun i l h1 h2 => by omega⟩
  | t + 1, ht => by
    obtain ⟨g1, g2, g3⟩ := h.torn cs t (by omega)
    obtain ⟨l, hl⟩ := getElem_of (show s + t < all.length by omega)
    have hw := h.waits (s + t) l (by omega) hl
    rw [show s + t - s = t by omega] at hw
    have hm := h.many
    rw [crashTo_succ hw, crash1_kept]
    have hnat : (((1 + (s + t) : Nat) : Int), sealed 3 ((s + t : Nat) : Int) l).1.toNat = 1 + (s + t) := by show ((1 + (s + t) : Nat) : Int).toNat = _; omega
    by_cases hc : cutAt cs t = 0
    · rw [if_pos hc]
      refine ⟨g1, fun q hq => g2 q (by omega), fun i l' h1 h2 hl' => ?_⟩
      by_cases e : i < s + t
      · exact g3 i l' h1 e hl'
      · refine ⟨0, by omega, ?_⟩
        rw [g2 (1 + i) (by omega), h.blank i h1 (by omega)]; simp
    · rw [if_neg hc, hnat]
      refine ⟨by rw [List.length_set]; exact g1, fun q hq => ?_, fun i l' h1 h2 hl' => ?_⟩
      · rw [getD_set _ (by rw [g1]; omega), if_neg (by omega)]; exact g2 q (by omega)
      · rw [getD_set _ (by rw [g1]; omega)]
        by_cases e : i = s + t
        · subst e
          rw [hl] at hl'
          injection hl' with hl'
          subst hl'
          rw [if_pos rfl]
          refine ⟨cutAt cs t, cutAt_le cs t, ?_⟩
          rw [g2 (1 + (s + t)) (by omega), h.blank (s + t) (by omega) (by omega)]
        · rw [if_neg (by omega)]; exact g3 i l' h1 (by omega) hl'

/-- A crash. -/
theorem Good.crash {S : DS} {all : List (List Int)} {s : Nat} (h : Good S all s) (cs : List Int) : ∃ k, Pre (S.crashed cs) all s k := by
  obtain ⟨g1, g2, g3⟩ := h.torn cs (all.length - s) (Nat.le_refl _)
  have hle := h.le
  have hm := h.many
  have hK : (S.crashed cs).kept = (S.crashTo cs (all.length - s)).kept := by rw [← h.wlen]; rfl
  have hR : (S.crashed cs).room = 10 := by
    have : ∀ t, (S.crashTo cs t).room = S.room := by
      intro t
      induction t with
      | zero => rfl
      | succ t ih =>
        unfold DS.crashTo
        split
        · rw [(crash1_same _ _ _).2.2.1]; exact ih
        · exact ih
    show (S.crashTo cs S.waits.length).room = 10
    rw [this]; exact h.room
  rw [← hK] at g1 g2 g3
  obtain ⟨T, hT⟩ : ∃ T, T = S.crashed cs := ⟨_, rfl⟩
  have hnw : T.waits = [] := by rw [hT]; rfl
  have hoff : T.off = false := by rw [hT]; rfl
  rw [← hT] at g1 g2 g3 hR ⊢
  obtain ⟨n1, n2, n3⟩ := jNext_spec 3 8 (T.rowAt 1)
  obtain ⟨k, hk⟩ : ∃ k, k = jNext 3 8 (T.rowAt 1) := ⟨_, rfl⟩
  rw [← hk] at n1 n2 n3
  have hrow : ∀ i, T.rowAt 1 i = T.kept.getD (1 + i) [] := fun i => at_kept hnw (1 + i)
  have hsure : ∀ (i : Nat) (l : List Int), i < s → all[i]? = some l → T.kept.getD (1 + i) [] = sealed 3 i l := fun i l hi hl => by rw [g2 (1 + i) (by omega)]; exact h.sure i l hi hl
  have hsk : s ≤ k := by
    rcases Nat.lt_or_ge k s with hlt | hge
    · obtain ⟨l, hl⟩ := getElem_of (Nat.lt_of_lt_of_le hlt hle)
      have hL := h.loads l (List.mem_of_getElem? hl)
      have h1 := n3 (by omega)
      rw [hrow, hsure k l hlt hl, sealed_rec (by decide) (by omega) hL.1 hL.2] at h1
      cases h1
    · exact hge
  have hwhole : ∀ (i : Nat), s ≤ i → i < k → ∀ l, all[i]? = some l → T.kept.getD (1 + i) [] = sealed 3 i l := by
    intro i h1 h2 l hl
    have hil := (List.getElem?_eq_some_iff.1 hl).1
    obtain ⟨c, hc, e⟩ := g3 i l h1 (by omega) hl
    have hr := n2 i h2
    rw [hrow, e] at hr
    have hL := h.loads l (List.mem_of_getElem? hl)
    have hsl := sealed_len 3 (i : Int) hL.1
    rcases Nat.lt_or_ge c 128 with hlt | hge
    · rw [rec_unmarked (by rw [torn_127 hsl hlt]; decide)] at hr
      cases hr
    · rw [e, show c = 128 by omega, List.take_of_length_le (by omega), List.drop_of_length_le (by simp [zeros128]), List.append_nil]
  have hkl : k ≤ all.length := by
    rcases Nat.lt_or_ge all.length k with hlt | hge
    · have h1 := n2 all.length hlt
      rw [hrow, g2 (1 + all.length) (by omega), h.blank all.length hle (by omega), zeros_rec (by decide)] at h1
      cases h1
    · exact hge
  refine ⟨k, g1, hR, hoff, hnw, hm, hsk, hkl, h.loads, fun i l hi hl => ?_, fun hk8 => by have := n3 hk8; rw [hrow] at this; exact this⟩
  rcases Nat.lt_or_ge i s with hlt | hge
  · exact hsure i l hlt hl
  · exact hwhole i hge hi l hl

/-- It is opened. -/
theorem Pre.open {T : DS} {all : List (List Int)} {s k : Nat} (h : Pre T all s k) :
    ((T.cut = -1 → (T.jOpen 1 8 3).2.2.cut = -1) ∧ (T.jOpen 1 8 3).1 = 0 ∧ (T.jOpen 1 8 3).2.1 = k ∧ (T.jOpen 1 8 3).2.2.off = false ∧ Good (T.jOpen 1 8 3).2.2 (all.take k) k) ∨
    ((T.jOpen 1 8 3).1 = 50 ∧ ∀ cs, Pre ((T.jOpen 1 8 3).2.2.crashed cs) all s k) := by
  have hn := h.next
  have hlen := (jOpen_same T 1 8 3).2.1
  have hm := h.many
  have hkl := h.le2
  obtain ⟨j1, j2, j3⟩ := jopen_on (S := T) (f := 1) (m := 8) (kind := 3) (by decide) h.off h.nowaits (by rw [h.len]; decide) (by rw [h.len, h.room]; decide)
  rw [hn] at j1
  obtain ⟨R, hR⟩ : ∃ R, R = T.jOpen 1 8 3 := ⟨_, rfl⟩
  rw [← hR] at j1 j2 j3 hlen ⊢
  rcases j1 with ⟨e1, e2, e3, e4, e5⟩ | ⟨e1, e2, e3⟩
  · have hat : ∀ (i : Nat) (l : List Int), i < k → all[i]? = some l → R.2.2.at_ (1 + i) = sealed 3 i l := fun i l hi hl => by
      rw [e5 i (by omega), if_pos hi, at_kept h.nowaits]; exact h.rows i l hi hl
    have hat2 : ∀ i, k ≤ i → i < 8 → R.2.2.at_ (1 + i) = zeros128 := fun i h1 h2 => by rw [e5 i h2, if_neg (by omega)]
    have htk : ∀ (i : Nat) (l : List Int), (all.take k)[i]? = some l → i < k ∧ all[i]? = some l := fun i l hl => by
      have h1 := (List.getElem?_eq_some_iff.1 hl).1
      rw [List.length_take] at h1
      rw [List.getElem?_take, if_pos (by omega)] at hl
      exact ⟨by omega, hl⟩
    have hlt : (all.take k).length = k := by rw [List.length_take]; omega
    refine Or.inl ⟨fun hc => (j3 hc).2, e1, e2, e3, by rw [hlen]; exact h.len, j2.trans h.room, by omega, by omega, fun l hl => h.loads l (List.mem_of_mem_take hl), fun i l hi hl => ?_, fun i h1 h2 => ?_, by rw [e4, hlt]; simp, fun i l hi hl => ?_, fun i l hl => hat i l (htk i l hl).1 (htk i l hl).2, fun i h1 h2 => hat2 i (by omega) h2⟩
    · rw [← at_kept e4]; exact hat i l hi (htk i l hl).2
    · rw [← at_kept e4]; exact hat2 i h1 h2
    · have := (htk i l hl).1; omega
  · refine Or.inr ⟨e1, fun cs => ?_⟩
    have key : ∀ t, (R.2.2.crashTo cs t).kept.length = 10 ∧ (R.2.2.crashTo cs t).room = 10 ∧ (∀ i, i < k → (R.2.2.crashTo cs t).kept.getD (1 + i) [] = T.kept.getD (1 + i) []) ∧ (k < 8 → isRec 3 ((R.2.2.crashTo cs t).kept.getD (1 + k) []) k = false) := by
      intro t
      induction t with
      | zero => exact ⟨by show R.2.2.kept.length = 10; rw [hlen]; exact h.len, j2.trans h.room, fun i hi => by show R.2.2.kept.getD _ _ = _; rw [e2], fun hk => by show isRec 3 (R.2.2.kept.getD _ _) k = false; rw [e2]; exact h.stop hk⟩
      | succ t ih =>
        cases hw : R.2.2.waits[t]? with
        | none =>
          have e : R.2.2.crashTo cs (t + 1) = R.2.2.crashTo cs t := by rw [DS.crashTo, hw]
          rw [e]; exact ih
        | some p =>
          obtain ⟨pz, i0, hi1, hi2, pe⟩ := e3 p (List.mem_of_getElem? hw)
          obtain ⟨g1, g2, g3, g4⟩ := ih
          rw [crashTo_succ hw, (crash1_same _ _ _).2.1, (crash1_same _ _ _).2.2.1, crash1_kept]
          refine ⟨g1, g2, ?_⟩
          by_cases hc : cutAt cs t = 0
          · rw [if_pos hc]; exact ⟨g3, g4⟩
          · have hpn : p.1.toNat = 1 + i0 := by rw [pe]; omega
            rw [if_neg hc, hpn, pz]
            refine ⟨fun i hi => ?_, fun hk => ?_⟩
            · rw [getD_set _ (by rw [g1]; omega), if_neg (by omega)]; exact g3 i hi
            · rw [getD_set _ (by rw [g1]; omega)]
              by_cases e : 1 + k = 1 + i0
              · rw [if_pos e]
                refine rec_nought (by decide) ?_
                have : 0 < cutAt cs t := by omega
                rw [List.getElem?_append_left (by rw [List.length_take]; simp [zeros128]; omega), List.getElem?_take, if_pos this]
                simp [zeros128]
              · rw [if_neg e]; exact g4 hk
    obtain ⟨g1, g2, g3, g4⟩ := key R.2.2.waits.length
    exact ⟨g1, g2, rfl, rfl, h.many, h.le1, h.le2, h.loads, fun i l hi hl => (g3 i hi).trans (h.rows i l hi hl), g4⟩
theorem Pre.open_cut {T : DS} {all : List (List Int)} {s k : Nat} (h : Pre T all s k) (hc : T.cut = -1) : (T.jOpen 1 8 3).1 = 0 :=
  ((jopen_on (S := T) (f := 1) (m := 8) (kind := 3) (by decide) h.off h.nowaits (by rw [h.len]; decide) (by rw [h.len, h.room]; decide)).2.2 hc).1

/-- What is got. -/
theorem Good.get {S : DS} {all : List (List Int)} {s : Nat} (h : Good S all s) (ho : S.off = false) {i : Nat} {l : List Int} (hl : all[i]? = some l) : S.jGet 1 8 3 all.length i = (l, 0, S.count 0) := by
  have hil := (List.getElem?_eq_some_iff.1 hl).1
  have hm := h.many
  have hL := h.loads l (List.mem_of_getElem? hl)
  have hread : S.arRead ((1 : Nat) : Int) ((8 : Nat) : Int) (i : Int) = (sealed 3 i l, 0, S.count 0) := by
    unfold DS.arRead
    rw [if_neg (by omega), show (((1 : Nat) : Int) + (i : Int)) = ((1 + i : Nat) : Int) by omega]
    unfold DS.readOf
    rw [if_neg (by rw [ho]; decide), if_neg (by rw [h.len]; omega)]
    show (S.at_ (((1 + i : Nat) : Int).toNat), (0 : Int), S.count 0) = _
    rw [show (((1 + i : Nat) : Int).toNat) = 1 + i by omega, h.at1 i l hl]
  have htake : S.arTake ((1 : Nat) : Int) ((8 : Nat) : Int) (i : Int) 3 = ((i : Int), l, 0, S.count 0) := by
    unfold DS.arTake
    rw [hread, if_pos rfl]
    show ((openOf (sealed 3 (i : Int) l) 3).1, (openOf (sealed 3 (i : Int) l) 3).2.1, (openOf (sealed 3 (i : Int) l) 3).2.2, S.count 0) = _
    rw [openOf_sealed (by decide) (by omega) hL.1 hL.2]
  unfold DS.jGet
  rw [if_neg (by omega), htake, if_neg (by simp), if_neg (by simp)]
theorem Good.pre {S : DS} {all : List (List Int)} (h : Good S all all.length) (ho : S.off = false) : Pre S all all.length all.length :=
  ⟨h.len, h.room, ho, List.eq_nil_of_length_eq_zero (by rw [h.wlen]; omega), h.many, Nat.le_refl _, Nat.le_refl _, h.loads, h.sure, fun hk => by rw [h.blank all.length (Nat.le_refl _) hk]; exact zeros_rec (by decide)⟩
theorem getD_range {g : Nat → List Int} {n i : Nat} (h : i < n) : ((List.range n).map g).getD i [] = g i := by simp [List.getD, h]
theorem good_new : Good (DS.loaded 10 10 []) [] 0 := by
  have hb : ∀ i, i < 8 → (DS.loaded 10 10 []).kept.getD (1 + i) [] = zeros128 := fun i hi => by
    show ((List.range 10).map (rowOf [])).getD (1 + i) [] = zeros128
    rw [getD_range (by omega), rowOf_nil]
  exact ⟨by simp [DS.loaded], rfl, by simp, Nat.le_refl _, fun l hl => by simp at hl, fun i l hi => by omega, fun i _ hi => hb i hi, rfl, fun i l _ hl => by simp at hl, fun i l hl => by simp at hl, fun i _ hi => by rw [at_kept rfl]; exact hb i hi⟩
theorem Good.count {S : DS} {all : List (List Int)} {s : Nat} (h : Good S all s) : Good (S.count 0) all s := ⟨h.len, h.room, h.many, h.le, h.loads, h.sure, h.blank, h.wlen, h.waits, h.at1, h.at2⟩
end Go.Proofs.YteliebinhdphlaaDoor

/- The chapter's example of layer 9; what is made; how many are done. -/
namespace Go.Proofs.YteliebinhdphlaaDoor
set_option maxRecDepth 100000
open Go.RowKit Go.Deep
set_option linter.unusedSimpArgs false
set_option linter.unusedVariables false

set_option maxHeartbeats 800000 in
/-- Few: at most 40, of at most 200 bytes each. -/
theorem few9_is (w : World) (A : Option Addr) (n c : Nat) (V : Nat → Nat → Int) (Bv : Nat → Value) (Z : Nat → List Int) (hx : Dos w A n 2 V Bv Z) (hok : DosOk n 2 V Z) (hn : n ≤ 9223372036854775807) :
    Calls Tryd.prog 12 #[.slice A n c] w fun e w' => ∃ q, e = .returned (.bool q) ∧ (q = true → n ≤ 40) ∧ Below w.heap.size w w' := by
  go_enter Tryd.func12, Tryd.ntmps12
  go_wp2_with fail
  go_loopw [7] (fun i wr => ∃ k : Nat, k ≤ n ∧ i = .int .i64 k ∧ Below w.heap.size w wr) (fun i _ => n - (intOf i).toNat)
  case atStart => exact ⟨0, by omega, rfl, Below.refl _ _⟩
  case round =>
    obtain ⟨k, hk, rfl, hb⟩ := hrel
    by_cases hlt : k < n
    · obtain ⟨ad, A', c', rfl, hc0, hc1, hc2, _⟩ := (hx.below hb).three hlt
      have hlz := (hok k hlt).2.2
      obtain ⟨m, hm⟩ : ∃ m, m = (Z k).length := ⟨_, rfl⟩
      rw [← hm] at hc2 hlz
      clear hm
      obtain ⟨wd, hwd⟩ : ∃ wd, wd = wr.alloc (.cells #[.int .i64 (V k 0), .int .i64 (V k 1), .slice A' m c'] 47) := ⟨_, rfl⟩
      have hbd : Below w.heap.size w wd := by rw [hwd]; exact hb.trans ((below_alloc _ _).mono hb.size)
      have Hwd := Lib.hid hwd
      clear hwd
      by_cases hbig : 200 < m
      · go_wp2
        go_ret
        rw [← Hwd.out]
        exact ⟨false, rfl, by simp, hbd⟩
      · go_wp2
        rw [← Hwd.out]
        go_roundw
        case rel => exact ⟨k + 1, by omega, by go_num, hbd⟩
        case measure => simp [intOf]; omega
    · obtain rfl : k = n := by omega
      by_cases h40 : k ≤ 40
      · have hd : decide ((k : Int) ≤ 40) = true := decide_eq_true (by omega)
        go_wp2
        go_ret
        exact ⟨true, rfl, fun _ => h40, hb⟩
      · have hd : decide ((k : Int) ≤ 40) = false := decide_eq_false (by omega)
        go_wp2
        go_ret
        exact ⟨false, rfl, by simp, hb⟩

/-- A disk of ten sectors, and an area of eight of them; or none. -/
theorem made9_is (w : World) (A : Option Addr) (n c room : Nat) (xs : List Int) (hx : Sl w A n (u8s xs)) (hnc : n ≤ c) (hxb : ∀ x ∈ xs, 0 ≤ x ∧ x < 256) (hroom : room ≤ 10) (hn : n ≤ 1280) :
    Calls Tryd.prog 14 #[.slice A n c, .int .i64 (room : Int)] w fun e w' => Below w.heap.size w w' ∧
      ((sectorsOf n ≤ room ∧ ∃ d a F, e = .returned (.tuple #[.pointer (some ⟨d, 0, none⟩), .pointer (some ⟨a, 0, none⟩)]) ∧ PD F w' d (DS.loaded 10 (room : Int) xs) ∧ (∀ k, F k → w.heap.size ≤ k) ∧ PArea w' a d 1 8 ∧ w.heap.size ≤ a ∧ ¬ F a) ∨ (room < sectorsOf n ∧ e = .returned (.tuple #[.pointer none, .pointer none]))) := by
  have Hload := Lib.hid (dload_in w A n c 10 room xs hx hnc hxb (by omega) (by omega) hroom (by omega))
  go_enter Tryd.func14, Tryd.ntmps14
  go_wp2_with fail
  refine Hload.out.mono ?_
  rintro e w1 ⟨hb1, ⟨hs, d, rfl, hd⟩ | ⟨hs, rfl⟩⟩
  · go_wp2_with fail
    have hk10 : (DS.loaded 10 (room : Int) xs).kept.length = 10 := by simp [DS.loaded]
    refine (parea_new_is _ w1 d _ hd 1 8 (by rw [hk10]; omega)).mono ?_
    rintro e w2 ⟨a, rfl, ha, hal, hb2⟩
    go_wp2_with fail
    go_ret2
    exact ⟨hb1.trans (hb2.mono hb1.size), Or.inl ⟨hs, d, a, _, rfl, hd.only (Only.of_below (F := Nothing) hb2) (fun _ _ hk => hk), fun k hk => hk.1, ha, Nat.le_trans hb1.size hal, fun hk => by have := hk.2; omega⟩⟩
  · go_wp2_with fail
    go_ret2
    exact ⟨hb1, Or.inr ⟨hs, rfl⟩⟩
end Go.Proofs.YteliebinhdphlaaDoor

/- The program's disk alone, and blocks that stay; its journal, call by call. -/
namespace Go.Proofs.YteliebinhdphlaaDoor
set_option maxRecDepth 100000
open Go.RowKit Go.Deep
set_option linter.unusedSimpArgs false
set_option linter.unusedVariables false

/-- The disk, in blocks from B on; the blocks of K are none of them. -/
def PK (B : Nat) (K : Nat → Prop) (w : World) (d : Nat) (S : DS) : Prop := ∃ F, PD F w d S ∧ (∀ k, F k → B ≤ k) ∧ ∀ k, K k → ¬ F k ∧ B ≤ k ∧ k < w.heap.size
theorem PK.wf {B : Nat} {K : Nat → Prop} {w : World} {d : Nat} {S : DS} (h : PK B K w d S) : DWf S := by
  obtain ⟨F, h1, _⟩ := h
  exact h1.wf
theorem PK.lt {B : Nat} {K : Nat → Prop} {w : World} {d : Nat} {S : DS} (h : PK B K w d S) {k : Nat} (hk : K k) : B ≤ k ∧ k < w.heap.size := by
  obtain ⟨F, h1, h2, h3⟩ := h
  exact (h3 k hk).2
theorem PK.below {B : Nat} {K : Nat → Prop} {w w' : World} {d : Nat} {S : DS} (h : PK B K w d S) (ho : Below w.heap.size w w') : PK B K w' d S := by
  obtain ⟨F, h1, h2, h3⟩ := h
  exact ⟨F, h1.only (Only.of_below (F := Nothing) ho) (fun _ _ hk => hk), h2, fun k hk => ⟨(h3 k hk).1, (h3 k hk).2.1, Nat.lt_of_lt_of_le (h3 k hk).2.2 ho.size⟩⟩
/-- A new block is none of the disk's. -/
theorem PK.new {B : Nat} {K : Nat → Prop} {w w' : World} {d : Nat} {S : DS} (h : PK B K w d S) (hB : B ≤ w.heap.size) (ho : Below w.heap.size w w') : PK B (fun k => K k ∨ (w.heap.size ≤ k ∧ k < w'.heap.size)) w' d S := by
  obtain ⟨F, h1, h2, h3⟩ := h
  refine ⟨F, h1.only (Only.of_below (F := Nothing) ho) (fun _ _ hk => hk), h2, fun k hk => ?_⟩
  rcases hk with hk | hk
  · exact ⟨(h3 k hk).1, (h3 k hk).2.1, Nat.lt_of_lt_of_le (h3 k hk).2.2 ho.size⟩
  · exact ⟨fun hf => by have := h1.fin hf; omega, by omega, hk.2⟩
theorem PK.less {B : Nat} {K L : Nat → Prop} {w : World} {d : Nat} {S : DS} (h : PK B K w d S) (hs : ∀ k, L k → K k) : PK B L w d S := by
  obtain ⟨F, h1, h2, h3⟩ := h
  exact ⟨F, h1, h2, fun k hk => h3 k (hs k hk)⟩
/-- New blocks, and a change in blocks of K. -/
theorem PK.grow {B : Nat} {K X : Nat → Prop} {w w' : World} {d : Nat} {S : DS} (h : PK B K w d S) (hB : B ≤ w.heap.size) (ho : Only X w w') (hX : ∀ k, X k → K k) : PK B (fun k => K k ∨ (w.heap.size ≤ k ∧ k < w'.heap.size)) w' d S := by
  obtain ⟨F, h1, h2, h3⟩ := h
  refine ⟨F, h1.only ho (fun k hf hx => (h3 k (hX k hx)).1 hf), h2, fun k hk => ?_⟩
  rcases hk with hk | hk
  · exact ⟨(h3 k hk).1, (h3 k hk).2.1, Nat.lt_of_lt_of_le (h3 k hk).2.2 ho.size⟩
  · exact ⟨fun hf => by have := h1.fin hf; omega, by omega, hk.2⟩
/-- A change in blocks of K alone. -/
theorem PK.only {B : Nat} {K X : Nat → Prop} {w w' : World} {d : Nat} {S : DS} (h : PK B K w d S) (ho : Only X w w') (hX : ∀ k, X k → K k) : PK B K w' d S := by
  obtain ⟨F, h1, h2, h3⟩ := h
  exact ⟨F, h1.only ho (fun k hf hx => (h3 k (hX k hx)).1 hf), h2, fun k hk => ⟨(h3 k hk).1, (h3 k hk).2.1, Nat.lt_of_lt_of_le (h3 k hk).2.2 ho.size⟩⟩
/-- One call. -/
theorem pk_step {B : Nat} {K F F' X : Nat → Prop} {w w' : World} {d : Nat} {S S' : DS} (h1 : PD F w d S) (h2 : ∀ k, F k → B ≤ k) (h3 : ∀ k, K k → ¬ F k ∧ B ≤ k ∧ k < w.heap.size) (hB : B ≤ w.heap.size) (hX : ∀ k, X k → K k)
    (g1 : PD F' w' d S') (f1 : ∀ k, F' k → F k ∨ w.heap.size ≤ k) (o1 : Only (fun k => F k ∨ X k) w w') : PK B K w' d S' ∧ Below B w w' ∧ ∀ k, K k → ¬ X k → w'.heap[k]? = w.heap[k]? := by
  refine ⟨⟨F', g1, fun k hk => ?_, fun k hk => ⟨fun hf => ?_, (h3 k hk).2.1, Nat.lt_of_lt_of_le (h3 k hk).2.2 o1.size⟩⟩, o1.below hB (fun k hk => ?_), fun k hk hx => o1.block k (h3 k hk).2.2 (fun h => ?_)⟩
  · rcases f1 k hk with h | h
    · exact h2 k h
    · omega
  · rcases f1 k hf with h | h
    · exact (h3 k hk).1 h
    · have := (h3 k hk).2.2; omega
  · rcases hk with hk | hk
    · exact h2 k hk
    · exact (h3 k (hX k hk)).2.1
  · rcases h with h | h
    · exact (h3 k hk).1 h
    · exact hx h
theorem Tabs.base {B : Nat} {w w' : World} (h : Tabs w) (hb : Below B w w') (hTB : NoTabs (fun k => B ≤ k)) : Tabs w' :=
  h.only (show Only (fun k => B ≤ k) w w' from ⟨hb.os, hb.tape, hb.output, hb.size, fun k _ hk => hb.block k (Nat.lt_of_not_le hk)⟩) hTB
/-- All of K stays, but X. -/
def Stay (K X : Nat → Prop) (w w' : World) : Prop := ∀ k, K k → ¬ X k → w'.heap[k]? = w.heap[k]?

section
variable (B : Nat) (K : Nat → Prop) (w : World) (a d : Nat) (S : DS) (h : PK B K w d S) (ha : PArea w a d 1 8) (hKa : K a) (hlen : S.kept.length = 10) (hB : B ≤ w.heap.size) (ht : Tabs w) (hTB : NoTabs (fun k => B ≤ k))
include h ha hKa hlen hB ht hTB
/-- It is opened. -/
theorem pk_open (kind : Int) (hk : -9223372036854775808 ≤ kind ∧ kind ≤ 9223372036854775807) (hmany : S.waits.length ≤ 100000) (r : Int × Nat × DS) (hr : r = S.jOpen 1 8 kind) :
    Calls Tryd.prog 11 #[.pointer (some ⟨a, 0, none⟩), .int .i64 kind] w fun e w' => Below B w w' ∧ Stay K Nothing w w' ∧
      ((r.1 ≠ 0 ∧ e = .returned (.tuple #[.pointer none, .int .i64 r.1]) ∧ PK B K w' d r.2.2) ∨
       (r.1 = 0 ∧ ∃ j, e = .returned (.tuple #[.pointer (some ⟨j, 0, none⟩), .int .i64 0]) ∧ w.heap.size ≤ j ∧ PJ w' j a kind r.2.1 ∧ PK B (fun k => K k ∨ k = j) w' d r.2.2)) := by
  obtain ⟨F, h1, h2, h3⟩ := h
  have hs : Spot ((1 : Nat) : Int) ((8 : Nat) : Int) := by unfold Spot; omega
  refine (pjopen_is F w a d S 1 8 h1 ha (h3 a hKa).1 hs (by omega) (by omega) ht (hTB.mono h2) kind hk (by omega) r hr).mono ?_
  rintro e w' (⟨h0, rfl, g1, g2⟩ | ⟨h0, j, F', rfl, g1, g2, g3, g4, g5, g6⟩)
  · obtain ⟨p1, p2, p3⟩ := pk_step (X := Nothing) h1 h2 h3 hB (fun _ hk => hk.elim) g1 more_new (g2.mono (fun _ _ hk => Or.inl hk))
    exact ⟨p2, fun k hk hx => p3 k hk hx, Or.inl ⟨h0, rfl, p1⟩⟩
  · obtain ⟨p1, p2, p3⟩ := pk_step (X := Nothing) h1 h2 h3 hB (fun _ hk => hk.elim) g5 g3 (g6.mono (fun _ _ hk => Or.inl hk))
    refine ⟨p2, fun k hk hx => p3 k hk hx, Or.inr ⟨h0, j, rfl, g1, g4, ⟨F', g5, fun k hk => ?_, fun k hk => ?_⟩⟩⟩
    · rcases g3 k hk with h | h
      · exact h2 k h
      · omega
    · rcases hk with hk | rfl
      · exact ⟨fun hf => by rcases g3 k hf with h | h; exact (h3 k hk).1 h; have := (h3 k hk).2.2; omega, (h3 k hk).2.1, Nat.lt_of_lt_of_le (h3 k hk).2.2 g6.size⟩
      · exact ⟨g2, by omega, g4.lt⟩
variable (j : Nat) (kind : Int) (next : Nat) (hj : PJ w j a kind next) (hKj : K j) (hnext : next ≤ 8) (hkd : 1 ≤ kind ∧ kind ≤ 255)
include hj hKj hnext hkd
theorem pk_get (n : Int) (hn : -9223372036854775808 ≤ n ∧ n ≤ 9223372036854775807) (r : List Int × Int × DS) (hr : r = S.jGet 1 8 kind next n) :
    Calls Tryd.prog 28 #[.pointer (some ⟨j, 0, none⟩), .int .i64 n] w fun e w' => ∃ A cc, e = .returned (.tuple #[.slice A r.1.length cc, .int .i64 r.2.1]) ∧ Sl w' A r.1.length (u8s r.1) ∧ (∀ ad, A = some ad → w.heap.size ≤ ad.block) ∧ PK B (fun k => K k ∨ (0 < r.1.length ∧ ∃ ad, A = some ad ∧ ad.block = k)) w' d r.2.2 ∧ Below B w w' ∧ Stay K Nothing w w' := by
  obtain ⟨F, h1, h2, h3⟩ := h
  have hs : Spot ((1 : Nat) : Int) ((8 : Nat) : Int) := by unfold Spot; omega
  refine (pjget_is F w a d S 1 8 h1 ha (h3 a hKa).1 hs (by omega) (by omega) ht (hTB.mono h2) j kind next hj (h3 j hKj).1 hnext hkd n hn r hr).mono ?_
  rintro e w' ⟨A, cc, F', rfl, hsl, hA, f1, g1, g2⟩
  obtain ⟨⟨_, p1, p1b, p1c⟩, p2, p3⟩ := pk_step (X := Nothing) h1 h2 h3 hB (fun _ hk => hk.elim) g1 f1 (g2.mono (fun _ _ hk => Or.inl hk))
  refine ⟨A, cc, rfl, hsl, fun ad e => (hA ad e).1, ⟨F', g1, fun k hk => ?_, fun k hk => ?_⟩, p2, fun k hk hx => p3 k hk hx⟩
  · rcases f1 k hk with h | h
    · exact h2 k h
    · omega
  · rcases hk with hk | ⟨h0, ad, rfl, rfl⟩
    · exact ⟨fun hf => by rcases f1 k hf with h | h; exact (h3 k hk).1 h; have := (h3 k hk).2.2; omega, (h3 k hk).2.1, Nat.lt_of_lt_of_le (h3 k hk).2.2 g2.size⟩
    · have hA := hA ad rfl
      refine ⟨hA.2, by omega, ?_⟩
      obtain ⟨ad', e, hc⟩ := hsl.2 0 (.int .u8 (r.1.getD 0 0)) (by rw [List.getElem?_map]; simp [List.getD, h0])
      cases e
      have := World.block_lt_of_cell? w' _ hc
      rw [addr_block] at this
      exact this
theorem pk_add (A : Option Addr) (n cc : Nat) (load : List Int) (hx : Sl w A n (u8s load)) (hb : Bytes load) (hn : n ≤ 9223372036854775807) (hmany : S.waits.length ≤ 100000) (r : Int × Int × Nat × DS) (hr : r = S.jAdd 1 8 kind next load) :
    Calls Tryd.prog 7 #[.pointer (some ⟨j, 0, none⟩), .slice A n cc] w fun e w' => e = .returned (.tuple #[.int .i64 r.1, .int .i64 r.2.1]) ∧ PJ w' j a kind r.2.2.1 ∧ PK B K w' d r.2.2.2 ∧ Below B w w' ∧ Stay K (fun k => k = j) w w' := by
  obtain ⟨F, h1, h2, h3⟩ := h
  have hs : Spot ((1 : Nat) : Int) ((8 : Nat) : Int) := by unfold Spot; omega
  refine (pjadd_is F w a d S 1 8 h1 ha (h3 a hKa).1 hs (by omega) (by omega) ht (hTB.mono h2) j kind next hj (h3 j hKj).1 hnext hkd A n cc load hx hb hn (by omega) r hr).mono ?_
  rintro e w' ⟨rfl, g0, g1, g2⟩
  obtain ⟨p1, p2, p3⟩ := pk_step (X := fun k => k = j) h1 h2 h3 hB (fun k hk => hk ▸ hKj) g1 more_new g2
  exact ⟨rfl, g0, p1, p2, p3⟩
theorem pk_jflush (r : Int × DS) (hr : r = S.flushOf) :
    Calls Tryd.prog 10 #[.pointer (some ⟨j, 0, none⟩)] w fun e w' => e = .returned (.int .i64 r.1) ∧ PK B K w' d r.2 ∧ Below B w w' ∧ Stay K Nothing w w' := by
  obtain ⟨F, h1, h2, h3⟩ := h
  have hs : Spot ((1 : Nat) : Int) ((8 : Nat) : Int) := by unfold Spot; omega
  refine (pjflush_is F w a d S 1 8 h1 ha (h3 a hKa).1 hs (by omega) (by omega) ht (hTB.mono h2) j kind next hj (h3 j hKj).1 hnext hkd r hr).mono ?_
  rintro e w' ⟨rfl, g1, g2⟩
  obtain ⟨p1, p2, p3⟩ := pk_step (X := Nothing) h1 h2 h3 hB (fun k hk => hk.elim) g1 more_new (g2.mono (fun _ _ hk => Or.inl hk))
  exact ⟨rfl, p1, p2, p3⟩
theorem pk_len : Calls Tryd.prog 8 #[.pointer (some ⟨j, 0, none⟩)] w fun e w' => e = .returned (.int .i64 next) ∧ Below w.heap.size w w' := by
  have hUse : True := (fun _ => True.intro) hB
  clear hUse
  obtain ⟨F, h1, h2, h3⟩ := h
  have hs : Spot ((1 : Nat) : Int) ((8 : Nat) : Int) := by unfold Spot; omega
  exact pjlen_is F w a d S 1 8 h1 ha (h3 a hKa).1 hs (by omega) (by omega) ht (hTB.mono h2) j kind next hj (h3 j hKj).1 hnext hkd
theorem pk_room : Calls Tryd.prog 9 #[.pointer (some ⟨j, 0, none⟩)] w fun e w' => e = .returned (.int .i64 (((8 : Nat) : Int) - next)) ∧ Below w.heap.size w w' := by
  have hUse : True := (fun _ => True.intro) hB
  clear hUse
  obtain ⟨F, h1, h2, h3⟩ := h
  have hs : Spot ((1 : Nat) : Int) ((8 : Nat) : Int) := by unfold Spot; omega
  exact pjroom_is F w a d S 1 8 h1 ha (h3 a hKa).1 hs (by omega) (by omega) ht (hTB.mono h2) j kind next hj (h3 j hKj).1 hnext hkd
end
section
variable (B : Nat) (K : Nat → Prop) (w : World) (d : Nat) (S : DS) (h : PK B K w d S) (hB : B ≤ w.heap.size)
include h hB
theorem pk_cut (n : Int) (hn : -9223372036854775808 ≤ n ∧ n ≤ 9223372036854775807) :
    Calls Tryd.prog 20 #[.pointer (some ⟨d, 0, none⟩), .int .i64 n] w fun e w' => e = .returned (.tuple #[]) ∧ PK B K w' d { S with cut := if n < 0 then -1 else n } ∧ Below B w w' ∧ Stay K Nothing w w' := by
  obtain ⟨F, h1, h2, h3⟩ := h
  refine (dcut_is F w d S h1 n hn.1 hn.2).mono ?_
  rintro e w' ⟨rfl, g1, g2⟩
  obtain ⟨p1, p2, p3⟩ := pk_step (X := Nothing) h1 h2 h3 hB (fun k hk => hk.elim) g1 more_new (g2.mono (fun _ _ hk => Or.inl hk))
  exact ⟨rfl, p1, p2, p3⟩
theorem pk_crash (A : Option Addr) (n c : Nat) (cs : List Int) (hx : Sl w A n (u8s cs)) (hcs : ∀ x ∈ cs, 0 ≤ x ∧ x < 256) (hn : n ≤ 9223372036854775807) (hxB : ∀ ad, A = some ad → 0 < n → ad.block < B) :
    Calls Tryd.prog 22 #[.pointer (some ⟨d, 0, none⟩), .slice A n c] w fun e w' => e = .returned (.tuple #[]) ∧ PK B K w' d (S.crashed cs) ∧ Below B w w' ∧ Stay K Nothing w w' := by
  obtain ⟨F, h1, h2, h3⟩ := h
  refine (dcrash_is F w d S h1 A n c cs hx hcs hn (fun ad e h0 hf => by have := hxB ad e h0; have := h2 _ hf; omega)).mono ?_
  rintro e w' ⟨rfl, g1, g2⟩
  obtain ⟨p1, p2, p3⟩ := pk_step (X := Nothing) h1 h2 h3 hB (fun k hk => hk.elim) g1 more_new (g2.mono (fun _ _ hk => Or.inl hk))
  exact ⟨rfl, p1, p2, p3⟩
theorem pk_on : Calls Tryd.prog 21 #[.pointer (some ⟨d, 0, none⟩)] w fun e w' => e = .returned (.bool (!S.off)) ∧ Below w.heap.size w w' := by
  have hUse : True := (fun _ => True.intro) hB
  clear hUse
  obtain ⟨F, h1, h2, h3⟩ := h
  refine (don_is F w d S h1).mono ?_
  rintro e w' ⟨rfl, g⟩
  exact ⟨rfl, g.below (Nat.le_refl _) (fun _ hk => hk.elim)⟩
end
end Go.Proofs.YteliebinhdphlaaDoor

/- The chapter's example of layer 9, walked. -/
namespace Go.Proofs.YteliebinhdphlaaDoor
set_option maxRecDepth 100000
open Go.RowKit Go.Deep
set_option linter.unusedSimpArgs false
set_option linter.unusedVariables false

theorem Good.waits_pos {S : DS} (h : DWf S) : ∀ p ∈ S.waits, 0 ≤ p.1 := fun p hp => (h.wts p hp).1
set_option maxHeartbeats 6400000 in
theorem awake9_any (w : World) (ht : Tabs w) : Calls Tryd.prog 6 #[] w fun e w' => e = .returned (.bool true) ∧ Below w.heap.size w w' := by
  have hTB : NoTabs (fun k => w.heap.size ≤ k) := NoTabs.of_tabs ht (fun k h => h)
  obtain ⟨B, hBw⟩ : ∃ B, B = w.heap.size := ⟨_, rfl⟩
  have hmade := Lib.hid (made9_is w none 0 0 10 [] (Sl.nil_ _ _) (Nat.le_refl _) (fun x hx => by simp at hx) (by omega) (by omega))
  have Ht := Lib.hid ht
  rw [← hBw] at hTB
  have HTB := Lib.hid hTB
  have HB := Lib.hid hBw
  clear ht hTB hBw
  go_enter Tryd.func6, Tryd.ntmps6
  go_wp2_with fail
  refine hmade.out.mono ?_
  rintro e w1 ⟨hb1, ⟨_, d, a, F, rfl, hF, hFB, ha1, hal, hFa⟩ | ⟨h0, _⟩⟩
  rotate_left
  · exact absurd h0 (by decide)
  have hpk1 : PK B (fun k => k = a) w1 d (DS.loaded 10 10 []) := ⟨F, hF, by rw [HB.out]; exact hFB, fun k hk => by rw [hk]; exact ⟨hFa, by rw [HB.out]; exact hal, ha1.lt⟩⟩
  have hB1 : B ≤ w1.heap.size := by rw [HB.out]; exact hb1.size
  have ht1 := Ht.out.below hb1
  have hgood := good_new
  have hpre := hgood.pre rfl
  obtain ⟨r, hr⟩ : ∃ r, r = (DS.loaded 10 10 []).jOpen 1 8 3 := ⟨_, rfl⟩
  have hop := hpre.open
  have hr0 := hpre.open_cut rfl
  have hmany0 : (DS.loaded 10 10 []).waits.length ≤ 100000 := by show ([] : List (Int × List Int)).length ≤ _; simp
  rw [← hr] at hop hr0
  have hst : r.2.1 = 0 ∧ r.2.2.off = false ∧ r.2.2.cut = -1 ∧ Good r.2.2 [] 0 := by
    rcases hop with ⟨h1, h2, h3, h4, h5⟩ | ⟨h1, _⟩
    · exact ⟨h3, h4, h1 rfl, h5⟩
    · rw [hr0] at h1; exact absurd h1 (by decide)
  have Hop := Lib.hid (pk_open B _ w1 a d _ hpk1 ha1 rfl hgood.len hB1 ht1 HTB.out 3 (by omega) hmany0 r hr)
  clear hr hop hF hFB hpre hmade
  go_wp2_with fail
  refine Hop.out.mono ?_
  rintro e w2 ⟨hb2, hst2, ⟨h0, _⟩ | ⟨_, j, rfl, hjl, hj2, hpk2⟩⟩
  · exact absurd hr0 h0
  obtain ⟨rn, roff, rcut, hg⟩ := hst
  rw [rn] at hj2
  have ha2 : PArea w2 a d 1 8 := ha1.kept (hst2 a rfl (fun h => h))
  have hbw2 : Below B w w2 := (hb1.mono (Nat.le_of_eq HB.out)).trans hb2
  obtain ⟨S2, hS2⟩ : ∃ S, S = r.2.2 := ⟨_, rfl⟩
  rw [← hS2] at roff rcut hg hpk2
  clear hS2 Hop hst2 hpk1 ha1
  -- the first record
  obtain ⟨w3, hw3⟩ : ∃ w3, w3 = w2.alloc (.cells #[.int .u8 7] 5) := ⟨_, rfl⟩
  have hb3 : Below w2.heap.size w2 w3 := by rw [hw3]; exact below_alloc _ _
  have hs3 : Sl w3 (some ⟨w2.heap.size, 0, none⟩) 1 (u8s [7]) := by rw [hw3]; exact Sl.new_ w2 5 (u8s [7]) 1 rfl
  have hB2 : B ≤ w2.heap.size := Nat.le_trans hB1 hb2.size
  have hpk3 := hpk2.below hb3
  have ha3 := ha2.kept (hb3.block _ ha2.lt)
  have hj3 := hj2.kept (hb3.block _ hj2.lt)
  have hbw3 : Below B w w3 := hbw2.trans (hb3.mono hB2)
  have ht3 : Tabs w3 := (Ht.out).base hbw3 HTB.out
  have hB3 : B ≤ w3.heap.size := Nat.le_trans hB2 hb3.size
  have hb7 : Bytes [7] := fun x hx => by simp at hx; omega
  obtain ⟨r3, hr3⟩ : ∃ r, r = S2.jAdd 1 8 3 0 [7] := ⟨_, rfl⟩
  have hadd := hg.add roff [7] hb7
  have Hadd := Lib.hid (pk_add B _ w3 a d S2 hpk3 ha3 (Or.inl rfl) hg.len hB3 ht3 HTB.out j 3 0 hj3 (Or.inr rfl) (by omega) (by omega) (some ⟨w2.heap.size, 0, none⟩) 1 1 [7] hs3 hb7 (by omega) (by have := hg.wlen; simp at this; simp [this]) r3 hr3)
  rw [show ([] : List (List Int)).length = 0 from rfl, ← hr3] at hadd
  have hst3 : r3.2.2.1 = 1 ∧ r3.2.2.2.off = false ∧ r3.2.2.2.cut = -1 ∧ Good r3.2.2.2 [[7]] 0 := by
    rcases hadd with ⟨h1, _⟩ | ⟨h1, h2, h3, h4, h5, h6⟩ | ⟨h1, _⟩
    · rcases h1 with h1 | h1 <;> simp at h1
    · exact ⟨h4, h5, h1 rcut, h6⟩
    · exact absurd rcut h1
  have Hw3 := Lib.hid hw3
  clear hw3 hr3 hadd
  go_wp2_with fail
  rw [← Hw3.out]
  refine Hadd.out.mono ?_
  rintro e w4 ⟨rfl, hj4, hpk4, hb4, hst4⟩
  obtain ⟨rn4, roff4, rcut4, hg4⟩ := hst3
  rw [rn4] at hj4
  have haj : a ≠ j := hj3.ne ha3 (by decide)
  have ha4 : PArea w4 a d 1 8 := ha3.kept (hst4 a (Or.inl rfl) haj)
  obtain ⟨S4, hS4⟩ : ∃ S, S = r3.2.2.2 := ⟨_, rfl⟩
  rw [← hS4] at roff4 rcut4 hg4 hpk4
  have hbw4 := hbw3.trans hb4
  have ht4 : Tabs w4 := (Ht.out).base hbw4 HTB.out
  have hB4 : B ≤ w4.heap.size := Nat.le_trans hB3 hb4.size
  clear hS4 Hadd hst4 hpk3 ha3 hj3 hs3 hb3 Hw3
  -- the second one
  obtain ⟨r5, hr5⟩ : ∃ r, r = S4.jAdd 1 8 3 1 [] := ⟨_, rfl⟩
  have hadd := hg4.add roff4 [] (fun x hx => by simp at hx)
  have Hadd := Lib.hid (pk_add B _ w4 a d S4 hpk4 ha4 (Or.inl rfl) hg4.len hB4 ht4 HTB.out j 3 1 hj4 (Or.inr rfl) (by omega) (by omega) none 0 0 [] (Sl.nil_ _ _) (fun x hx => by simp at hx) (by omega) (by have := hg4.wlen; simp at this; omega) r5 hr5)
  rw [show ([[7]] : List (List Int)).length = 1 from rfl, ← hr5] at hadd
  have hst5 : r5.1 = 1 ∧ r5.2.1 = 0 ∧ r5.2.2.1 = 2 ∧ r5.2.2.2.off = false ∧ r5.2.2.2.cut = -1 ∧ Good r5.2.2.2 [[7], []] 0 := by
    rcases hadd with ⟨h1, _⟩ | ⟨h1, h2, h3, h4, h5, h6⟩ | ⟨h1, _⟩
    · rcases h1 with h1 | h1 <;> simp at h1
    · exact ⟨h2, h3, h4, h5, h1 rcut4, h6⟩
    · exact absurd rcut4 h1
  clear hr5 hadd
  go_wp2_with fail
  refine Hadd.out.mono ?_
  rintro e w5 ⟨rfl, hj5, hpk5, hb5, hst5b⟩
  obtain ⟨rnum5, rerr5, rn5, roff5, rcut5, hg5⟩ := hst5
  rw [rn5] at hj5
  have ha5 : PArea w5 a d 1 8 := ha4.kept (hst5b a (Or.inl rfl) haj)
  obtain ⟨S5, hS5⟩ : ∃ S, S = r5.2.2.2 := ⟨_, rfl⟩
  rw [← hS5] at roff5 rcut5 hg5 hpk5
  have hbw5 := hbw4.trans hb5
  have ht5 : Tabs w5 := (Ht.out).base hbw5 HTB.out
  have hB5 : B ≤ w5.heap.size := Nat.le_trans hB4 hb5.size
  clear hS5 Hadd hst5b hpk4 ha4 hj4
  -- flushed
  obtain ⟨r6, hr6⟩ : ∃ r, r = S5.flushOf := ⟨_, rfl⟩
  have hfl := hg5.flush roff5 (Good.waits_pos hpk5.wf)
  have Hfl := Lib.hid (pk_jflush B _ w5 a d S5 hpk5 ha5 (Or.inl rfl) hg5.len hB5 ht5 HTB.out j 3 2 hj5 (Or.inr rfl) (by omega) (by omega) r6 hr6)
  rw [← hr6] at hfl
  have hst6 : r6.1 = 0 ∧ r6.2.off = false ∧ r6.2.cut = -1 ∧ Good r6.2 [[7], []] 2 := by
    rcases hfl with ⟨h1, h2, h3, h4⟩ | ⟨h1, _⟩
    · exact ⟨h2, h3, h1 rcut5, h4⟩
    · exact absurd rcut5 h1
  clear hr6 hfl
  rw [rnum5, rerr5]
  go_wp2_with fail
  refine Hfl.out.mono ?_
  rintro e w6 ⟨rfl, hpk6, hb6, hst6b⟩
  obtain ⟨rerr6, roff6, rcut6, hg6⟩ := hst6
  have ha6 : PArea w6 a d 1 8 := ha5.kept (hst6b a (Or.inl rfl) (fun h => h))
  obtain ⟨S6, hS6⟩ : ∃ S, S = r6.2 := ⟨_, rfl⟩
  rw [← hS6] at roff6 rcut6 hg6 hpk6
  have hbw6 := hbw5.trans hb6
  have ht6 : Tabs w6 := (Ht.out).base hbw6 HTB.out
  have hB6 : B ≤ w6.heap.size := Nat.le_trans hB5 hb6.size
  have hpk6' : PK B (fun k => k = a) w6 d S6 := hpk6.less (fun k hk => Or.inl hk)
  clear hS6 Hfl hst6b hpk5 ha5 hj5 hpk6
  -- opened again
  have hpre := hg6.pre roff6
  obtain ⟨r7, hr7⟩ : ∃ r, r = S6.jOpen 1 8 3 := ⟨_, rfl⟩
  have hop := hpre.open
  have hr0' := hpre.open_cut rcut6
  rw [← hr7] at hop hr0'
  have hst7 : r7.2.1 = 2 ∧ r7.2.2.off = false ∧ Good r7.2.2 [[7], []] 2 := by
    rcases hop with ⟨h1, h2, h3, h4, h5⟩ | ⟨h1, _⟩
    · exact ⟨h3, h4, h5⟩
    · rw [hr0'] at h1; exact absurd h1 (by decide)
  have Hop := Lib.hid (pk_open B _ w6 a d S6 hpk6' ha6 rfl hg6.len hB6 ht6 HTB.out 3 (by omega) (by have := hg6.wlen; simp at this; simp [this]) r7 hr7)
  clear hr7 hop hpre
  rw [rerr6]
  go_wp2_with fail
  refine Hop.out.mono ?_
  rintro e w7 ⟨hb7', hst7b, ⟨h0, _⟩ | ⟨_, j', rfl, hjl', hj7, hpk7⟩⟩
  · exact absurd hr0' h0
  obtain ⟨rn7, roff7, hg7⟩ := hst7
  rw [rn7] at hj7
  have ha7 : PArea w7 a d 1 8 := ha6.kept (hst7b a rfl (fun h => h))
  obtain ⟨S7, hS7⟩ : ∃ S, S = r7.2.2 := ⟨_, rfl⟩
  rw [← hS7] at roff7 hg7 hpk7
  have hbw7 := hbw6.trans hb7'
  have ht7 : Tabs w7 := (Ht.out).base hbw7 HTB.out
  have hB7 : B ≤ w7.heap.size := Nat.le_trans hB6 hb7'.size
  clear hS7 Hop hst7b hpk6' ha6
  -- got
  have hget := hg7.get roff7 (i := 0) (l := [7]) rfl
  rw [show ([[7], []] : List (List Int)).length = 2 from rfl] at hget
  have Hget := Lib.hid (pk_get B _ w7 a d S7 hpk7 ha7 (Or.inl rfl) hg7.len hB7 ht7 HTB.out j' 3 2 hj7 (Or.inr rfl) (by omega) (by omega) 0 (by omega) ([7], 0, S7.count 0) hget.symm)
  clear hget
  go_wp2_with fail
  refine Hget.out.mono ?_
  rintro e w8 ⟨A, cc, rfl, hsl, _, hpk8, hb8, hst8⟩
  have ha8 : PArea w8 a d 1 8 := ha7.kept (hst8 a (Or.inl rfl) (fun h => h))
  have hj8 : PJ w8 j' a 3 2 := hj7.kept (hst8 j' (Or.inr rfl) (fun h => h))
  have hbw8 := hbw7.trans hb8
  have ht8 : Tabs w8 := (Ht.out).base hbw8 HTB.out
  have hB8 : B ≤ w8.heap.size := Nat.le_trans hB7 hb8.size
  have Hlen := Lib.hid (pk_len B _ w8 a d (S7.count 0) hpk8 ha8 (Or.inl (Or.inl rfl)) hg7.count.len hB8 ht8 HTB.out j' 3 2 hj8 (Or.inl (Or.inr rfl)) (by omega) (by omega))
  clear Hget hpk7 ha7 hj7 hst8
  go_wp2_with fail
  refine Hlen.out.mono ?_
  rintro e w9 ⟨rfl, hb9⟩
  have hpk9 := hpk8.below hb9
  have ha9 := ha8.kept (hb9.block _ ha8.lt)
  have hj9 := hj8.kept (hb9.block _ hj8.lt)
  have hsl9 := hsl.below hb9
  have hbw9 := hbw8.trans (hb9.mono hB8)
  have hB9 : B ≤ w9.heap.size := Nat.le_trans hB8 hb9.size
  have ht9 : Tabs w9 := (Ht.out).base hbw9 HTB.out
  have Hroom := Lib.hid (pk_room B _ w9 a d (S7.count 0) hpk9 ha9 (Or.inl (Or.inl rfl)) hg7.count.len hB9 ht9 HTB.out j' 3 2 hj9 (Or.inl (Or.inr rfl)) (by omega) (by omega))
  clear Hlen hpk8 ha8 hj8 hsl
  go_wp2_with fail
  refine Hroom.out.mono ?_
  rintro e w10 ⟨rfl, hb10⟩
  have hsl10 := hsl9.below hb10
  have hbw10 := hbw9.trans (hb10.mono hB9)
  have hB10 : B ≤ w10.heap.size := Nat.le_trans hB9 hb10.size
  obtain ⟨w11, hw11⟩ : ∃ w11, w11 = w10.alloc (.cells #[.int .u8 7] 5) := ⟨_, rfl⟩
  have hb11 : Below w10.heap.size w10 w11 := by rw [hw11]; exact below_alloc _ _
  have hs11 : Sl w11 (some ⟨w10.heap.size, 0, none⟩) 1 (u8s [7]) := by rw [hw11]; exact Sl.new_ w10 5 (u8s [7]) 1 rfl
  have hsm := Lib.hid (same_any A (some ⟨w10.heap.size, 0, none⟩) 1 1 cc 1 [7] [7] w11 (hsl10.below hb11) hs11 (by omega) (by omega))
  have hbw11 := hbw10.trans (hb11.mono hB10)
  have Hw11 := Lib.hid hw11
  have hbe := Lib.hid (show Below w.heap.size w w11 by rw [← HB.out]; exact hbw11)
  clear hw11 hsl10 hs11 hsl9 Hroom hpk9 ha9 hj9
  go_wp2_with fail
  rw [← Hw11.out]
  refine hsm.out.mono ?_
  rintro e w12 ⟨rfl, q, rfl⟩
  rw [decide_true]
  go_wp2_with fail
  go_ret
  exact ⟨rfl, below_drewN hbe.out q⟩
end Go.Proofs.YteliebinhdphlaaDoor
