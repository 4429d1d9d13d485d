/- What is done to both disks: do both say the same? -/
import Derived.Test.YthdclncgmhgmfaaBoth
namespace Go.Proofs.Ythdclncgmhgmfaa
open Go.RowKit Go.Deep
set_option linter.unusedSimpArgs false
set_option linter.unusedVariables false

/-- What 'one' leaves: true; both disks as they are; at most one piece more that waits. -/
def OnePost (B : Nat) (w : World) (d c : Nat) (S : DS) (e : Ending) (w' : World) : Prop :=
  e = .returned (.bool true) ∧ ∃ S', Both B w' d c S' ∧ Below B w w' ∧ S'.waits.length ≤ S.waits.length + 1 ∧ S'.kept.length = S.kept.length

theorem OnePost.same {B : Nat} {w w' : World} {d c : Nat} {S : DS} (h : Both B w' d c S) (hb : Below B w w') : OnePost B w d c S (.returned (.bool true)) w' := ⟨rfl, S, h, hb, by omega, rfl⟩

set_option maxRecDepth 100000 in
set_option maxHeartbeats 3200000 in
theorem one_other (B : Nat) (w : World) (d c : Nat) (S : DS) (kind n : Int) (A : Option Addr) (m k : Nat) (h : Both B w d c S) (hB : B ≤ w.heap.size) (hk : kind ≠ 1 ∧ kind ≠ 2 ∧ kind ≠ 3 ∧ kind ≠ 4 ∧ kind ≠ 5) :
    Calls Try.prog 12 #[.pointer (some ⟨d, 0, none⟩), .pointer (some ⟨c, 0, none⟩), .agg #[.int .i64 kind, .int .i64 n, .slice A m k]] w (OnePost B w d c S) := by
  have q1 : (kind == 1) = false := by simpa using hk.1
  have q2 : (kind == 2) = false := by simpa using hk.2.1
  have q3 : (kind == 3) = false := by simpa using hk.2.2.1
  have q4 : (kind == 4) = false := by simpa using hk.2.2.2.1
  have q5 : (kind == 5) = false := by simpa using hk.2.2.2.2
  have hend := Lib.hid (OnePost.same (w := w) (h.below (below_alloc w (.cells #[.int .i64 kind, .int .i64 n, .slice A m k] 36))) ((below_alloc w (.cells #[.int .i64 kind, .int .i64 n, .slice A m k] 36)).mono hB))
  clear hk
  go_enter Try.func12, Try.ntmps12
  go_wp2
  go_ret
  exact hend.out

set_option maxRecDepth 100000 in
set_option maxHeartbeats 3200000 in
theorem one_cut (B : Nat) (w : World) (d c : Nat) (S : DS) (n : Int) (A : Option Addr) (m k : Nat) (h : Both B w d c S) (hB : B ≤ w.heap.size) (hn : -9223372036854775808 ≤ n ∧ n ≤ 9223372036854775807) :
    Calls Try.prog 12 #[.pointer (some ⟨d, 0, none⟩), .pointer (some ⟨c, 0, none⟩), .agg #[.int .i64 4, .int .i64 n, .slice A m k]] w (OnePost B w d c S) := by
  obtain ⟨w1, hw1⟩ : ∃ w1, w1 = w.alloc (.cells #[.int .i64 4, .int .i64 n, .slice A m k] 36) := ⟨_, rfl⟩
  have hb1 : Below w.heap.size w w1 := by rw [hw1]; exact below_alloc _ _
  have hP : Blk w1 w.heap.size 36 [.int .i64 4, .int .i64 n, .slice A m k] := by rw [hw1]; exact Blk.new _ _ _
  have hPF : ∀ F : Nat → Prop, (∀ k, F k → k < w.heap.size) → ¬ F w.heap.size := fun F hF hk => by have := hF _ hk; omega
  obtain ⟨F, G, hF, hG, hd, hFB, hGB⟩ := h
  have hPF1 := hPF F (fun k hk => hF.fin hk)
  have hPG1 := hPF G (fun k hk => hG.fin hk)
  have hF1 := hF.only (Only.of_below (F := Nothing) hb1) (fun _ _ hk => hk)
  have hG1 := hG.only (Only.of_below (F := Nothing) hb1) (fun _ _ hk => hk)
  have hB1 : B ≤ w1.heap.size := Nat.le_trans hB hb1.size
  have Hw1 := Lib.hid hw1
  clear hw1 hPF
  go_enter Try.func12, Try.ntmps12
  go_wp2_with fail
  rw [← Hw1.out]
  refine (dcut_is F w1 d S hF1 n hn.1 hn.2).mono ?_
  rintro e w2 ⟨rfl, hF2, hO2⟩
  have hP2 := hO2.blk hP hPF1
  have hG2 := hG1.only hO2 (fun k hg hf => hd k hf hg)
  have hcN := hP2.cell (i := 1) rfl
  clear Hw1
  go_wp2_with fail
  refine (rsetCut_is G w2 c S n hG2 hn.1 hn.2).mono ?_
  rintro e w3 ⟨rfl, hG3, hO3⟩
  obtain ⟨hboth, hbel⟩ := both_step hF1 hG1 hd hFB hGB hB1 hF2 hO2 (hG3.mono (G := More G w2 w3) (fun _ _ h => Or.inl h) (fun k hk => by rcases hk with hk | hk; exact hG3.fin hk; exact hk.2)) hO3
  go_wp2
  go_ret
  exact ⟨rfl, _, hboth, (hb1.mono hB).trans hbel, by show S.waits.length ≤ _; omega, rfl⟩

theorem count_len (S : DS) (k : Nat) : (S.count k).waits = S.waits ∧ (S.count k).kept = S.kept := ⟨rfl, rfl⟩
theorem keepTo_len (S : DS) (k : Nat) : (S.keepTo k).kept.length = S.kept.length := by
  unfold DS.keepTo
  show (List.foldl _ S.kept _).length = _
  generalize S.waits.take k = l
  generalize hK : S.kept = K
  clear hK
  induction l generalizing K with
  | nil => rfl
  | cons p l ih => rw [List.foldl_cons, ih, List.length_set]
theorem flushed_len (S : DS) : S.flushed.waits = [] ∧ S.flushed.kept.length = S.kept.length := ⟨rfl, keepTo_len S _⟩
theorem crashed_len (S : DS) (cs : List Int) : (S.crashed cs).waits = [] ∧ (S.crashed cs).kept.length = S.kept.length := ⟨rfl, (crashTo_same S cs _).2⟩

set_option maxRecDepth 100000 in
set_option maxHeartbeats 3200000 in
theorem one_crash (B : Nat) (w : World) (d c : Nat) (S : DS) (n : Int) (A : Option Addr) (m k : Nat) (h : Both B w d c S) (hB : B ≤ w.heap.size) (cs : List Int) (hx : Sl w A m (u8s cs)) (hcs : ∀ x ∈ cs, 0 ≤ x ∧ x < 256) (hm : m ≤ 9223372036854775807) (hA : ∀ ad, A = some ad → 0 < m → ad.block < B) :
    Calls Try.prog 12 #[.pointer (some ⟨d, 0, none⟩), .pointer (some ⟨c, 0, none⟩), .agg #[.int .i64 5, .int .i64 n, .slice A m k]] w (OnePost B w d c S) := by
  obtain ⟨w1, hw1⟩ : ∃ w1, w1 = w.alloc (.cells #[.int .i64 5, .int .i64 n, .slice A m k] 36) := ⟨_, rfl⟩
  have hb1 : Below w.heap.size w w1 := by rw [hw1]; exact below_alloc _ _
  have hP : Blk w1 w.heap.size 36 [.int .i64 5, .int .i64 n, .slice A m k] := by rw [hw1]; exact Blk.new _ _ _
  have hPF : ∀ F : Nat → Prop, (∀ k, F k → k < w.heap.size) → ¬ F w.heap.size := fun F hF hk => by have := hF _ hk; omega
  obtain ⟨F, G, hF, hG, hd, hFB, hGB⟩ := h
  have hPF1 := hPF F (fun k hk => hF.fin hk)
  have hPG1 := hPF G (fun k hk => hG.fin hk)
  have hF1 := hF.only (Only.of_below (F := Nothing) hb1) (fun _ _ hk => hk)
  have hG1 := hG.only (Only.of_below (F := Nothing) hb1) (fun _ _ hk => hk)
  have hB1 : B ≤ w1.heap.size := Nat.le_trans hB hb1.size
  have hp1 : w.heap.size < w1.heap.size := hP.lt
  have hdG : ∀ k, G k → ¬ F k := fun k hg hf => hd k hf hg
  have Hw1 := Lib.hid hw1
  clear hw1 hPF
  have hAF : ∀ ad, A = some ad → 0 < m → ¬ F ad.block := fun ad e h0 hf => by have := hA ad e h0; have := hFB _ hf; omega
  have hAG : ∀ ad, A = some ad → 0 < m → ¬ G ad.block := fun ad e h0 hf => by have := hA ad e h0; have := hGB _ hf; omega
  have hx1 := hx.below hb1
  go_enter Try.func12, Try.ntmps12
  go_wp2_with fail
  rw [← Hw1.out]
  clear Hw1
  refine (dcrash_is F w1 d S hF1 A m k cs hx1 hcs hm hAF).mono ?_
  rintro e w2 ⟨rfl, hF2, hO2⟩
  have hP2 := hO2.blk hP hPF1
  have hG2 := hG1.only hO2 hdG
  have hx2 := hx1.only hO2 hAF
  have hcB := hP2.cell (i := 2) rfl
  go_wp2_with fail
  refine (rcrash_is G w2 c S A m k cs hG2 hx2 hcs hm hAG).mono ?_
  rintro e w3 ⟨rfl, hG3, hO3⟩
  obtain ⟨hboth, hbel⟩ := both_step hF1 hG1 hd hFB hGB hB1 hF2 hO2 hG3 hO3
  go_wp2
  go_ret
  exact ⟨rfl, _, hboth, (hb1.mono hB).trans hbel, by rw [(crashed_len S cs).1]; simp, (crashed_len S cs).2⟩

set_option maxRecDepth 100000 in
set_option maxHeartbeats 3200000 in
theorem one_flush_off (B : Nat) (w : World) (d c : Nat) (S : DS) (n : Int) (A : Option Addr) (m k : Nat) (h : Both B w d c S) (hB : B ≤ w.heap.size) (ho : S.off = true) :
    Calls Try.prog 12 #[.pointer (some ⟨d, 0, none⟩), .pointer (some ⟨c, 0, none⟩), .agg #[.int .i64 2, .int .i64 n, .slice A m k]] w (OnePost B w d c S) := by
  obtain ⟨w1, hw1⟩ : ∃ w1, w1 = w.alloc (.cells #[.int .i64 2, .int .i64 n, .slice A m k] 36) := ⟨_, rfl⟩
  have hb1 : Below w.heap.size w w1 := by rw [hw1]; exact below_alloc _ _
  have hP : Blk w1 w.heap.size 36 [.int .i64 2, .int .i64 n, .slice A m k] := by rw [hw1]; exact Blk.new _ _ _
  have hPF : ∀ F : Nat → Prop, (∀ k, F k → k < w.heap.size) → ¬ F w.heap.size := fun F hF hk => by have := hF _ hk; omega
  obtain ⟨F, G, hF, hG, hd, hFB, hGB⟩ := h
  have hPF1 := hPF F (fun k hk => hF.fin hk)
  have hPG1 := hPF G (fun k hk => hG.fin hk)
  have hF1 := hF.only (Only.of_below (F := Nothing) hb1) (fun _ _ hk => hk)
  have hG1 := hG.only (Only.of_below (F := Nothing) hb1) (fun _ _ hk => hk)
  have hB1 : B ≤ w1.heap.size := Nat.le_trans hB hb1.size
  have hp1 : w.heap.size < w1.heap.size := hP.lt
  have hdG : ∀ k, G k → ¬ F k := fun k hg hf => hd k hf hg
  have Hw1 := Lib.hid hw1
  clear hw1 hPF
  go_enter Try.func12, Try.ntmps12
  go_wp2_with fail
  rw [← Hw1.out]
  clear Hw1
  refine (dflush_off F w1 d S hF1 ho).mono ?_
  rintro e w2 ⟨rfl, hO2⟩
  have hG2 := hG1.only hO2 (fun _ _ hk => hk)
  go_wp2_with fail
  refine (rflush_off G w2 c S hG2 ho).mono ?_
  rintro e w3 ⟨rfl, hw3⟩
  obtain rfl := hw3.symm
  have hfin := OnePost.same (B := B) (w := w) (w' := w2) (d := d) (c := c) (S := S) ⟨F, G, hF1.only hO2 (fun _ _ hk => hk), hG2, hd, hFB, hGB⟩ ((hb1.mono hB).trans (hO2.nothing_below hB1))
  go_wp2
  go_ret
  exact hfin

set_option maxRecDepth 100000 in
set_option maxHeartbeats 3200000 in
theorem one_flush_gone (B : Nat) (w : World) (d c : Nat) (S : DS) (n : Int) (A : Option Addr) (m k : Nat) (h : Both B w d c S) (hB : B ≤ w.heap.size) (ho : S.off = false) (hg : (S.goes 2).2 = true) :
    Calls Try.prog 12 #[.pointer (some ⟨d, 0, none⟩), .pointer (some ⟨c, 0, none⟩), .agg #[.int .i64 2, .int .i64 n, .slice A m k]] w (OnePost B w d c S) := by
  obtain ⟨w1, hw1⟩ : ∃ w1, w1 = w.alloc (.cells #[.int .i64 2, .int .i64 n, .slice A m k] 36) := ⟨_, rfl⟩
  have hb1 : Below w.heap.size w w1 := by rw [hw1]; exact below_alloc _ _
  have hP : Blk w1 w.heap.size 36 [.int .i64 2, .int .i64 n, .slice A m k] := by rw [hw1]; exact Blk.new _ _ _
  have hPF : ∀ F : Nat → Prop, (∀ k, F k → k < w.heap.size) → ¬ F w.heap.size := fun F hF hk => by have := hF _ hk; omega
  obtain ⟨F, G, hF, hG, hd, hFB, hGB⟩ := h
  have hPF1 := hPF F (fun k hk => hF.fin hk)
  have hPG1 := hPF G (fun k hk => hG.fin hk)
  have hF1 := hF.only (Only.of_below (F := Nothing) hb1) (fun _ _ hk => hk)
  have hG1 := hG.only (Only.of_below (F := Nothing) hb1) (fun _ _ hk => hk)
  have hB1 : B ≤ w1.heap.size := Nat.le_trans hB hb1.size
  have hp1 : w.heap.size < w1.heap.size := hP.lt
  have hdG : ∀ k, G k → ¬ F k := fun k hg hf => hd k hf hg
  have Hw1 := Lib.hid hw1
  clear hw1 hPF
  go_enter Try.func12, Try.ntmps12
  go_wp2_with fail
  rw [← Hw1.out]
  clear Hw1
  refine (dflush_gone F w1 d S hF1 ho hg).mono ?_
  rintro e w2 ⟨rfl, hF2, hO2⟩
  have hG2 := hG1.only hO2 hdG
  go_wp2_with fail
  refine (rflush_gone G w2 c S hG2 ho hg).mono ?_
  rintro e w3 ⟨rfl, hG3, hO3⟩
  obtain ⟨hboth, hbel⟩ := both_step hF1 hG1 hd hFB hGB hB1 hF2 hO2 (hG3.mono (G := More G w2 w3) (fun _ _ h => Or.inl h) (fun k hk => by rcases hk with hk | hk; exact hG3.fin hk; exact hk.2)) hO3
  have hlen := goes_len S 2
  go_wp2
  go_ret
  exact ⟨rfl, _, hboth, (hb1.mono hB).trans hbel, by rw [hlen.2.2.1]; omega, by rw [hlen.1]⟩

set_option maxRecDepth 100000 in
set_option maxHeartbeats 3200000 in
theorem one_flush_in (B : Nat) (w : World) (d c : Nat) (S : DS) (n : Int) (A : Option Addr) (m k : Nat) (h : Both B w d c S) (hB : B ≤ w.heap.size) (ho : S.off = false) (hg : (S.goes 2).2 = false) :
    Calls Try.prog 12 #[.pointer (some ⟨d, 0, none⟩), .pointer (some ⟨c, 0, none⟩), .agg #[.int .i64 2, .int .i64 n, .slice A m k]] w (OnePost B w d c S) := by
  obtain ⟨w1, hw1⟩ : ∃ w1, w1 = w.alloc (.cells #[.int .i64 2, .int .i64 n, .slice A m k] 36) := ⟨_, rfl⟩
  have hb1 : Below w.heap.size w w1 := by rw [hw1]; exact below_alloc _ _
  have hP : Blk w1 w.heap.size 36 [.int .i64 2, .int .i64 n, .slice A m k] := by rw [hw1]; exact Blk.new _ _ _
  have hPF : ∀ F : Nat → Prop, (∀ k, F k → k < w.heap.size) → ¬ F w.heap.size := fun F hF hk => by have := hF _ hk; omega
  obtain ⟨F, G, hF, hG, hd, hFB, hGB⟩ := h
  have hPF1 := hPF F (fun k hk => hF.fin hk)
  have hPG1 := hPF G (fun k hk => hG.fin hk)
  have hF1 := hF.only (Only.of_below (F := Nothing) hb1) (fun _ _ hk => hk)
  have hG1 := hG.only (Only.of_below (F := Nothing) hb1) (fun _ _ hk => hk)
  have hB1 : B ≤ w1.heap.size := Nat.le_trans hB hb1.size
  have hp1 : w.heap.size < w1.heap.size := hP.lt
  have hdG : ∀ k, G k → ¬ F k := fun k hg hf => hd k hf hg
  have Hw1 := Lib.hid hw1
  clear hw1 hPF
  go_enter Try.func12, Try.ntmps12
  go_wp2_with fail
  rw [← Hw1.out]
  clear Hw1
  refine (dflush_in F w1 d S hF1 ho hg).mono ?_
  rintro e w2 ⟨rfl, hF2, hO2⟩
  have hG2 := hG1.only hO2 hdG
  go_wp2_with fail
  refine (rflush_in G w2 c S hG2 ho hg).mono ?_
  rintro e w3 ⟨rfl, hG3, hO3⟩
  obtain ⟨hboth, hbel⟩ := both_step hF1 hG1 hd hFB hGB hB1 hF2 hO2 (hG3.mono (G := More G w2 w3) (fun _ _ h => Or.inl h) (fun k hk => by rcases hk with hk | hk; exact hG3.fin hk; exact hk.2)) hO3
  have hlen := goes_len S 2
  go_wp2
  go_ret
  exact ⟨rfl, _, hboth, (hb1.mono hB).trans hbel, by rw [(flushed_len _).1]; simp, by rw [(flushed_len _).2, hlen.1]⟩
end Go.Proofs.Ythdclncgmhgmfaa
