/- A disk of the program, and the document's, side by side. -/
import Derived.Test.YthdclncgmhgmfaaPDisk
import Derived.Test.YthdclncgmhgmfaaFull
import Derived.Test.YthdclncgmhgmfaaDos
import Derived.Test.YthdclncgmhgmfaaSame
namespace Go.Proofs.Ythdclncgmhgmfaa
open Go.RowKit Go.Deep
set_option linter.unusedSimpArgs false
set_option linter.unusedVariables false

/-- Both are the same disk, in blocks of their own, all of them from B on. -/
def Both (B : Nat) (w : World) (d c : Nat) (S : DS) : Prop := ∃ F G, PD F w d S ∧ RD G w c S ∧ (∀ k, F k → ¬ G k) ∧ (∀ k, F k → B ≤ k) ∧ (∀ k, G k → B ≤ k)

theorem Only.nothing_below {w w' : World} (h : Only Nothing w w') {B : Nat} (hB : B ≤ w.heap.size) : Below B w w' := h.below hB (fun _ hk => hk.elim)
theorem Only.of_nothing {F : Nat → Prop} {w w' : World} (h : Only Nothing w w') : Only F w w' := h.mono (fun _ _ hk => hk.elim)
theorem Both.nothing {B : Nat} {w w' : World} {d c : Nat} {S : DS} (h : Both B w d c S) (ho : Only Nothing w w') : Both B w' d c S := by
  obtain ⟨F, G, h1, h2, h3, h4, h5⟩ := h
  exact ⟨F, G, h1.only ho (fun _ _ hk => hk), h2.only ho (fun _ _ hk => hk), h3, h4, h5⟩
theorem Both.below {B : Nat} {w w' : World} {d c : Nat} {S : DS} (h : Both B w d c S) (ho : Below w.heap.size w w') : Both B w' d c S := h.nothing (Only.of_below ho)
theorem Both.wf {B : Nat} {w : World} {d c : Nat} {S : DS} (h : Both B w d c S) : DWf S := by
  obtain ⟨F, G, h1, _⟩ := h; exact h1.wf
/-- One call of each. -/
theorem both_step {B : Nat} {F G : Nat → Prop} {w w1 w2 : World} {d c : Nat} {S S1 : DS} (hF : PD F w d S) (hG : RD G w c S) (hd : ∀ k, F k → ¬ G k) (hFB : ∀ k, F k → B ≤ k) (hGB : ∀ k, G k → B ≤ k) (hB : B ≤ w.heap.size)
    (h1 : PD (More F w w1) w1 d S1) (o1 : Only F w w1) (h2 : RD (More G w1 w2) w2 c S1) (o2 : Only G w1 w2) : Both B w2 d c S1 ∧ Below B w w2 := by
  have hd1 : ∀ k, More F w w1 k → ¬ G k := by
    intro k hk hg
    rcases hk with hk | hk
    · exact hd k hk hg
    · have := hG.fin hg; omega
  refine ⟨⟨More F w w1, More G w1 w2, h1.only o2 hd1, h2, ?_, ?_, ?_⟩, ?_⟩
  · intro k hk hg
    rcases hg with hg | hg
    · exact hd1 k hk hg
    · have := h1.fin hk; omega
  · intro k hk
    rcases hk with hk | hk
    · exact hFB k hk
    · omega
  · intro k hk
    rcases hk with hk | hk
    · exact hGB k hk
    · have := o1.size; omega
  · exact (o1.below hB hFB).trans (o2.below (Nat.le_trans hB o1.size) hGB)
theorem goneErr_same (p : Bool) : goneErr p = goneErr p := rfl

set_option maxHeartbeats 800000 in
/-- Few: at most 40, of at most 200 bytes each. -/
theorem few_is (w : World) (A : Option Addr) (n c : Nat) (V : Nat → Nat → Int) (Bv : Nat → Value) (Z : Nat → List Int) (hx : Dos w A n 2 V Bv Z) (hok : DosOk n 2 V Z) (hn : n ≤ 9223372036854775807) :
    Calls Try.prog 8 #[.slice A n c] w fun e w' => ∃ q, e = .returned (.bool q) ∧ (q = true → n ≤ 40) ∧ Below w.heap.size w w' := by
  go_enter Try.func8, Try.ntmps8
  go_wp2_with fail
  go_loopw [7] (fun i wr => ∃ k : Nat, k ≤ n ∧ i = .int .i64 k ∧ Below w.heap.size w wr) (fun i _ => n - (intOf i).toNat)
  case atStart => exact ⟨0, by omega, rfl, Below.refl _ _⟩
  case round =>
    obtain ⟨k, hk, rfl, hb⟩ := hrel
    by_cases hlt : k < n
    · obtain ⟨ad, A', c', rfl, hc0, hc1, hc2, _⟩ := (hx.below hb).three hlt
      have hlz := (hok k hlt).2.2
      obtain ⟨m, hm⟩ : ∃ m, m = (Z k).length := ⟨_, rfl⟩
      rw [← hm] at hc2 hlz
      clear hm
      obtain ⟨wd, hwd⟩ : ∃ wd, wd = wr.alloc (.cells #[.int .i64 (V k 0), .int .i64 (V k 1), .slice A' m c'] 36) := ⟨_, rfl⟩
      have hbd : Below w.heap.size w wd := by rw [hwd]; exact hb.trans ((below_alloc _ _).mono hb.size)
      have Hwd := Lib.hid hwd
      clear hwd
      by_cases hbig : 200 < m
      · go_wp2
        go_ret
        rw [← Hwd.out]
        exact ⟨false, rfl, by simp, hbd⟩
      · go_wp2
        rw [← Hwd.out]
        go_roundw
        case rel => exact ⟨k + 1, by omega, by go_num, hbd⟩
        case measure => simp [intOf]; omega
    · obtain rfl : k = n := by omega
      by_cases h40 : k ≤ 40
      · have hd : decide ((k : Int) ≤ 40) = true := decide_eq_true (by omega)
        go_wp2
        go_ret
        exact ⟨true, rfl, fun _ => h40, hb⟩
      · have hd : decide ((k : Int) ≤ 40) = false := decide_eq_false (by omega)
        go_wp2
        go_ret
        exact ⟨false, rfl, by simp, hb⟩
end Go.Proofs.Ythdclncgmhgmfaa
