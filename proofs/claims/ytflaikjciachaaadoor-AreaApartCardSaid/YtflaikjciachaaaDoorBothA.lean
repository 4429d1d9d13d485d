/- An area of the program's disk, and the document's disk, side by side. -/
import Derived.Test.YtflaikjciachaaaDoorPArea
import Derived.Test.YtflaikjciachaaaDoorM4
import Derived.Test.YtflaikjciachaaaDoorM1
namespace Go.Proofs.YtflaikjciachaaaDoor
set_option maxRecDepth 100000
open Go.RowKit Go.Deep
set_option linter.unusedSimpArgs false
set_option linter.unusedVariables false

theorem Dos.five {w : World} {A : Option Addr} {n : Nat} {V : Nat → Nat → Int} {Bv : Nat → Value} {Z : Nat → List Int} (h : Dos w A n 4 V Bv Z) {k : Nat} (hk : k < n) :
    ∃ ad A' c, A = some ad ∧ w.cell? (ad.add (k * 5)) = some (.int .i64 (V k 0)) ∧ w.cell? ⟨(ad.add (k * 5)).block, (ad.add (k * 5)).off + 1, none⟩ = some (.int .i64 (V k 1)) ∧ w.cell? ⟨(ad.add (k * 5)).block, (ad.add (k * 5)).off + 2, none⟩ = some (.int .i64 (V k 2)) ∧ w.cell? ⟨(ad.add (k * 5)).block, (ad.add (k * 5)).off + 3, none⟩ = some (.int .i64 (V k 3)) ∧ w.cell? ⟨(ad.add (k * 5)).block, (ad.add (k * 5)).off + 4, none⟩ = some (.slice A' (Z k).length c) ∧ Sl w A' (Z k).length (u8s (Z k)) := by
  obtain ⟨ad, e, h1, h2, A', c, h3, h4⟩ := h k hk
  have g0 := h1 0 (by omega)
  have g1 := h1 1 (by omega)
  have g2 := h1 2 (by omega)
  have g3 := h1 3 (by omega)
  rw [h3] at h2
  rw [← addr_twice] at g1 g2 g3 h2
  exact ⟨ad, A', c, e, g0, g1, g2, g3, h2, h4⟩

/-- Blocks that stay as they are. -/
def Kept (K : Nat → Prop) (w w' : World) : Prop := ∀ k, K k → w'.heap[k]? = w.heap[k]?
theorem Kept.trans {K : Nat → Prop} {w w' w'' : World} (h : Kept K w w') (h2 : Kept K w' w'') : Kept K w w'' := fun k hk => (h2 k hk).trans (h k hk)
theorem Kept.of_below {K : Nat → Prop} {w w' : World} (hK : ∀ k, K k → k < w.heap.size) (h : Below w.heap.size w w') : Kept K w w' := fun k hk => h.block k (hK k hk)
/-- Both are the same disk, in blocks of their own, all of them from B on; the blocks of K (the area's, at a, too) are none of them. -/
def BothA (B : Nat) (K : Nat → Prop) (w : World) (a d c : Nat) (S : DS) (f m : Int) : Prop := ∃ F G, PD F w d S ∧ RD G w c S ∧ (∀ k, F k → ¬ G k) ∧ (∀ k, F k → B ≤ k) ∧ (∀ k, G k → B ≤ k) ∧ (∀ k, K k → ¬ F k ∧ ¬ G k ∧ k < w.heap.size) ∧ PArea w a d f m ∧ K a

theorem Only.nothing_below' {w w' : World} (h : Only Nothing w w') {B : Nat} (hB : B ≤ w.heap.size) : Below B w w' := h.below hB (fun _ hk => hk.elim)
theorem BothA.below {B : Nat} {K : Nat → Prop} {w w' : World} {a d c : Nat} {S : DS} {f m : Int} (h : BothA B K w a d c S f m) (ho : Below w.heap.size w w') : BothA B K w' a d c S f m := by
  obtain ⟨F, G, h1, h2, h3, h4, h5, h6, h7, h8⟩ := h
  exact ⟨F, G, h1.only (Only.of_below (F := Nothing) ho) (fun _ _ hk => hk), h2.only (Only.of_below (F := Nothing) ho) (fun _ _ hk => hk), h3, h4, h5, fun k hk => ⟨(h6 k hk).1, (h6 k hk).2.1, Nat.lt_of_lt_of_le (h6 k hk).2.2 ho.size⟩, h7.kept (ho.block _ h7.lt), h8⟩
theorem BothA.there {B : Nat} {K : Nat → Prop} {w : World} {a d c : Nat} {S : DS} {f m : Int} (h : BothA B K w a d c S f m) {k : Nat} (hk : K k) : k < w.heap.size := by
  obtain ⟨F, G, h1, h2, h3, h4, h5, h6, h7, h8⟩ := h
  exact (h6 k hk).2.2
/-- One call of each. -/
theorem bothA_step {B : Nat} {K F G : Nat → Prop} {w w1 w2 : World} {a d c : Nat} {S S1 : DS} {f m : Int} (hF : PD F w d S) (hG : RD G w c S) (hd : ∀ k, F k → ¬ G k) (hFB : ∀ k, F k → B ≤ k) (hGB : ∀ k, G k → B ≤ k) (hK : ∀ k, K k → ¬ F k ∧ ¬ G k ∧ k < w.heap.size) (ha : PArea w a d f m) (hKa : K a) (hB : B ≤ w.heap.size)
    (h1 : PD (More F w w1) w1 d S1) (o1 : Only F w w1) (h2 : RD (More G w1 w2) w2 c S1) (o2 : Only G w1 w2) : BothA B K w2 a d c S1 f m ∧ Below B w w2 ∧ Kept K w w2 := by
  have hd1 : ∀ k, More F w w1 k → ¬ G k := by
    intro k hk hg
    rcases hk with hk | hk
    · exact hd k hk hg
    · have := hG.fin hg; omega
  have hkp : Kept K w w2 := fun k hk => (o2.block k (Nat.lt_of_lt_of_le (hK k hk).2.2 o1.size) (hK k hk).2.1).trans (o1.block k (hK k hk).2.2 (hK k hk).1)
  refine ⟨⟨More F w w1, More G w1 w2, h1.only o2 hd1, h2, ?_, ?_, ?_, ?_, ?_, hKa⟩, ?_, hkp⟩
  · intro k hk hg
    rcases hg with hg | hg
    · exact hd1 k hk hg
    · have := h1.fin hk; omega
  · intro k hk
    rcases hk with hk | hk
    · exact hFB k hk
    · omega
  · intro k hk
    rcases hk with hk | hk
    · exact hGB k hk
    · have := o1.size; omega
  · intro k hk
    have hl := (hK k hk).2.2
    refine ⟨fun h => ?_, fun h => ?_, Nat.lt_of_lt_of_le hl (Nat.le_trans o1.size o2.size)⟩
    · rcases h with h | h
      · exact (hK k hk).1 h
      · omega
    · rcases h with h | h
      · exact (hK k hk).2.1 h
      · have := o1.size; omega
  · exact ha.kept (hkp a hKa)
  · exact (o1.below hB hFB).trans (o2.below (Nat.le_trans hB o1.size) hGB)

/-- What 'one' leaves: true; both as they are, and the kept blocks; at most one piece more that waits. -/
def OnePostA (B : Nat) (K : Nat → Prop) (w : World) (a d c : Nat) (S : DS) (f m : Int) (e : Ending) (w' : World) : Prop :=
  e = .returned (.bool true) ∧ ∃ S', BothA B K w' a d c S' f m ∧ Below B w w' ∧ Kept K w w' ∧ S'.waits.length ≤ S.waits.length + 1 ∧ S'.kept.length = S.kept.length

set_option maxHeartbeats 800000 in
/-- Few: at most 40, of at most 200 bytes each. -/
theorem few8_is (w : World) (A : Option Addr) (n c : Nat) (V : Nat → Nat → Int) (Bv : Nat → Value) (Z : Nat → List Int) (hx : Dos w A n 4 V Bv Z) (hok : DosOk n 4 V Z) (hn : n ≤ 9223372036854775807) :
    Calls Tryd.prog 12 #[.slice A n c] w fun e w' => ∃ q, e = .returned (.bool q) ∧ (q = true → n ≤ 40) ∧ Below w.heap.size w w' := by
  go_enter Tryd.func12, Tryd.ntmps12
  go_wp2_with fail
  go_loopw [7] (fun i wr => ∃ k : Nat, k ≤ n ∧ i = .int .i64 k ∧ Below w.heap.size w wr) (fun i _ => n - (intOf i).toNat)
  case atStart => exact ⟨0, by omega, rfl, Below.refl _ _⟩
  case round =>
    obtain ⟨k, hk, rfl, hb⟩ := hrel
    by_cases hlt : k < n
    · obtain ⟨ad, A', c', rfl, hc0, hc1, hc2, hc3, hc4, _⟩ := (hx.below hb).five hlt
      have hlz := (hok k hlt).2.2
      obtain ⟨m, hm⟩ : ∃ m, m = (Z k).length := ⟨_, rfl⟩
      rw [← hm] at hc4 hlz
      clear hm
      obtain ⟨wd, hwd⟩ : ∃ wd, wd = wr.alloc (.cells #[.int .i64 (V k 0), .int .i64 (V k 1), .int .i64 (V k 2), .int .i64 (V k 3), .slice A' m c'] 46) := ⟨_, rfl⟩
      have hbd : Below w.heap.size w wd := by rw [hwd]; exact hb.trans ((below_alloc _ _).mono hb.size)
      have Hwd := Lib.hid hwd
      clear hwd
      by_cases hbig : 200 < m
      · go_wp2
        go_ret
        rw [← Hwd.out]
        exact ⟨false, rfl, by simp, hbd⟩
      · go_wp2
        rw [← Hwd.out]
        go_roundw
        case rel => exact ⟨k + 1, by omega, by go_num, hbd⟩
        case measure => simp [intOf]; omega
    · obtain rfl : k = n := by omega
      by_cases h40 : k ≤ 40
      · have hd : decide ((k : Int) ≤ 40) = true := decide_eq_true (by omega)
        go_wp2
        go_ret
        exact ⟨true, rfl, fun _ => h40, hb⟩
      · have hd : decide ((k : Int) ≤ 40) = false := decide_eq_false (by omega)
        go_wp2
        go_ret
        exact ⟨false, rfl, by simp, hb⟩
end Go.Proofs.YtflaikjciachaaaDoor
