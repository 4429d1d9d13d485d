/- Merged texts: DLen DAny PN Tabs RArea PPlan. -/
import Derived.Test.YteliebinhdphlaaDoorM3
import Derived.Test.YteliebinhdphlaaDoorM4
import Derived.Test.YteliebinhdphlaaDoorM1
import Derived.Test.YteliebinhdphlaaDoorM2
import Derived.Laws.ResultCell
import Derived.Deep.WholeRow
/- How many pieces wait, and sectors there are, behind what is done to a disk. -/
namespace Go.Proofs.YteliebinhdphlaaDoor
set_option maxRecDepth 100000
open Go.RowKit Go.Deep
set_option linter.unusedSimpArgs false
set_option linter.unusedVariables false

theorem count_len (S : DS) (k : Nat) : (S.count k).waits = S.waits ∧ (S.count k).kept = S.kept := ⟨rfl, rfl⟩
theorem keepTo_len (S : DS) (k : Nat) : (S.keepTo k).kept.length = S.kept.length := by
  unfold DS.keepTo
  show (List.foldl _ S.kept _).length = _
  generalize S.waits.take k = l
  generalize hK : S.kept = K
  clear hK
  induction l generalizing K with
  | nil => rfl
  | cons p l ih => rw [List.foldl_cons, ih, List.length_set]
theorem flushed_len (S : DS) : S.flushed.waits = [] ∧ S.flushed.kept.length = S.kept.length := ⟨rfl, keepTo_len S _⟩
theorem crashed_len (S : DS) (cs : List Int) : (S.crashed cs).waits = [] ∧ (S.crashed cs).kept.length = S.kept.length := ⟨rfl, (crashTo_same S cs _).2⟩
end Go.Proofs.YteliebinhdphlaaDoor

/- A disk, by one contract for each thing done, whatever the case: the program's, and the document's. -/
namespace Go.Proofs.YteliebinhdphlaaDoor
set_option maxRecDepth 100000
open Go.RowKit Go.Deep
set_option linter.unusedSimpArgs false
set_option linter.unusedVariables false

/-- What a read answers: the sector, the error, and the disk behind it. -/
def DS.readOf (S : DS) (n : Int) : List Int × Int × DS :=
  if S.off = true then (zeros128, 50, S) else if n < 0 ∨ (S.kept.length : Int) ≤ n then (zeros128, 51, S) else (S.at_ n.toNat, 0, S.count 0)
def DS.writeOf (S : DS) (n : Int) (bs : List Int) : Int × DS :=
  if S.off = true then (50, S) else if n < 0 ∨ (S.kept.length : Int) ≤ n then (51, S) else if S.isUse n = false ∧ S.room ≤ (S.used : Int) then (52, S)
  else (goneErr ((S.put n.toNat bs).goes 1).2, ((S.put n.toNat bs).goes 1).1)
def DS.flushOf (S : DS) : Int × DS := if S.off = true then (50, S) else if (S.goes 2).2 = true then (50, (S.goes 2).1) else (0, (S.goes 2).1.flushed)

theorem readOf_byte {S : DS} (h : DWf S) (n : Int) : Byte128 (S.readOf n).1 := by
  unfold DS.readOf
  split
  · exact zeros_byte
  · split
    · exact zeros_byte
    · exact at_byte h (by omega)
theorem readOf_waits (S : DS) (n : Int) : (S.readOf n).2.2.waits = S.waits := by
  unfold DS.readOf
  split
  · rfl
  · split
    · rfl
    · exact (count_len S 0).1
theorem readOf_kept (S : DS) (n : Int) : (S.readOf n).2.2.kept = S.kept := by
  unfold DS.readOf
  split
  · rfl
  · split
    · rfl
    · exact (count_len S 0).2
theorem writeOf_waits (S : DS) (n : Int) (bs : List Int) : (S.writeOf n bs).2.waits.length ≤ S.waits.length + 1 := by
  unfold DS.writeOf
  split
  · show S.waits.length ≤ _; omega
  · split
    · show S.waits.length ≤ _; omega
    · split
      · show S.waits.length ≤ _; omega
      · show ((S.put n.toNat bs).goes 1).1.waits.length ≤ _
        rw [(goes_len (S.put n.toNat bs) 1).2.2.1]
        simp [DS.put]
theorem writeOf_kept (S : DS) (n : Int) (bs : List Int) : (S.writeOf n bs).2.kept = S.kept := by
  unfold DS.writeOf
  split
  · rfl
  · split
    · rfl
    · split
      · rfl
      · show ((S.put n.toNat bs).goes 1).1.kept = _
        rw [(goes_len (S.put n.toNat bs) 1).1]; rfl
theorem flushOf_waits (S : DS) : S.flushOf.2.waits.length ≤ S.waits.length := by
  unfold DS.flushOf
  split
  · exact Nat.le_refl _
  · split
    · show (S.goes 2).1.waits.length ≤ _
      rw [(goes_len S 2).2.2.1]; exact Nat.le_refl _
    · show (S.goes 2).1.flushed.waits.length ≤ _
      rw [(flushed_len _).1]; simp
theorem flushOf_len (S : DS) : S.flushOf.2.kept.length = S.kept.length := by
  unfold DS.flushOf
  split
  · rfl
  · split
    · show (S.goes 2).1.kept.length = _
      rw [(goes_len S 2).1]
    · show (S.goes 2).1.flushed.kept.length = _
      rw [(flushed_len _).2, (goes_len S 2).1]

section
variable (F : Nat → Prop) (w : World) (b : Nat) (S : DS) (h : PD F w b S)
include h
theorem dread_any (n : Int) (r : List Int × Int × DS) (hr : r = S.readOf n) : Calls Tryd.prog 81 #[.pointer (some ⟨b, 0, none⟩), .int .i64 n] w fun e w' => e = .returned (.tuple #[.agg (u8s r.1).toArray, .int .i64 r.2.1]) ∧ PD (More F w w') w' b r.2.2 ∧ Only F w w' := by
  have still : ∀ er, (Calls Tryd.prog 81 #[.pointer (some ⟨b, 0, none⟩), .int .i64 n] w fun e w' => e = .returned (.tuple #[.agg (u8s zeros128).toArray, .int .i64 er]) ∧ Only Nothing w w') → r = (zeros128, er, S) →
      Calls Tryd.prog 81 #[.pointer (some ⟨b, 0, none⟩), .int .i64 n] w fun e w' => e = .returned (.tuple #[.agg (u8s r.1).toArray, .int .i64 r.2.1]) ∧ PD (More F w w') w' b r.2.2 ∧ Only F w w' := by
    intro er hc e
    refine hc.mono ?_
    rintro e' w' ⟨rfl, hO⟩
    rw [e]
    exact ⟨rfl, More.refl (h.only hO (fun _ _ hk => hk)), hO.mono (fun _ _ hk => hk.elim)⟩
  by_cases ho : S.off = true
  · exact still 50 (dread_off F w b S h n ho) (by rw [hr]; unfold DS.readOf; rw [if_pos ho])
  have ho : S.off = false := by simpa using ho
  by_cases hn : n < 0 ∨ (S.kept.length : Int) ≤ n
  · exact still 51 (dread_out F w b S h n ho hn) (by rw [hr]; unfold DS.readOf; rw [if_neg (by rw [ho]; decide), if_pos hn])
  · obtain ⟨k, rfl⟩ : ∃ k : Nat, n = (k : Int) := ⟨n.toNat, by omega⟩
    have e : r = (S.at_ k, 0, S.count 0) := by rw [hr]; unfold DS.readOf; rw [if_neg (by rw [ho]; decide), if_neg hn]; rfl
    rw [e]
    exact dread_in F w b S h k ho (by omega)
theorem dwrite_any (n : Int) (bs : List Int) (hb : Byte128 bs) (hmany : S.waits.length ≤ 1000000) (r : Int × DS) (hr : r = S.writeOf n bs) : Calls Tryd.prog 75 #[.pointer (some ⟨b, 0, none⟩), .int .i64 n, .agg (u8s bs).toArray] w fun e w' => e = .returned (.int .i64 r.1) ∧ PD (More F w w') w' b r.2 ∧ Only F w w' := by
  have still : ∀ er, (Calls Tryd.prog 75 #[.pointer (some ⟨b, 0, none⟩), .int .i64 n, .agg (u8s bs).toArray] w fun e w' => e = .returned (.int .i64 er) ∧ Only Nothing w w') → r = (er, S) →
      Calls Tryd.prog 75 #[.pointer (some ⟨b, 0, none⟩), .int .i64 n, .agg (u8s bs).toArray] w fun e w' => e = .returned (.int .i64 r.1) ∧ PD (More F w w') w' b r.2 ∧ Only F w w' := by
    intro er hc e
    refine hc.mono ?_
    rintro e' w' ⟨rfl, hO⟩
    rw [e]
    exact ⟨rfl, More.refl (h.only hO (fun _ _ hk => hk)), hO.mono (fun _ _ hk => hk.elim)⟩
  by_cases ho : S.off = true
  · exact still 50 (dwrite_off F w b S h n bs hb ho) (by rw [hr]; unfold DS.writeOf; rw [if_pos ho])
  have ho : S.off = false := by simpa using ho
  by_cases hn : n < 0 ∨ (S.kept.length : Int) ≤ n
  · exact still 51 (dwrite_out F w b S h n bs hb ho hn) (by rw [hr]; unfold DS.writeOf; rw [if_neg (by rw [ho]; decide), if_pos hn])
  · obtain ⟨k, rfl⟩ : ∃ k : Nat, n = (k : Int) := ⟨n.toNat, by omega⟩
    have hk : k < S.kept.length := by omega
    by_cases hu : S.isUse (k : Int) = false ∧ S.room ≤ (S.used : Int)
    · exact still 52 (dwrite_full F w b S h k bs hb ho hk hu.1 hu.2) (by rw [hr]; unfold DS.writeOf; rw [if_neg (by rw [ho]; decide), if_neg hn, if_pos hu])
    · have e : r = (goneErr ((S.put k bs).goes 1).2, ((S.put k bs).goes 1).1) := by rw [hr]; unfold DS.writeOf; rw [if_neg (by rw [ho]; decide), if_neg hn, if_neg hu]; rfl
      rw [e]
      refine dwrite_in F w b S h k bs hb ho hk ?_ hmany
      cases e2 : S.isUse (k : Int)
      · exact Or.inr (by rcases Int.lt_or_le (S.used : Int) S.room with e3 | e3; exact e3; exact absurd ⟨e2, e3⟩ hu)
      · exact Or.inl rfl
theorem dflush_any (r : Int × DS) (hr : r = S.flushOf) : Calls Tryd.prog 55 #[.pointer (some ⟨b, 0, none⟩)] w fun e w' => e = .returned (.int .i64 r.1) ∧ PD (More F w w') w' b r.2 ∧ Only F w w' := by
  by_cases ho : S.off = true
  · have e : r = (50, S) := by rw [hr]; unfold DS.flushOf; rw [if_pos ho]
    refine (dflush_off F w b S h ho).mono ?_
    rintro e' w' ⟨rfl, hO⟩
    rw [e]
    exact ⟨rfl, More.refl (h.only hO (fun _ _ hk => hk)), hO.mono (fun _ _ hk => hk.elim)⟩
  have ho : S.off = false := by simpa using ho
  by_cases hg : (S.goes 2).2 = true
  · have e : r = (50, (S.goes 2).1) := by rw [hr]; unfold DS.flushOf; rw [if_neg (by rw [ho]; decide), if_pos hg]
    rw [e]
    exact dflush_gone F w b S h ho hg
  · have e : r = (0, (S.goes 2).1.flushed) := by rw [hr]; unfold DS.flushOf; rw [if_neg (by rw [ho]; decide), if_neg hg]
    rw [e]
    exact dflush_in F w b S h ho (by simpa using hg)
end

/-- What the document's read answers: a row, where there is no error. -/
def ReadRow (G : Nat → Prop) (w : World) (v : Value) (r : List Int × Int × DS) : Prop := (r.2.1 = 0 ∧ BRow G w v r.1) ∨ (r.2.1 ≠ 0 ∧ v = .slice none 0 0)
theorem more_rd {G : Nat → Prop} {w w' : World} {c : Nat} {S : DS} (h : RD G w' c S) (hG : ∀ k, G k → k < w'.heap.size) : RD (More G w w') w' c S :=
  h.mono (fun _ _ h => Or.inl h) (fun k hk => by rcases hk with hk | hk; exact hG k hk; exact hk.2)
theorem rread_any (G : Nat → Prop) (w : World) (c : Nat) (S : DS) (h : RD G w c S) (n : Int) (r : List Int × Int × DS) (hr : r = S.readOf n) :
    Calls Tryd.prog 84 #[.pointer (some ⟨c, 0, none⟩), .int .i64 n] w fun e w' => ∃ v, e = .returned (.tuple #[v, .int .i64 r.2.1]) ∧ ReadRow G w' v r ∧ RD (More G w w') w' c r.2.2 ∧ Only G w w' := by
  by_cases ho : S.off = true
  · have e : r = (zeros128, 50, S) := by rw [hr]; unfold DS.readOf; rw [if_pos ho]
    refine (rread_off G w c S n h ho).mono ?_
    rintro e' w' ⟨rfl, hw⟩
    obtain rfl := hw.symm
    rw [e]
    exact ⟨_, rfl, Or.inr ⟨by show (50 : Int) ≠ 0; decide, rfl⟩, more_rd h (fun k hk => h.fin hk), Only.refl _ _⟩
  have ho : S.off = false := by simpa using ho
  by_cases hn : n < 0 ∨ (S.kept.length : Int) ≤ n
  · have e : r = (zeros128, 51, S) := by rw [hr]; unfold DS.readOf; rw [if_neg (by rw [ho]; decide), if_pos hn]
    refine (rread_out G w c S n h ho hn).mono ?_
    rintro e' w' ⟨rfl, hw⟩
    obtain rfl := hw.symm
    rw [e]
    exact ⟨_, rfl, Or.inr ⟨by show (51 : Int) ≠ 0; decide, rfl⟩, more_rd h (fun k hk => h.fin hk), Only.refl _ _⟩
  · obtain ⟨k, rfl⟩ : ∃ k : Nat, n = (k : Int) := ⟨n.toNat, by omega⟩
    have e : r = (S.at_ k, 0, S.count 0) := by rw [hr]; unfold DS.readOf; rw [if_neg (by rw [ho]; decide), if_neg hn]; rfl
    refine (rread_in G w c S k h ho (by omega)).mono ?_
    rintro e' w' ⟨v, rfl, hv, hd, hO⟩
    rw [e]
    exact ⟨v, rfl, Or.inl ⟨rfl, hv⟩, more_rd hd (fun k hk => hd.fin hk), hO⟩
theorem rwrite_any (G : Nat → Prop) (w : World) (c : Nat) (S : DS) (h : RD G w c S) (n : Int) (A : Option Addr) (m : Nat) (bs : List Int) (hs : Sl w A 128 (u8s bs)) (hb : Byte128 bs) (hmany : S.waits.length ≤ 1000000) (r : Int × DS) (hr : r = S.writeOf n bs) :
    Calls Tryd.prog 87 #[.pointer (some ⟨c, 0, none⟩), .int .i64 n, .slice A 128 m] w fun e w' => e = .returned (.int .i64 r.1) ∧ RD (More G w w') w' c r.2 ∧ Only G w w' := by
  by_cases ho : S.off = true
  · have e : r = (50, S) := by rw [hr]; unfold DS.writeOf; rw [if_pos ho]
    refine (rwrite_off G w c S n A 128 m h ho).mono ?_
    rintro e' w' ⟨rfl, hw⟩
    obtain rfl := hw.symm
    rw [e]
    exact ⟨rfl, more_rd h (fun k hk => h.fin hk), Only.refl _ _⟩
  have ho : S.off = false := by simpa using ho
  by_cases hn : n < 0 ∨ (S.kept.length : Int) ≤ n
  · have e : r = (51, S) := by rw [hr]; unfold DS.writeOf; rw [if_neg (by rw [ho]; decide), if_pos hn]
    refine (rwrite_out G w c S n A 128 m h ho hn).mono ?_
    rintro e' w' ⟨rfl, hw⟩
    obtain rfl := hw.symm
    rw [e]
    exact ⟨rfl, more_rd h (fun k hk => h.fin hk), Only.refl _ _⟩
  · obtain ⟨k, rfl⟩ : ∃ k : Nat, n = (k : Int) := ⟨n.toNat, by omega⟩
    have hk : k < S.kept.length := by omega
    by_cases hu : S.isUse (k : Int) = false ∧ S.room ≤ (S.used : Int)
    · have e : r = (52, S) := by rw [hr]; unfold DS.writeOf; rw [if_neg (by rw [ho]; decide), if_neg hn, if_pos hu]
      refine (rwrite_full G w c S k A 128 m h ho hk hu.1 hu.2).mono ?_
      rintro e' w' ⟨rfl, q, rfl⟩
      rw [e]
      have h2 : RD G (w.drewN q) c S := h.only ((Only.refl Nothing w).drewN q) (fun _ _ hk => hk)
      exact ⟨rfl, more_rd h2 (fun k hk => h2.fin hk), (Only.refl _ _).drewN q⟩
    · have e : r = (goneErr ((S.put k bs).goes 1).2, ((S.put k bs).goes 1).1) := by rw [hr]; unfold DS.writeOf; rw [if_neg (by rw [ho]; decide), if_neg hn, if_neg hu]; rfl
      rw [e]
      refine rwrite_in G w c S k A m bs h ho hk ?_ hmany hs hb
      cases e2 : S.isUse (k : Int)
      · exact Or.inr (by rcases Int.lt_or_le (S.used : Int) S.room with e3 | e3; exact e3; exact absurd ⟨e2, e3⟩ hu)
      · exact Or.inl rfl
theorem rflush_any (G : Nat → Prop) (w : World) (c : Nat) (S : DS) (h : RD G w c S) (r : Int × DS) (hr : r = S.flushOf) :
    Calls Tryd.prog 42 #[.pointer (some ⟨c, 0, none⟩)] w fun e w' => e = .returned (.int .i64 r.1) ∧ RD (More G w w') w' c r.2 ∧ Only G w w' := by
  by_cases ho : S.off = true
  · have e : r = (50, S) := by rw [hr]; unfold DS.flushOf; rw [if_pos ho]
    refine (rflush_off G w c S h ho).mono ?_
    rintro e' w' ⟨rfl, hw⟩
    obtain rfl := hw.symm
    rw [e]
    exact ⟨rfl, more_rd h (fun k hk => h.fin hk), Only.refl _ _⟩
  have ho : S.off = false := by simpa using ho
  by_cases hg : (S.goes 2).2 = true
  · have e : r = (50, (S.goes 2).1) := by rw [hr]; unfold DS.flushOf; rw [if_neg (by rw [ho]; decide), if_pos hg]
    refine (rflush_gone G w c S h ho hg).mono ?_
    rintro e' w' ⟨rfl, hd, hO⟩
    rw [e]
    exact ⟨rfl, more_rd hd (fun k hk => hd.fin hk), hO⟩
  · have e : r = (0, (S.goes 2).1.flushed) := by rw [hr]; unfold DS.flushOf; rw [if_neg (by rw [ho]; decide), if_neg hg]
    refine (rflush_in G w c S h ho (by simpa using hg)).mono ?_
    rintro e' w' ⟨rfl, hd, hO⟩
    rw [e]
    exact ⟨rfl, more_rd hd (fun k hk => hd.fin hk), hO⟩
end Go.Proofs.YteliebinhdphlaaDoor

/- The program's disks that are none: nil, and one that no call made. -/
namespace Go.Proofs.YteliebinhdphlaaDoor
set_option maxRecDepth 100000
open Go.RowKit Go.Deep
set_option linter.unusedSimpArgs false
set_option linter.unusedVariables false
attribute [local irreducible] Tryd.zeroCells72

/-- A disk that is none. -/
def NoD (w : World) (p : Option Addr) : Prop := p = none ∨ ∃ b, p = some ⟨b, 0, none⟩ ∧ Blk w b 101 [.slice none 0 0, .slice none 0 0, .int .i64 0, .int .i64 0, .bool false, .pointer none]
theorem NoD.below {w w' : World} {p : Option Addr} (h : NoD w p) (hb : Below w.heap.size w w') : NoD w' p := by
  rcases h with h | ⟨b, h, hk⟩
  · exact Or.inl h
  · exact Or.inr ⟨b, h, hk.kept (hb.block _ hk.lt)⟩
theorem NoD.only {w w' : World} {p : Option Addr} (h : NoD w p) (ho : Only Nothing w w') : NoD w' p := h.below (ho.below (Nat.le_refl _) (fun _ h => h.elim))

theorem nnone_is (w : World) (p : Option Addr) (h : NoD w p) : Calls Tryd.prog 46 #[.pointer p] w fun e w' => e = .returned (.bool true) ∧ w' = w := by
  rcases h with rfl | ⟨b, rfl, hk⟩
  · go_enter Tryd.func46, Tryd.ntmps46
    go_wp2
    go_ret
    exact ⟨rfl, rfl⟩
  · have hc0 := hk.cell (i := 0) rfl
    go_enter Tryd.func46, Tryd.ntmps46
    go_wp2
    go_ret
    exact ⟨rfl, rfl⟩
theorem npowered_is (w : World) (p : Option Addr) (h : NoD w p) : Calls Tryd.prog 47 #[.pointer p] w fun e w' => e = .returned (.int .i64 1) ∧ w' = w := by
  go_enter Tryd.func47, Tryd.ntmps47
  go_wp2_with fail
  refine (nnone_is w p h).mono ?_
  rintro e w1 ⟨rfl, hw⟩
  obtain rfl := hw.symm
  go_wp2
  go_ret
  exact ⟨rfl, rfl⟩
theorem nreach_is (w : World) (p : Option Addr) (n : Int) (h : NoD w p) : Calls Tryd.prog 89 #[.pointer p, .int .i64 n] w fun e w' => e = .returned (.int .i64 1) ∧ w' = w := by
  go_enter Tryd.func89, Tryd.ntmps89
  go_wp2_with fail
  refine (npowered_is w p h).mono ?_
  rintro e w1 ⟨rfl, hw⟩
  obtain rfl := hw.symm
  go_wp2
  go_ret
  exact ⟨rfl, rfl⟩
theorem ncut_is (w : World) (p : Option Addr) (n : Int) (h : NoD w p) : Calls Tryd.prog 20 #[.pointer p, .int .i64 n] w fun e w' => e = .returned (.tuple #[]) ∧ Only Nothing w w' := by
  go_enter Tryd.func20, Tryd.ntmps20
  go_wp2_with fail
  refine (nnone_is w p h).mono ?_
  rintro e w1 ⟨rfl, hw⟩
  obtain rfl := hw.symm
  go_wp2
  exact bodyPost_ret (results_none rfl _ _ _) rfl ⟨rfl, Only.none_ _⟩
theorem ncrash_is (w : World) (p : Option Addr) (v : Value) (hv : ∃ A n c, v = .slice A n c) (h : NoD w p) : Calls Tryd.prog 22 #[.pointer p, v] w fun e w' => e = .returned (.tuple #[]) ∧ Only Nothing w w' := by
  obtain ⟨A, n, c, rfl⟩ := hv
  obtain ⟨w1, hw1⟩ : ∃ w1, w1 = w.alloc (.cells #[.slice A n c] 22) := ⟨_, rfl⟩
  have hb1 : Below w.heap.size w w1 := by rw [hw1]; exact below_alloc _ _
  have h1 := h.below hb1
  have Hw1 := Lib.hid hw1
  clear hw1 h
  go_enter Tryd.func22, Tryd.ntmps22
  go_wp2_with fail
  rw [← Hw1.out]
  refine (nnone_is w1 p h1).mono ?_
  rintro e w2 ⟨rfl, hw⟩
  obtain rfl := hw.symm
  go_wp2
  exact bodyPost_ret (results_none rfl _ _ _) rfl ⟨rfl, Only.of_below hb1⟩
theorem nflush_is (w : World) (p : Option Addr) (h : NoD w p) : Calls Tryd.prog 55 #[.pointer p] w fun e w' => e = .returned (.int .i64 1) ∧ Only Nothing w w' := by
  go_enter Tryd.func55, Tryd.ntmps55
  go_wp2_with fail
  refine (npowered_is w p h).mono ?_
  rintro e w1 ⟨rfl, hw⟩
  obtain rfl := hw.symm
  go_wp2
  go_ret
  exact ⟨rfl, Only.none_ _⟩
theorem nwrite_is (w : World) (p : Option Addr) (n : Int) (bs : List Int) (h : NoD w p) : Calls Tryd.prog 75 #[.pointer p, .int .i64 n, .agg (u8s bs).toArray] w fun e w' => e = .returned (.int .i64 1) ∧ Only Nothing w w' := by
  obtain ⟨w1, hw1⟩ : ∃ w1, w1 = w.alloc (.cells (u8s bs).toArray 72) := ⟨_, rfl⟩
  have hb1 : Below w.heap.size w w1 := by rw [hw1]; exact below_alloc _ _
  have h1 := h.below hb1
  have Hw1 := Lib.hid hw1
  clear hw1 h
  go_enter Tryd.func75, Tryd.ntmps75
  go_wp2_with fail
  rw [← Hw1.out]
  refine (nreach_is w1 p n h1).mono ?_
  rintro e w2 ⟨rfl, hw⟩
  obtain rfl := hw.symm
  go_wp2
  go_ret
  exact ⟨rfl, Only.of_below hb1⟩
set_option maxHeartbeats 800000 in
theorem nread_is (w : World) (p : Option Addr) (n : Int) (h : NoD w p) :
    Calls Tryd.prog 81 #[.pointer p, .int .i64 n] w fun e w' => e = .returned (.tuple #[.agg (u8s zeros128).toArray, .int .i64 1]) ∧ Only Nothing w w' := by
  obtain ⟨w1, hw1⟩ : ∃ w1, w1 = w.alloc (.cells Tryd.zeroCells72 72) := ⟨_, rfl⟩
  have hz : Blk w1 w.heap.size 72 (u8s zeros128) := by rw [hw1]; exact zero_new w
  have hb1 : Below w.heap.size w w1 := by rw [hw1]; exact below_alloc _ _
  have h1 := h.below hb1
  have hsz : Tryd.zeroCells72 = (u8s zeros128).toArray := zero_arr
  have hsize2 : (Tryd.prog.info? 72).map (·.size) = some Tryd.zeroCells72.size := by rw [size_arr, zero_size]
  have Hthere := Lib.hid (hz.there (n := Tryd.zeroCells72.size) (by rw [zero_size, List.length_map, zeros_len]; omega))
  have Hw1 := Lib.hid hw1
  have Hsz := Lib.hid hsz
  have Hone := Lib.hid (show Tryd.zeroCells72.all (·.oneCell') = true by rw [hsz]; exact all_oneCell_toArray (one_u8s _))
  clear hw1 h hsz
  go_enter Tryd.func81, Tryd.ntmps81
  go_wp2_with fail
  rw [← Hw1.out]
  clear Hw1
  refine (nreach_is w1 p n h1).mono ?_
  rintro e w2 ⟨rfl, hw⟩
  obtain rfl := hw.symm
  go_wp2_with (refine wpList_store_mid rfl 72 (.tmp 4) (.tmp 13) rfl w.heap.size 0 Tryd.zeroCells72 rfl rfl Hthere.out hsize2 Hone.out ?_)
  refine bodyPost_ret (v := .tuple #[.agg (u8s zeros128).toArray, .int .i64 1]) ?_ rfl ⟨rfl, Only.of_below (below_setCells hb1 (Nat.le_refl _) _ _)⟩
  rw [← Hsz.out]
  exact results_arr_int rfl _ _ w.heap.size 72 Tryd.zeroCells72 (0, 0) _ rfl (setCells_whole hz (by rw [Array.length_toList, zero_size, List.length_map, zeros_len])) Tryd.underlying72 rfl hsize2 _ rfl

theorem nsize_is (w : World) (p : Option Addr) (h : NoD w p) : Calls Tryd.prog 64 #[.pointer p] w fun e w' => e = .returned (.int .i64 0) ∧ Only Nothing w w' := by
  rcases h with rfl | ⟨b, rfl, hk⟩
  · go_enter Tryd.func64, Tryd.ntmps64
    go_wp2
    go_ret
    exact ⟨rfl, Only.none_ _⟩
  · have hc := hk.cell (i := 0) rfl
    go_enter Tryd.func64, Tryd.ntmps64
    go_wp2
    go_ret
    exact ⟨rfl, Only.none_ _⟩
theorem nwaits_is (w : World) (p : Option Addr) (h : NoD w p) : Calls Tryd.prog 27 #[.pointer p] w fun e w' => e = .returned (.int .i64 0) ∧ Only Nothing w w' := by
  rcases h with rfl | ⟨b, rfl, hk⟩
  · go_enter Tryd.func27, Tryd.ntmps27
    go_wp2
    go_ret
    exact ⟨rfl, Only.none_ _⟩
  · have hc := hk.cell (i := 1) rfl
    go_enter Tryd.func27, Tryd.ntmps27
    go_wp2
    go_ret
    exact ⟨rfl, Only.none_ _⟩
theorem nmeter_is (w : World) (p : Option Addr) (h : NoD w p) : Calls Tryd.prog 25 #[.pointer p] w fun e w' => e = .returned (.pointer none) ∧ Only Nothing w w' := by
  rcases h with rfl | ⟨b, rfl, hk⟩
  · go_enter Tryd.func25, Tryd.ntmps25
    go_wp2
    go_ret
    exact ⟨rfl, Only.none_ _⟩
  · have hc := hk.cell (i := 5) rfl
    go_enter Tryd.func25, Tryd.ntmps25
    go_wp2
    go_ret
    exact ⟨rfl, Only.none_ _⟩
theorem non_is (w : World) (p : Option Addr) (h : NoD w p) : Calls Tryd.prog 21 #[.pointer p] w fun e w' => e = .returned (.bool false) ∧ Only Nothing w w' := by
  go_enter Tryd.func21, Tryd.ntmps21
  go_wp2_with fail
  refine (npowered_is w p h).mono ?_
  rintro e w1 ⟨rfl, hw⟩
  obtain rfl := hw.symm
  go_wp2
  go_ret
  exact ⟨rfl, Only.none_ _⟩
theorem nimage_is (w : World) (p : Option Addr) (h : NoD w p) : Calls Tryd.prog 18 #[.pointer p] w fun e w' => e = .returned (.slice none 0 0) ∧ Only Nothing w w' := by
  go_enter Tryd.func18, Tryd.ntmps18
  go_wp2_with fail
  refine (nnone_is w p h).mono ?_
  rintro e w1 ⟨rfl, hw⟩
  obtain rfl := hw.symm
  go_wp2
  go_ret
  exact ⟨rfl, Only.none_ _⟩
end Go.Proofs.YteliebinhdphlaaDoor

/- The two tables stay as they are, whatever is done to blocks that aren't theirs. -/
namespace Go.Proofs.YteliebinhdphlaaDoor
set_option maxRecDepth 100000
open Go.RowKit Go.Deep

/-- None of these blocks is a table's. -/
def NoTabs (F : Nat → Prop) : Prop := ¬ F 0 ∧ ¬ F 1
theorem Tabs.only {F : Nat → Prop} {w w' : World} (h : Tabs w) (ho : Only F w w') (hF : NoTabs F) : Tabs w' := by
  refine ⟨fun i hi => ?_, fun i hi => ?_⟩
  · exact (World.cell?_of_block (w := w) (ho.block _ (World.block_lt_of_cell? w _ (h.1 i hi)) hF.1)).trans (h.1 i hi)
  · exact (World.cell?_of_block (w := w) (ho.block _ (World.block_lt_of_cell? w _ (h.2 i hi)) hF.2)).trans (h.2 i hi)
theorem NoTabs.of_tabs {F : Nat → Prop} {w : World} (h : Tabs w) (hF : ∀ k, F k → w.heap.size ≤ k) : NoTabs F := by
  refine ⟨fun hk => ?_, fun hk => ?_⟩
  · have h1 := World.block_lt_of_cell? w _ (h.1 0 (by omega)); have h2 := hF _ hk; simp only [] at h1; omega
  · have h1 := World.block_lt_of_cell? w _ (h.2 0 (by omega)); have h2 := hF _ hk; simp only [] at h1; omega
theorem NoTabs.mono {F G : Nat → Prop} (h : NoTabs F) (hs : ∀ k, G k → F k) : NoTabs G := ⟨fun hk => h.1 (hs _ hk), fun hk => h.2 (hs _ hk)⟩
theorem NoTabs.more {F : Nat → Prop} {w w' : World} (h : NoTabs F) (ht : Tabs w) : NoTabs (More F w w') := by
  refine ⟨fun hk => ?_, fun hk => ?_⟩
  · rcases hk with hk | hk
    · exact h.1 hk
    · have h1 := World.block_lt_of_cell? w _ (ht.1 0 (by omega)); simp only [] at h1; omega
  · rcases hk with hk | hk
    · exact h.2 hk
    · have h1 := World.block_lt_of_cell? w _ (ht.2 0 (by omega)); simp only [] at h1; omega
end Go.Proofs.YteliebinhdphlaaDoor

/- Areas, plainly; and the document's: sectors by their numbers. -/
namespace Go.Proofs.YteliebinhdphlaaDoor
set_option maxRecDepth 100000
open Go.RowKit Go.Deep
set_option linter.unusedSimpArgs false
set_option linter.unusedVariables false

/-! What is done in an area of m sectors from f on, and the disk behind it. -/
def DS.arRead (S : DS) (f m n : Int) : List Int × Int × DS := if n < 0 ∨ m ≤ n then (zeros128, 51, S) else S.readOf (f + n)
def DS.arWrite (S : DS) (f m n : Int) (bs : List Int) : Int × DS := if n < 0 ∨ m ≤ n then (51, S) else S.writeOf (f + n) bs
def DS.arPut (S : DS) (f m n kind num : Int) (load : List Int) : Int × DS := if makeErr kind num load.length = 0 then S.arWrite f m n (sealed kind num load) else (makeErr kind num load.length, S)
def DS.arTake (S : DS) (f m n kind : Int) : Int × List Int × Int × DS :=
  if (S.arRead f m n).2.1 = 0 then ((openOf (S.arRead f m n).1 kind).1, (openOf (S.arRead f m n).1 kind).2.1, (openOf (S.arRead f m n).1 kind).2.2, (S.arRead f m n).2.2) else (0, [], (S.arRead f m n).2.1, (S.arRead f m n).2.2)

theorem arRead_byte {S : DS} (h : DWf S) (f m n : Int) : Byte128 (S.arRead f m n).1 := by
  unfold DS.arRead
  split
  · exact zeros_byte
  · exact readOf_byte h _
theorem arRead_same (S : DS) (f m n : Int) : (S.arRead f m n).2.2.waits = S.waits ∧ (S.arRead f m n).2.2.kept = S.kept := by
  unfold DS.arRead
  split
  · exact ⟨rfl, rfl⟩
  · exact ⟨readOf_waits S _, readOf_kept S _⟩
theorem arTake_state (S : DS) (f m n kind : Int) : (S.arTake f m n kind).2.2.2 = (S.arRead f m n).2.2 := by
  unfold DS.arTake
  split <;> rfl
theorem arWrite_same (S : DS) (f m n : Int) (bs : List Int) : (S.arWrite f m n bs).2.waits.length ≤ S.waits.length + 1 ∧ (S.arWrite f m n bs).2.kept = S.kept := by
  unfold DS.arWrite
  split
  · exact ⟨by show S.waits.length ≤ _; omega, rfl⟩
  · exact ⟨writeOf_waits S _ bs, writeOf_kept S _ bs⟩
theorem arPut_same (S : DS) (f m n kind num : Int) (load : List Int) : (S.arPut f m n kind num load).2.waits.length ≤ S.waits.length + 1 ∧ (S.arPut f m n kind num load).2.kept = S.kept := by
  unfold DS.arPut
  split
  · exact arWrite_same S f m n _
  · exact ⟨by show S.waits.length ≤ _; omega, rfl⟩

/-- Where an area is: no number of a sector is too large. -/
def Spot (f m : Int) : Prop := 0 ≤ f ∧ f ≤ 8192 ∧ 0 ≤ m ∧ m ≤ 8192

theorem rd_wide {G : Nat → Prop} {w w1 w2 : World} {c : Nat} {S : DS} (h : RD (More G w1 w2) w2 c S) (hb : w.heap.size ≤ w1.heap.size) : RD (More G w w2) w2 c S :=
  h.mono (fun k hk hg => by rcases hg with hg | hg; exact Or.inl hg; exact Or.inr ⟨Nat.le_trans hb hg.1, hg.2⟩) (fun k hk => by rcases hk with hk | hk; exact h.fin (Or.inl hk); exact hk.2)

section
variable (G : Nat → Prop) (w : World) (c : Nat) (S : DS) (h : RD G w c S) (f m : Int) (hs : Spot f m)
include h hs
set_option maxHeartbeats 1600000 in
theorem rarea_read (n : Int) (hn : -9223372036854775808 ≤ n ∧ n ≤ 9223372036854775807) (r : List Int × Int × DS) (hr : r = S.arRead f m n) :
    Calls Tryd.prog 65 #[.agg #[.pointer (some ⟨c, 0, none⟩), .int .i64 f, .int .i64 m], .int .i64 n] w fun e w' => ∃ v, e = .returned (.tuple #[v, .int .i64 r.2.1]) ∧ ReadRow G w' v r ∧ RD (More G w w') w' c r.2.2 ∧ Only G w w' := by
  obtain ⟨w1, hw1⟩ : ∃ w1, w1 = w.alloc (.cells #[.pointer (some ⟨c, 0, none⟩), .int .i64 f, .int .i64 m] 50) := ⟨_, rfl⟩
  have hb1 : Below w.heap.size w w1 := by rw [hw1]; exact below_alloc _ _
  have hP : Blk w1 w.heap.size 50 [.pointer (some ⟨c, 0, none⟩), .int .i64 f, .int .i64 m] := by rw [hw1]; exact Blk.new _ _ _
  have h1 := h.only (Only.of_below (F := Nothing) hb1) (fun _ _ hk => hk)
  have hc0 := hP.cell (i := 0) rfl
  have hc1 := hP.cell (i := 1) rfl
  have hc2 := hP.cell (i := 2) rfl
  have Hw1 := Lib.hid hw1
  have Hr := Lib.hid hr
  clear hw1 hr
  unfold Spot at hs
  by_cases h0 : n < 0
  · have e := Hr.out
    unfold DS.arRead at e; rw [if_pos (Or.inl h0)] at e
    have He := Lib.hid e
    clear e
    go_enter Tryd.func65, Tryd.ntmps65
    go_upto_region 1 with fail
    rw [← Hw1.out]
    go_wp2
    go_ret2
    rw [He.out]
    exact ⟨_, rfl, Or.inr ⟨by show (51 : Int) ≠ 0; decide, rfl⟩, more_rd h1 (fun k hk => h1.fin hk), Only.of_below hb1⟩
  by_cases hm : m ≤ n
  · have e := Hr.out
    unfold DS.arRead at e; rw [if_pos (Or.inr hm)] at e
    have He := Lib.hid e
    clear e
    go_enter Tryd.func65, Tryd.ntmps65
    go_upto_region 1 with fail
    rw [← Hw1.out]
    go_wp2
    go_ret2
    rw [He.out]
    exact ⟨_, rfl, Or.inr ⟨by show (51 : Int) ≠ 0; decide, rfl⟩, more_rd h1 (fun k hk => h1.fin hk), Only.of_below hb1⟩
  have e := Hr.out
  unfold DS.arRead at e; rw [if_neg (by omega)] at e
  have He := Lib.hid e
  have hwr : IntKind.i64.wrap (f + n) = f + n := by rw [IntKind.wrap_i64]; omega
  clear e
  go_enter Tryd.func65, Tryd.ntmps65
  go_upto_region 1 with fail
  rw [← Hw1.out]
  go_wp2_with fail
  refine (rread_any G w1 c S h1 (f + n) r He.out).mono ?_
  rintro e w2 ⟨v, rfl, hv, hd, hO⟩
  go_wp2_with fail
  go_ret2
  exact ⟨v, rfl, hv, rd_wide hd hb1.size, (Only.of_below hb1).trans hO (fun _ _ hk => hk)⟩

set_option maxHeartbeats 1600000 in
theorem rarea_write (n : Int) (hn : -9223372036854775808 ≤ n ∧ n ≤ 9223372036854775807) (A : Option Addr) (cc : Nat) (bs : List Int) (hx : Sl w A 128 (u8s bs)) (hb : Byte128 bs) (hmany : S.waits.length ≤ 1000000) (r : Int × DS) (hr : r = S.arWrite f m n bs) :
    Calls Tryd.prog 67 #[.agg #[.pointer (some ⟨c, 0, none⟩), .int .i64 f, .int .i64 m], .int .i64 n, .slice A 128 cc] w fun e w' => e = .returned (.int .i64 r.1) ∧ RD (More G w w') w' c r.2 ∧ Only G w w' := by
  obtain ⟨w1, hw1⟩ : ∃ w1, w1 = w.alloc (.cells #[.pointer (some ⟨c, 0, none⟩), .int .i64 f, .int .i64 m] 50) := ⟨_, rfl⟩
  have hb1 : Below w.heap.size w w1 := by rw [hw1]; exact below_alloc _ _
  have hP : Blk w1 w.heap.size 50 [.pointer (some ⟨c, 0, none⟩), .int .i64 f, .int .i64 m] := by rw [hw1]; exact Blk.new _ _ _
  have h1 := h.only (Only.of_below (F := Nothing) hb1) (fun _ _ hk => hk)
  have hc0 := hP.cell (i := 0) rfl
  have hc1 := hP.cell (i := 1) rfl
  have hc2 := hP.cell (i := 2) rfl
  have hx1 := hx.below hb1
  have Hw1 := Lib.hid hw1
  have Hr := Lib.hid hr
  have HB := Lib.hid hb
  clear hw1 hr hb
  unfold Spot at hs
  by_cases h0 : n < 0
  · have e := Hr.out
    unfold DS.arWrite at e; rw [if_pos (Or.inl h0)] at e
    have He := Lib.hid e
    clear e
    go_enter Tryd.func67, Tryd.ntmps67
    go_upto_region 1 with fail
    rw [← Hw1.out]
    go_wp2
    go_ret
    rw [He.out]
    exact ⟨rfl, more_rd h1 (fun k hk => h1.fin hk), Only.of_below hb1⟩
  by_cases hm : m ≤ n
  · have e := Hr.out
    unfold DS.arWrite at e; rw [if_pos (Or.inr hm)] at e
    have He := Lib.hid e
    clear e
    go_enter Tryd.func67, Tryd.ntmps67
    go_upto_region 1 with fail
    rw [← Hw1.out]
    go_wp2
    go_ret
    rw [He.out]
    exact ⟨rfl, more_rd h1 (fun k hk => h1.fin hk), Only.of_below hb1⟩
  have e := Hr.out
  unfold DS.arWrite at e; rw [if_neg (by omega)] at e
  have He := Lib.hid e
  have hwr : IntKind.i64.wrap (f + n) = f + n := by rw [IntKind.wrap_i64]; omega
  clear e
  go_enter Tryd.func67, Tryd.ntmps67
  go_upto_region 1 with fail
  rw [← Hw1.out]
  go_wp2_with fail
  refine (rwrite_any G w1 c S h1 (f + n) A cc bs hx1 HB.out hmany r He.out).mono ?_
  rintro e w2 ⟨rfl, hd, hO⟩
  go_wp2_with fail
  go_ret
  exact ⟨rfl, rd_wide hd hb1.size, (Only.of_below hb1).trans hO (fun _ _ hk => hk)⟩

set_option maxHeartbeats 1600000 in
theorem rarea_put (n kind num : Int) (hn : -9223372036854775808 ≤ n ∧ n ≤ 9223372036854775807) (hk : -9223372036854775808 ≤ kind ∧ kind ≤ 9223372036854775807) (hnum : -9223372036854775808 ≤ num ∧ num ≤ 9223372036854775807) (A : Option Addr) (q cc : Nat) (load : List Int) (hx : Sl w A q (u8s load)) (hb : Bytes load) (hq : q ≤ 9223372036854775807) (hmany : S.waits.length ≤ 1000000) (r : Int × DS) (hr : r = S.arPut f m n kind num load) :
    Calls Tryd.prog 68 #[.agg #[.pointer (some ⟨c, 0, none⟩), .int .i64 f, .int .i64 m], .int .i64 n, .int .i64 kind, .int .i64 num, .slice A q cc] w fun e w' => e = .returned (.int .i64 r.1) ∧ RD (More G w w') w' c r.2 ∧ Only G w w' := by
  have hlen : load.length = q := by simpa using hx.1
  obtain ⟨w1, hw1⟩ : ∃ w1, w1 = w.alloc (.cells #[.pointer (some ⟨c, 0, none⟩), .int .i64 f, .int .i64 m] 50) := ⟨_, rfl⟩
  have hb1 : Below w.heap.size w w1 := by rw [hw1]; exact below_alloc _ _
  have hP : Blk w1 w.heap.size 50 [.pointer (some ⟨c, 0, none⟩), .int .i64 f, .int .i64 m] := by rw [hw1]; exact Blk.new _ _ _
  have h1 := h.only (Only.of_below (F := Nothing) hb1) (fun _ _ hk => hk)
  have hx1 := hx.below hb1
  obtain ⟨er, her⟩ : ∃ er, er = makeErr kind num q := ⟨_, rfl⟩
  obtain ⟨bs, hbs⟩ : ∃ bs, bs = makeOf kind num load := ⟨_, rfl⟩
  have hl : Byte128 bs := by rw [hbs]; exact ⟨makeOf_len _ _ _, makeOf_bytes hb⟩
  have Hw1 := Lib.hid hw1
  have Hr := Lib.hid hr
  have HB := Lib.hid hb
  have Hbs := Lib.hid hbs; have Her := Lib.hid her; have Hl := Lib.hid hl; have Hlen := Lib.hid hlen
  clear hw1 hr hb hbs her hl hlen
  go_enter Tryd.func68, Tryd.ntmps68
  go_upto_region 1 with fail
  rw [← Hw1.out]
  go_wp2_with fail
  refine (rmake_is kind num hk hnum A q cc load w1 hx1 HB.out hq bs er Hbs.out Her.out).mono ?_
  rintro e w2 ⟨B, c2, rfl, hs2, hb2⟩
  have h2 := h1.only (Only.of_below (F := Nothing) hb2) (fun _ _ hk => hk)
  have hP2 := hP.kept (hb2.block _ hP.lt)
  have hc0 := hP2.cell (i := 0) rfl
  have hc1 := hP2.cell (i := 1) rfl
  have hc2 := hP2.cell (i := 2) rfl
  have hb12 : Below w.heap.size w w2 := hb1.trans (hb2.mono hb1.size)
  clear hP hP2 hb1 hb2 h1 Hw1 hx1
  by_cases he : er = 0
  · have e := Hr.out
    unfold DS.arPut at e; rw [if_pos (by rw [Hlen.out, ← Her.out, he])] at e
    have ebs : bs = sealed kind num load := by rw [Hbs.out, makeOf, if_pos (by rw [Hlen.out, ← Her.out, he])]
    rw [← ebs] at e
    have He := Lib.hid e
    subst he
    clear e ebs
    go_wp2_with fail
    refine (rarea_write G w2 c S h2 f m hs n hn B c2 bs hs2 Hl.out hmany r He.out).mono ?_
    rintro e w3 ⟨rfl, hd, hO⟩
    go_wp2_with fail
    go_ret
    exact ⟨rfl, rd_wide hd hb12.size, (Only.of_below hb12).trans hO (fun _ _ hk => hk)⟩
  · have e := Hr.out
    unfold DS.arPut at e; rw [if_neg (by rw [Hlen.out, ← Her.out]; exact he), Hlen.out, ← Her.out] at e
    have He := Lib.hid e
    have hne : (er != 0) = true := by simpa using he
    clear e he
    go_wp2
    go_ret
    rw [He.out]
    exact ⟨rfl, more_rd h2 (fun k hk => h2.fin hk), Only.of_below hb12⟩

set_option maxHeartbeats 1600000 in
theorem rarea_take (n kind : Int) (hn : -9223372036854775808 ≤ n ∧ n ≤ 9223372036854775807) (hk : -9223372036854775808 ≤ kind ∧ kind ≤ 9223372036854775807) (r : Int × List Int × Int × DS) (hr : r = S.arTake f m n kind) :
    Calls Tryd.prog 70 #[.agg #[.pointer (some ⟨c, 0, none⟩), .int .i64 f, .int .i64 m], .int .i64 n, .int .i64 kind] w fun e w' => (∃ B cc, e = .returned (.tuple #[.int .i64 r.1, .slice B r.2.1.length cc, .int .i64 r.2.2.1]) ∧ Sl w' B r.2.1.length (u8s r.2.1)) ∧ RD (More G w w') w' c r.2.2.2 ∧ Only G w w' := by
  obtain ⟨w1, hw1⟩ : ∃ w1, w1 = w.alloc (.cells #[.pointer (some ⟨c, 0, none⟩), .int .i64 f, .int .i64 m] 50) := ⟨_, rfl⟩
  have hb1 : Below w.heap.size w w1 := by rw [hw1]; exact below_alloc _ _
  have hP : Blk w1 w.heap.size 50 [.pointer (some ⟨c, 0, none⟩), .int .i64 f, .int .i64 m] := by rw [hw1]; exact Blk.new _ _ _
  have h1 := h.only (Only.of_below (F := Nothing) hb1) (fun _ _ hk => hk)
  have hc0 := hP.cell (i := 0) rfl
  have hc1 := hP.cell (i := 1) rfl
  have hc2 := hP.cell (i := 2) rfl
  obtain ⟨q, hq⟩ : ∃ q, q = S.arRead f m n := ⟨_, rfl⟩
  have hqb : Byte128 q.1 := by rw [hq]; exact arRead_byte h.1 f m n
  have Hq := Lib.hid hq
  have Hqb := Lib.hid hqb
  have Hw1 := Lib.hid hw1
  have Hr := Lib.hid hr
  clear hw1 hr hq hqb
  go_enter Tryd.func70, Tryd.ntmps70
  go_upto_region 1 with fail
  rw [← Hw1.out]
  go_wp2_with fail
  refine (rarea_read G w1 c S h1 f m hs n hn q Hq.out).mono ?_
  rintro e w2 ⟨v, rfl, hv, hd, hO⟩
  obtain ⟨qb, qe, qS⟩ := q
  have hO2 : Only G w w2 := (Only.of_below hb1).trans hO (fun _ _ hk => hk)
  have hd2 := rd_wide hd hb1.size
  clear hP hb1 h1 Hw1 hc0 hc1 hc2 hO hd
  simp only [] at hv hd2 ⊢
  by_cases he : qe = 0
  · subst he
    obtain ⟨o, ho⟩ : ∃ o, o = openOf qb kind := ⟨_, rfl⟩
    have e := Hr.out
    unfold DS.arTake at e; rw [← Hq.out, if_pos rfl, ← ho] at e
    have He := Lib.hid e
    have Ho := Lib.hid ho
    clear e ho
    rcases hv with ⟨_, hv⟩ | ⟨hv, _⟩
    · obtain ⟨g, cap, sp, rfl, hGg, hcap, hB, _⟩ := hv
      simp only [Hqb.out.1] at hcap hB ⊢
      go_wp2_with fail
      refine (ropen_row g 5 sp cap hcap qb Hqb.out.1 Hqb.out.2 w2 hB kind hk).mono ?_
      intro e w3 hop
      obtain ⟨⟨B, cc, rfl, hs3⟩, hb3⟩ := hop.of Hqb.out.2 o Ho.out
      go_wp2_with fail
      go_ret3
      rw [He.out]
      have hd3 := hd2.only (Only.of_below (F := Nothing) hb3) (fun _ _ hk => hk)
      exact ⟨⟨B, cc, rfl, hs3⟩, hd3.mono (fun k hk hg => by rcases hg with hg | hg; exact Or.inl hg; exact Or.inr ⟨hg.1, Nat.lt_of_lt_of_le hg.2 hb3.size⟩) (fun k hk => by rcases hk with hk | hk; exact hd3.fin (Or.inl hk); exact hk.2), hO2.trans (Only.of_below (F := G) hb3) (fun _ _ hk => hk)⟩
    · exact absurd rfl hv
  · rcases hv with ⟨hv, _⟩ | ⟨_, rfl⟩
    · exact absurd hv he
    have e := Hr.out
    unfold DS.arTake at e; rw [← Hq.out, if_neg he] at e
    have He := Lib.hid e
    have hne : (qe != 0) = true := by simpa using he
    clear e he
    go_wp2
    go_ret3
    rw [He.out]
    first | exact ⟨⟨none, 0, rfl, Sl.nil_ _ _⟩, hd2, hO2⟩ | exact ⟨⟨none, ⟨0, rfl⟩, Sl.nil_ _ _⟩, hd2, hO2⟩
end
end Go.Proofs.YteliebinhdphlaaDoor

/- The program's Plan. -/
namespace Go.Proofs.YteliebinhdphlaaDoor
set_option maxRecDepth 100000
open Go.RowKit Go.Deep
set_option linter.unusedSimpArgs false
set_option linter.unusedVariables false

theorem results_plan {P : Program} {fn : Func} {p u : Tmp} {ty : TypeId} (h : fn.results = #[.cell p ty, .tmp u]) (tmps : Array Value) (w : World) (g : Nat) (t : TypeId) (cs : Array Value) (fr : Nat × Nat) (d : TypeDesc)
    (hp : tmps.getD p undef = .pointer (some ⟨g, 0, none⟩)) (hg : w.heap[g]? = some (.cells cs t fr)) (hu : P.underlying ty = some d) (hd : (match d with | .struct _ | .array _ _ => true | _ => false) = true) (hi : (P.info? ty).map (·.size) = some cs.size) (z : Value) (hz : tmps.getD u undef = z) :
    (results fn tmps).run P w = .ok (.tuple #[.agg cs, z]) w := by
  rw [results_cell_tmp h, hp, hz]
  simp [asAddr, run_loadVar_row w g t ty cs fr d hg hu hd hi, Result.andThen]

end Go.Proofs.YteliebinhdphlaaDoor
