/- Package row's Fits and Size. -/
import Derived.Test.YtcfpjbbahpjhdaaRowEach
import Derived.Test.YtcfpjbbahpjhdaaHeap
namespace Go.Proofs.Ytcfpjbbahpjhdaa
open Go.RowKit

theorem ent_fits (args : Array Value) (w : World) : (callFunc 21 args).run Try.prog w = .ok (.enter 21 args) w :=
  ent_of Try.func21 (by kernel_rfl) rfl args w

/-- The error that Fits's function tells of one value. -/
def fitErr (t v : Int) : Int := if t = 2 ∧ v ≠ 0 ∧ v ≠ 1 then 41 else 0

set_option maxHeartbeats 800000 in
theorem fits1_any (k m d : Nat) (t v : Int) (p : Nat) (B : Option Addr) (l : List Int) (w : World) (hp : Blk w p 22 [.slice B m d]) (hy : Sl w B m (i64s l)) (hk : k < m) (hv : l[k]? = some v) :
    Calls Try.prog 21 #[.int .i64 k, .int .i64 t, .pointer (some ⟨p, 0, none⟩)] w fun e w' => e = .returned (.int .i64 (fitErr t v)) ∧ w' = w := by
  obtain ⟨bd, u, rfl, hcv, huv⟩ := hy.num hk
  obtain rfl : u = v := by rw [hv] at huv; exact (Option.some.inj huv).symm
  have hcp := hp.cell (i := 0) rfl
  clear huv hv
  by_cases ht : t = 2
  · subst ht
    by_cases h0 : u = 0
    · subst h0
      go_enter Try.func21, Try.ntmps21
      go_wp2
      go_ret
      exact ⟨rfl, rfl⟩
    · have hv0 : (u != 0) = true := by simpa using h0
      by_cases h1 : u = 1
      · subst h1
        go_enter Try.func21, Try.ntmps21
        go_wp2
        go_ret
        exact ⟨rfl, rfl⟩
      · have hv1 : (u != 1) = true := by simpa using h1
        have Hf := Lib.hid (show fitErr 2 u = 41 by unfold fitErr; rw [if_pos ⟨rfl, h0, h1⟩])
        clear h0 h1
        go_enter Try.func21, Try.ntmps21
        go_wp2
        go_ret
        exact ⟨ret_int Hf.out.symm, rfl⟩
  · have ht2 : (t == 2) = false := by simpa using ht
    have Hf := Lib.hid (show fitErr t u = 0 by unfold fitErr; rw [if_neg (fun h => ht h.1)])
    clear ht
    go_enter Try.func21, Try.ntmps21
    go_wp2
    go_ret
    exact ⟨ret_int Hf.out.symm, rfl⟩

set_option maxHeartbeats 800000 in
theorem row_fits_is (q : Bool) (A B : Option Addr) (n c m d : Nat) (ts l : List Int) (w : World) (hx : Sl w A n (i64s ts)) (hy : Sl w B m (i64s l)) (hn : n ≤ 1000) (hm : m ≤ 1000) (hq : q = fitsOf ts l) :
    Calls Try.prog 10 #[.slice A n c, .slice B m d] w fun e w' => e = .returned (.bool q) ∧ Below w.heap.size w w' := by
  have hlx : ts.length = n := by simpa using hx.1
  have hly : l.length = m := by simpa using hy.1
  have Hlx := Lib.hid hlx; have Hly := Lib.hid hly; have Hq := Lib.hid hq
  clear hq
  obtain ⟨w1, hw1⟩ : ∃ w1, w1 = w.alloc (.cells #[.slice B m d] 22) := ⟨_, rfl⟩
  have hb1 : Below w.heap.size w w1 := by rw [hw1]; exact below_alloc _ _
  have hp : Blk w1 w.heap.size 22 [.slice B m d] := by rw [hw1]; exact Blk.new _ _ _
  have hx1 := hx.below hb1
  have hy1 := hy.below hb1
  have hcp := hp.cell (i := 0) rfl
  have Hw1 := Lib.hid hw1
  clear hw1
  by_cases hmn : m = n
  · subst hmn
    obtain ⟨r, hr⟩ : ∃ r, r = rightOf ts := ⟨_, rfl⟩
    have Hr := Lib.hid hr
    clear hr
    cases r
    · have Hf := Lib.hid (show q = false by rw [Hq.out]; exact fits_not Hr.out.symm)
      clear hlx hly
      go_enter Try.func10, Try.ntmps10
      go_wp2_with fail
      rw [← Hw1.out]
      go_wp2_with fail
      refine (each_not _ A m c ts w1 hx1 (by omega) Hr.out).mono ?_
      rintro e w2 ⟨rfl, hw⟩
      obtain rfl := hw.symm
      go_wp2
      go_ret
      exact ⟨ret_bool Hf.out.symm, hb1⟩
    · have Hf := Lib.hid (show q = fitAll ts l by rw [Hq.out]; exact fits_all Hr.out.symm (hly.trans hlx.symm))
      clear hlx hly
      have Heach := Lib.hid (each_any 21 #[.pointer (some ⟨w.heap.size, 0, none⟩)] ent_fits A m c ts w1 hx1 hn Hr.out (fun k wr => wr = w1 ∧ fitAll (ts.drop k) (l.drop k) = fitAll ts l) (fun er wr => wr = w1 ∧ fitAll ts l = false) ⟨rfl, by simp⟩ (fun k wr h => by rw [h.1]; exact hx1) (by
        rintro k t wr hk ht ⟨rfl, hinv⟩
        have hkl : k < l.length := by rw [Hly.out]; exact hk
        refine (fits1_any k m d t l[k] w.heap.size B l wr hp hy1 hk (List.getElem?_eq_getElem hkl)).mono ?_
        rintro e w' ⟨rfl, rfl⟩
        have hcons : fitAll (t :: ts.drop (k + 1)) (l[k] :: l.drop (k + 1)) = fitAll ts l := by
          rw [← drop_at _ _ _ ht, ← drop_at _ _ _ (List.getElem?_eq_getElem hkl)]; exact hinv
        refine ⟨_, rfl, ?_⟩
        unfold fitErr
        by_cases hc : t = 2 ∧ l[k] ≠ 0 ∧ l[k] ≠ 1
        · rw [if_pos hc]
          exact .inr ⟨by decide, rfl, by rw [← hcons]; exact fit_bad hc.1 hc.2.1 hc.2.2⟩
        · rw [if_neg hc]
          refine .inl ⟨rfl, rfl, ?_⟩
          rw [← hcons, fit_step]
          rcases Classical.em (t = 2) with h | h
          · rcases Classical.em (l[k] = 0) with h1 | h1
            · exact .inr (.inl h1)
            · exact .inr (.inr (Classical.byContradiction fun h2 => hc ⟨h, h1, h2⟩))
          · exact .inl h))
      go_enter Try.func10, Try.ntmps10
      go_wp2_with fail
      rw [← Hw1.out]
      go_wp2_with fail
      refine Heach.out.mono ?_
      rintro e w2 ⟨er, rfl, hor⟩
      by_cases he : er = 0
      · subst he
        obtain ⟨rfl, hfin⟩ : w2 = w1 ∧ fitAll (ts.drop m) (l.drop m) = fitAll ts l := by
          rcases hor with ⟨_, h⟩ | ⟨h, _⟩
          · exact h
          · exact absurd rfl h
        have Hfin := Lib.hid (show q = true by
          rw [Hf.out, ← hfin, List.drop_of_length_le (by rw [Hlx.out]; omega)]; unfold fitAll; rfl)
        clear hfin hor
        go_wp2
        go_ret
        exact ⟨ret_bool Hfin.out.symm, hb1⟩
      · obtain ⟨rfl, hfin⟩ : w2 = w1 ∧ fitAll ts l = false := by
          rcases hor with ⟨h, _⟩ | ⟨_, h⟩
          · exact absurd h he
          · exact h
        have Hfin := Lib.hid (show q = false by rw [Hf.out]; exact hfin)
        have heb : (er == 0) = false := by simpa using he
        clear hfin hor he
        go_wp2
        go_ret
        exact ⟨ret_bool Hfin.out.symm, hb1⟩
  · have Hf := Lib.hid (show q = false by rw [Hq.out]; exact fits_len (by omega))
    have hmb : ((m : Int) != (n : Int)) = true := by simp; omega
    clear hlx hly
    go_enter Try.func10, Try.ntmps10
    go_wp2_with fail
    rw [← Hw1.out]
    go_wp2
    go_ret
    exact ⟨ret_bool Hf.out.symm, hb1⟩

theorem ent_size (args : Array Value) (w : World) : (callFunc 22 args).run Try.prog w = .ok (.enter 22 args) w :=
  ent_of Try.func22 (by kernel_rfl) rfl args w

set_option maxHeartbeats 800000 in
theorem size1_any (k : Nat) (t q : Int) (p : Nat) (w : World) (hp : Blk w p 3 [.int .i64 q]) (hq : 0 ≤ q ∧ q ≤ 100000) :
    Calls Try.prog 22 #[.int .i64 k, .int .i64 t, .pointer (some ⟨p, 0, none⟩)] w fun e w' => e = .returned (.int .i64 0) ∧ w' = w.setCell ⟨p, 0, none⟩ (.int .i64 (q + if t = 1 then 10 else 1)) := by
  have hcp := hp.cell (i := 0) rfl
  have hfp := hp.frozen 0
  obtain ⟨q1, q2⟩ := hq
  by_cases ht : t = 1
  · subst ht
    rw [if_pos rfl]
    go_enter Try.func22, Try.ntmps22
    go_wp2
    go_ret
    exact ⟨rfl, rfl⟩
  · have htb : (t == 1) = false := by simpa using ht
    rw [if_neg ht]
    clear ht
    go_enter Try.func22, Try.ntmps22
    go_wp2
    go_ret
    exact ⟨rfl, rfl⟩

theorem sum_snoc (a b : List Int) : sizeSum (a ++ b) = sizeSum a + sizeSum b := by
  induction a with
  | nil => simp [sizeSum]
  | cons x a ih => simp only [List.cons_append, sizeSum, ih]; omega
theorem sum_range (a : List Int) : 0 ≤ sizeSum a ∧ sizeSum a ≤ 10 * (a.length : Int) := by
  induction a with
  | nil => simp [sizeSum]
  | cons t a ih => unfold sizeSum; split <;> simp <;> omega

set_option maxHeartbeats 800000 in
theorem row_size_is (q : Int) (A : Option Addr) (n c : Nat) (ts : List Int) (w : World) (hx : Sl w A n (i64s ts)) (hn : n ≤ 1000) (hq : q = sizeRow ts) :
    Calls Try.prog 12 #[.slice A n c] w fun e w' => e = .returned (.int .i64 q) ∧ Below w.heap.size w w' := by
  have hlx : ts.length = n := by simpa using hx.1
  have Hlx := Lib.hid hlx; have Hq := Lib.hid hq
  clear hq hlx
  obtain ⟨w1, hw1⟩ : ∃ w1, w1 = w.alloc (.cells #[.int .i64 0] 3) := ⟨_, rfl⟩
  have hb1 : Below w.heap.size w w1 := by rw [hw1]; exact below_alloc _ _
  have hp : Blk w1 w.heap.size 3 [.int .i64 0] := by rw [hw1]; exact Blk.new w 3 [.int .i64 0]
  have hx1 := hx.below hb1
  have hcp := hp.cell (i := 0) rfl
  have Hw1 := Lib.hid hw1
  clear hw1
  obtain ⟨r, hr⟩ : ∃ r, r = rightOf ts := ⟨_, rfl⟩
  have Hr := Lib.hid hr
  clear hr
  cases r
  · have Hf := Lib.hid (show q = 0 by rw [Hq.out]; unfold sizeRow; rw [← Hr.out]; rfl)
    go_enter Try.func12, Try.ntmps12
    go_wp2_with fail
    rw [← Hw1.out]
    refine (each_not _ A n c ts w1 hx1 (by omega) Hr.out).mono ?_
    rintro e w2 ⟨rfl, hw⟩
    obtain rfl := hw.symm
    go_wp2
    go_ret
    exact ⟨ret_int Hf.out.symm, hb1⟩
  · have Hf := Lib.hid (show q = sizeSum ts by rw [Hq.out]; unfold sizeRow; rw [← Hr.out]; rfl)
    have Heach := Lib.hid (each_any 22 #[.pointer (some ⟨w.heap.size, 0, none⟩)] ent_size A n c ts w1 hx1 hn Hr.out (fun k wr => Below w.heap.size w wr ∧ Blk wr w.heap.size 3 [.int .i64 (sizeSum (ts.take k))]) (fun _ _ => False) ⟨hb1, hp⟩ (fun k wr h => hx.below h.1) (by
      rintro k t wr hk ht ⟨hb, hpk⟩
      have hr := sum_range (ts.take k)
      have hkl : (ts.take k).length ≤ k := by simp; omega
      refine (size1_any k t _ w.heap.size wr hpk ⟨hr.1, by omega⟩).mono ?_
      rintro e w' ⟨rfl, rfl⟩
      refine ⟨_, rfl, .inl ⟨rfl, hb.setCell (Nat.le_refl _) _, ?_⟩⟩
      rw [take_snoc _ _ _ ht, sum_snoc, show sizeSum [t] = if t = 1 then 10 else 1 by simp [sizeSum]]
      exact hpk.set 0 _))
    go_enter Try.func12, Try.ntmps12
    go_wp2_with fail
    rw [← Hw1.out]
    refine Heach.out.mono ?_
    rintro e w2 ⟨er, rfl, hor⟩
    have hin : Below w.heap.size w w2 ∧ Blk w2 w.heap.size 3 [.int .i64 (sizeSum (ts.take n))] := by
      rcases hor with ⟨_, h⟩ | ⟨_, h⟩
      · exact h
      · exact h.elim
    obtain ⟨hb2, hp2⟩ := hin
    rw [List.take_of_length_le (by rw [Hlx.out]; omega), ← Hf.out] at hp2
    have hc2 := hp2.cell (i := 0) rfl
    clear hor
    go_wp2
    go_ret
    exact ⟨rfl, hb2⟩
end Go.Proofs.Ytcfpjbbahpjhdaa
