/- Package row's Read. -/
import Derived.Test.YtcfpjbbahpjhdaaRowWrite
import Derived.Test.YtcfpjbbahpjhdaaCut
import Derived.Test.YtcfpjbbahpjhdaaZag
namespace Go.Proofs.Ytcfpjbbahpjhdaa
open Go.RowKit Go.Deep

theorem ent_read (args : Array Value) (w : World) : (callFunc 26 args).run Try.prog w = .ok (.enter 26 args) w :=
  ent_of Try.func26 (by kernel_rfl) rfl args w

/-- A value that bytes begin with: the value, its bytes' count, the error. -/
def getN (t : Int) (b : List Int) : Int := if t = 1 then back (zTurned b) else match b with | [] => 0 | x :: _ => if 1 < x then 0 else x
def getS (t : Int) (b : List Int) : Nat := if t = 1 then zSize b else match b with | [] => 0 | x :: _ => if 1 < x then 0 else 1
def getE (t : Int) (b : List Int) : Int := if t = 1 then zErr b else match b with | [] => 10 | x :: _ => if 1 < x then 11 else 0

theorem get_size (t : Int) (b : List Int) : getS t b ≤ b.length := by
  unfold getS
  split
  · exact zSize_le b
  · split
    · simp
    · split <;> simp
theorem get_join {L ts b : List Int} {t : Int} : joinRd L (rd (t :: ts) b) = if getE t b = 0 then joinRd (L ++ [getN t b]) (rd ts (b.drop (getS t b))) else ([], getE t b) := by
  by_cases ht : t = 1
  · subst ht
    simp only [getE, getN, getS, if_true]
    by_cases hz : zErr b = 0
    · rw [if_pos hz, join_int hz]
    · rw [if_neg hz, join_int_bad hz]
  · simp only [getE, getN, getS, if_neg ht]
    cases b with
    | nil => rw [if_neg (by decide), join_bool_end ht]
    | cons x b =>
      by_cases hx : 1 < x
      · simp only [if_pos hx]
        rw [if_neg (by decide), join_bool_big ht hx]
      · simp only [if_neg hx, if_true]
        rw [join_bool ht hx]
        rfl

set_option maxHeartbeats 800000 in
theorem get_any (t : Int) (A : Option Addr) (n c : Nat) (b : List Int) (w : World) (hx : Sl w A n (u8s b)) (hb : ∀ x ∈ b, 0 ≤ x ∧ x < 256) (hn : n ≤ 1000) :
    Calls Try.prog 27 #[.int .i64 t, .slice A n c] w fun e w' => e = .returned (.tuple #[.int .i64 (getN t b), .int .i64 (getS t b), .int .i64 (getE t b)]) ∧ w' = w := by
  have hlx : b.length = n := by simpa using hx.1
  by_cases ht : t = 1
  · subst ht
    have hg := Lib.hid (show (getN 1 b = back (zTurned b) ∧ getS 1 b = zSize b) ∧ getE 1 b = zErr b from ⟨⟨rfl, rfl⟩, rfl⟩)
    clear hlx
    go_enter Try.func27, Try.ntmps27
    go_wp2_with fail
    refine (zag_any A n c b w hx hb (by omega)).mono ?_
    rintro e w1 ⟨rfl, hw⟩
    obtain rfl := hw.symm
    go_wp2
    go_ret3
    exact ⟨ret_three hg.out.1.1.symm (by rw [hg.out.1.2]) hg.out.2.symm, rfl⟩
  · have htb : (t == 1) = false := by simpa using ht
    by_cases h0 : n = 0
    · have hbn : b = [] := List.eq_nil_of_length_eq_zero (by omega)
      have hg := Lib.hid (show (getN t b = 0 ∧ getS t b = 0) ∧ getE t b = 10 by subst hbn; simp [getN, getS, getE, ht])
      subst h0
      clear hlx hbn ht
      go_enter Try.func27, Try.ntmps27
      go_wp2
      go_ret3
      exact ⟨ret_three hg.out.1.1.symm (by rw [hg.out.1.2]; rfl) hg.out.2.symm, rfl⟩
    · have hlen : decide ((n : Int) < 1) = false := decide_eq_false (by omega)
      obtain ⟨ad, x, rfl, hcx, hux⟩ := hx.num (k := 0) (by omega)
      have hc0 : w.cell? ad = some (.int .u8 x) := by
        have : ad.add 0 = ad := by unfold Addr.add; simp
        rw [← this]; exact hcx
      have hI : (0 : Int) < (n : Int) := by omega
      obtain ⟨r, hr⟩ : ∃ r, b = x :: r := by
        cases hbb : b with
        | nil => rw [hbb] at hux; simp at hux
        | cons y r => rw [hbb] at hux; exact ⟨r, by simp at hux; rw [hux]⟩
      have hx1 := hb x (List.mem_of_getElem? hux)
      by_cases hbig : 1 < x
      · have hg := Lib.hid (show (getN t b = 0 ∧ getS t b = 0) ∧ getE t b = 11 by subst hr; simp [getN, getS, getE, ht, hbig])
        clear hlx hr ht hux hb
        go_enter Try.func27, Try.ntmps27
        go_wp2
        go_ret3
        exact ⟨ret_three hg.out.1.1.symm (by rw [hg.out.1.2]; rfl) hg.out.2.symm, rfl⟩
      · have hg := Lib.hid (show (getN t b = x ∧ getS t b = 1) ∧ getE t b = 0 by subst hr; simp [getN, getS, getE, ht, hbig])
        clear hlx hr ht hux hb
        go_enter Try.func27, Try.ntmps27
        go_wp2
        go_ret3
        exact ⟨ret_three hg.out.1.1.symm (by rw [hg.out.1.2]; rfl) hg.out.2.symm, rfl⟩

set_option maxHeartbeats 1600000 in
theorem read1_any (k m q d : Nat) (t : Int) (pb pr base : Nat) (B : Option Addr) (b L : List Int) (vr : Value) (w : World) (hpb : Blk w pb 27 [.slice B m d]) (hpr : Blk w pr 22 [vr]) (hy : Sl w B m (u8s b)) (hb : ∀ x ∈ b, 0 ≤ x ∧ x < 256) (hm : m ≤ 1000) (hmd : m ≤ d)
    (hown : w.ownsRow base 3 1 vr q (i64s L)) (hq : q ≤ 1000) (hbase : base ≤ pb) (hbase2 : base ≤ pr) :
    Calls Try.prog 26 #[.int .i64 k, .int .i64 t, .pointer (some ⟨pb, 0, none⟩), .pointer (some ⟨pr, 0, none⟩)] w fun e w' => e = .returned (.int .i64 (getE t b)) ∧ ∃ v' B' d', Blk w' pr 22 [v'] ∧ Blk w' pb 27 [.slice B' (m - getS t b) d'] ∧ m - getS t b ≤ d' ∧ (∀ w2, Sl w2 B m (u8s b) → Sl w2 B' (m - getS t b) (u8s (b.drop (getS t b)))) ∧ w'.ownsRow base 3 1 v' (q + 1) (i64s (L ++ [getN t b])) ∧ Below base w w' := by
  obtain ⟨i0, hi0, hz0, hz1, hz2⟩ := info_parts info_int
  obtain ⟨i8, hi8, hz8, hs8, hb8⟩ := info_parts info_u8
  have hlx : b.length = m := by simpa using hy.1
  have hss := get_size t b
  rw [hlx] at hss
  have hcb := hpb.cell (i := 0) rfl
  have hcr := hpr.cell (i := 0) rfl
  have hfr := hpr.frozen 0
  have hlt := hpb.lt
  have hlr := hpr.lt
  have hty : (27 : TypeId) ≠ 3 := by decide
  have hty2 : (22 : TypeId) ≠ 3 := by decide
  have hbw : base ≤ w.heap.size := by omega
  obtain ⟨zn, hzn⟩ : ∃ z, z = getN t b := ⟨_, rfl⟩
  obtain ⟨zs, hzs⟩ : ∃ z, z = getS t b := ⟨_, rfl⟩
  obtain ⟨ze, hze⟩ : ∃ z, z = getE t b := ⟨_, rfl⟩
  have Hget := Lib.hid (get_any t B m d b w hy hb hm)
  rw [← hzn, ← hzs, ← hze] at Hget
  rw [← hzs] at hss
  have Hzn := Lib.hid hzn; have Hzs := Lib.hid hzs; have Hze := Lib.hid hze
  clear hzn hzs hze hlx
  rw [← Hzn.out, ← Hzs.out, ← Hze.out]
  go_enter Try.func26, Try.ntmps26
  go_wp2_with fail
  refine Hget.out.mono ?_
  rintro e w1 ⟨rfl, hw⟩
  obtain rfl := hw.symm
  have hne := own_ne hown hpb hty
  have hner := own_ne hown hpr hty2
  have hbp := hpb.ne hpr (by decide)
  go_wp2_with (first
    | (at_builtin
       refine wpList_push _ _ 22 3 i0 _ _ 8 rfl rfl Try.underlying22 hi0 hz0 hz1 hz2 rfl base _ _ _ hown rfl rfl rfl (by omega) (by omega) hbw ?_
       intro v' w5 hown5 hg5 hb5 hs5
       obtain ⟨A5, c5, rfl, hsl5⟩ := own_form hown5
       have hpb5 := (hpb.alloc _).kept (hg5.block pb (by rw [nblk_alloc]; omega) hne)
       have hpr5 := (hpr.alloc _).kept (hg5.block pr (by rw [nblk_alloc]; omega) hner)
       have hcr5 := hpr5.cell (i := 0) rfl
       have hfr5 := hpr5.frozen 0
       have hpb6 := hpb5.setOther (a := ⟨pr, 0, none⟩) hbp (.slice A5 (q + 1) c5)
       have hcb6 := hpb6.cell (i := 0) rfl
       have hfb6 := hpb6.frozen 0)
    | (refine wpList_cut (.tmp 21) (.tmp 22) 27 5 i8 rfl rfl Try.underlying27 hi8 hs8 B m d zs .i64 rfl rfl hss hmd ?_
       intro A7 hA7))
  go_ret
  have hne5 := own_ne hown5 hpr5 hty2
  have hnb5 := own_ne hown5 hpb5 hty
  have hpr6 := hpr5.set 0 (.slice A5 (q + 1) c5)
  refine ⟨rfl, _, A7, d - zs, hpr6.setOther (a := ⟨pb, 0, none⟩) (fun e => hbp e.symm) _, hpb6.set 0 _, by omega, fun w2 h => ?_, ?_, (hb5.setCell hbase2 _).setCell hbase _⟩
  · have := hA7 w2 _ h
    rw [show (u8s b).drop zs = u8s (b.drop zs) from (List.map_drop).symm] at this
    exact this
  · have h1 := ownsRow_setCell_other (a := ⟨pr, 0, none⟩) hown5 (fun e => hne5 e.symm) (.slice A5 (q + 1) c5)
    have h2 := ownsRow_setCell_other (a := ⟨pb, 0, none⟩) h1 (fun e => hnb5 e.symm) (.slice A7 (m - zs) (d - zs))
    rw [show i64s (L ++ [zn]) = i64s L ++ [.int .i64 zn] from List.map_append]
    exact h2

theorem joinRd_all {ts b : List Int} : joinRd [] (rd ts b) = rd ts b := join_nil _ (rd_err ts b)

set_option maxHeartbeats 1600000 in
theorem row_read_is (L : List Int) (err : Int) (A B : Option Addr) (n c m d : Nat) (ts b : List Int) (w : World) (hx : Sl w A n (i64s ts)) (hy : Sl w B m (u8s b)) (hn : n ≤ 1000) (hm : m ≤ 1000) (hmd : m ≤ d) (hb : ∀ x ∈ b, 0 ≤ x ∧ x < 256) (hr : readRow ts b = (L, err)) :
    Calls Try.prog 17 #[.slice A n c, .slice B m d] w fun e w' => ∃ v k, e = .returned (.tuple #[v, .int .i64 err]) ∧ w'.ownsRow w.heap.size 3 1 v k (i64s L) ∧ Below w.heap.size w w' := by
  have hlx : ts.length = n := by simpa using hx.1
  have hly : b.length = m := by simpa using hy.1
  have Hlx := Lib.hid hlx; have Hly := Lib.hid hly; have Hres := Lib.hid hr; have Hb := Lib.hid hb
  clear hr hb
  obtain ⟨w1, hw1⟩ : ∃ w1, w1 = w.alloc (.cells #[.slice B m d] 27) := ⟨_, rfl⟩
  obtain ⟨w2, hw2⟩ : ∃ w2, w2 = w1.alloc (.cells #[.slice none 0 0] 22) := ⟨_, rfl⟩
  have hs1 : w1.heap.size = w.heap.size + 1 := by rw [hw1, nblk_alloc]
  have hb1 : Below w.heap.size w w1 := by rw [hw1]; exact below_alloc _ _
  have hb2 : Below w.heap.size w w2 := by rw [hw2]; exact hb1.alloc (by omega) _
  have hpb : Blk w2 w.heap.size 27 [.slice B m d] := by rw [hw2]; exact Blk.alloc (by rw [hw1]; exact Blk.new _ _ _) _
  have hpr : Blk w2 (w.heap.size + 1) 22 [.slice none 0 0] := by rw [hw2, ← hs1]; exact Blk.new _ _ _
  have hx2 := hx.below hb2
  have Hw2 := Lib.hid (show w2 = (w.alloc (.cells #[.slice B m d] 27)).alloc (.cells #[.slice none 0 0] 22) by rw [hw2, hw1])
  clear hw2 hw1
  obtain ⟨r, hr⟩ : ∃ r, r = rightOf ts := ⟨_, rfl⟩
  have Hr := Lib.hid hr
  clear hr
  cases r
  · have Hf := Lib.hid (show (L, err) = (([] : List Int), (2 : Int)) by rw [← Hres.out]; unfold readRow; rw [← Hr.out]; rfl)
    clear hlx hly
    go_enter Try.func17, Try.ntmps17
    go_wp2_with fail
    rw [← Hw2.out]
    refine (each_not _ A n c ts w2 hx2 (by omega) Hr.out).mono ?_
    rintro e w3 ⟨rfl, hw⟩
    obtain rfl := hw.symm
    go_wp2_with fail
    go_ret2
    obtain ⟨rfl, rfl⟩ := Prod.mk.inj Hf.out
    exact ⟨_, 0, rfl, World.ownsRow_nil _ _ _ _, hb2⟩
  · have Hrd := Lib.hid (show readRow ts b = rd ts b by unfold readRow; rw [← Hr.out]; rfl)
    clear hlx hly
    have Heach := Lib.hid (each_any 26 #[.pointer (some ⟨w.heap.size, 0, none⟩), .pointer (some ⟨w.heap.size + 1, 0, none⟩)] ent_read A n c ts w2 hx2 hn Hr.out
      (fun k wr => Below w.heap.size w wr ∧ ∃ v B' r d' L' rest, Blk wr w.heap.size 27 [.slice B' r d'] ∧ Blk wr (w.heap.size + 1) 22 [v] ∧ Sl w B' r (u8s rest) ∧ (∀ x ∈ rest, 0 ≤ x ∧ x < 256) ∧ r ≤ m ∧ r ≤ d' ∧ wr.ownsRow w.heap.size 3 1 v k (i64s L') ∧ joinRd L' (rd (ts.drop k) rest) = readRow ts b)
      (fun er wr => Below w.heap.size w wr ∧ readRow ts b = ([], er))
      ⟨hb2, _, _, _, _, [], b, hpb, hpr, hy, Hb.out, by omega, hmd, World.ownsRow_nil _ _ _ _, by rw [List.drop_zero, joinRd_all, Hrd.out]⟩ (fun k wr h => hx.below h.1) (by
        rintro k t wr hk ht ⟨hbl, v, B', r, d', L', rest, h1, h2, h3, h4, h5, h6, h7, h8⟩
        have hrl : rest.length = r := by simpa using h3.1
        refine (read1_any k r k d' t w.heap.size (w.heap.size + 1) w.heap.size B' rest L' v wr h1 h2 (h3.below hbl) h4 (by omega) h6 h7 (by omega) (by omega) (by omega)).mono ?_
        rintro e w' ⟨rfl, v', B2, d2, g1, g2, g3, g4, g5, g6⟩
        refine ⟨_, rfl, ?_⟩
        have hj := get_join (L := L') (ts := ts.drop (k + 1)) (b := rest) (t := t)
        rw [← drop_at _ _ _ ht, h8] at hj
        by_cases he : getE t rest = 0
        · rw [if_pos he] at hj
          exact .inl ⟨he, hbl.trans g6, v', B2, _, d2, _, _, g2, g1, g4 w h3, fun x hx => h4 x (List.mem_of_mem_drop hx), by omega, g3, g5, hj.symm⟩
        · rw [if_neg he] at hj
          exact .inr ⟨he, hbl.trans g6, hj⟩))
    go_enter Try.func17, Try.ntmps17
    go_wp2_with fail
    rw [← Hw2.out]
    refine Heach.out.mono ?_
    rintro e w3 ⟨er, rfl, hor⟩
    by_cases he : er = 0
    · subst he
      have hin : Below w.heap.size w w3 ∧ ∃ v B' r d' L' rest, Blk w3 w.heap.size 27 [.slice B' r d'] ∧ Blk w3 (w.heap.size + 1) 22 [v] ∧ rest.length = r ∧ w3.ownsRow w.heap.size 3 1 v n (i64s L') ∧ joinRd L' (rd [] rest) = (L, err) := by
        rcases hor with ⟨_, hb, v, B', r, d', L', rest, h1, h2, h3, _, _, _, h7, h8⟩ | ⟨h, _⟩
        · rw [List.drop_of_length_le (by rw [Hlx.out]; omega), Hres.out] at h8
          exact ⟨hb, v, B', r, d', L', rest, h1, h2, by simpa using h3.1, h7, h8⟩
        · exact absurd rfl h
      clear hor
      obtain ⟨hb3, v, B', r, d', L', rest, h1, h2, h3, h7, h8⟩ := hin
      have hc1 := h1.cell (i := 0) rfl
      have hc2 := h2.cell (i := 0) rfl
      obtain ⟨A4, c4, rfl, hs4⟩ := own_form h7
      have H7 := Lib.hid h7; have H8 := Lib.hid h8
      clear h7 h8
      by_cases hr0 : 0 < r
      · have hd : decide (0 < (r : Int)) = true := decide_eq_true (by omega)
        have Hf := Lib.hid (show (([] : List Int), (12 : Int)) = (L, err) by rw [← H8.out, join_more (by rintro rfl; simp at h3; omega)])
        clear h3
        go_wp2_with fail
        go_ret2
        obtain ⟨rfl, rfl⟩ := Prod.mk.inj Hf.out
        exact ⟨_, 0, rfl, World.ownsRow_nil _ _ _ _, hb3⟩
      · have hd : decide (0 < (r : Int)) = false := decide_eq_false (by omega)
        have hrest : rest = [] := List.eq_nil_of_length_eq_zero (by omega)
        have Hf := Lib.hid (show (L', (0 : Int)) = (L, err) by rw [← H8.out, hrest, join_done])
        clear h3 hrest
        go_wp2_with fail
        go_ret2
        obtain ⟨rfl, rfl⟩ := Prod.mk.inj Hf.out
        exact ⟨_, n, rfl, H7.out, hb3⟩
    · have hin : Below w.heap.size w w3 ∧ (([] : List Int), er) = (L, err) := by
        rcases hor with ⟨h, _⟩ | ⟨_, h1, h2⟩
        · exact absurd h he
        · exact ⟨h1, by rw [← h2]; exact Hres.out⟩
      have heb : (er != 0) = true := by simpa using he
      clear hor he
      obtain ⟨hb3, hf⟩ := hin
      have Hf := Lib.hid hf
      clear hf
      go_wp2_with fail
      go_ret2
      obtain ⟨rfl, rfl⟩ := Prod.mk.inj Hf.out
      exact ⟨_, 0, rfl, World.ownsRow_nil _ _ _ _, hb3⟩
end Go.Proofs.Ytcfpjbbahpjhdaa
