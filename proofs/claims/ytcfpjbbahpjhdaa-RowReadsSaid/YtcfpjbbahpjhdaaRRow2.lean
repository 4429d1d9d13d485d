import Derived.Test.YtcfpjbbahpjhdaaRRow
import Derived.Test.YtcfpjbbahpjhdaaBack
namespace Go.Proofs.Ytcfpjbbahpjhdaa
open Go.RowKit

theorem fits_not {ts l : List Int} (h : rightOf ts = false) : fitsOf ts l = false := by unfold fitsOf; rw [h]; rfl
theorem fits_len {ts l : List Int} (h : l.length ≠ ts.length) : fitsOf ts l = false := by unfold fitsOf; rw [decide_eq_false h]; simp
theorem fits_all {ts l : List Int} (h : rightOf ts = true) (hl : l.length = ts.length) : fitsOf ts l = fitAll ts l := by unfold fitsOf; rw [h, decide_eq_true hl]; rfl

set_option maxHeartbeats 1600000 in
theorem rfits_any (A B : Option Addr) (n c m d : Nat) (ts l : List Int) (w : World) (hx : Sl w A n (i64s ts)) (hy : Sl w B m (i64s l)) (hn : n ≤ 9223372036854775807) (hm : m ≤ 9223372036854775807) :
    Calls Try.prog 11 #[.slice A n c, .slice B m d] w fun e w' => e = .returned (.bool (fitsOf ts l)) ∧ w' = w := by
  have hlx : ts.length = n := by simpa using hx.1
  have hly : l.length = m := by simpa using hy.1
  have Hlx := Lib.hid hlx; have Hly := Lib.hid hly
  by_cases hr : rightOf ts = true
  · have Hr := Lib.hid hr.symm
    by_cases hmn : m = n
    · subst hmn
      have Hf := Lib.hid (fits_all hr (hly.trans hlx.symm))
      clear hlx hly hr
      go_enter Try.func11, Try.ntmps11
      go_wp2_with fail
      refine (rright_is true A m c ts w hx hm Hr.out).mono ?_
      rintro e w1 ⟨rfl, rfl⟩
      go_wp2_with fail
      go_loop [5] (fun i => ∃ k : Nat, k ≤ m ∧ i = .int .i64 k ∧ fitAll (ts.drop k) (l.drop k) = fitsOf ts l) (fun i => m - (intOf i).toNat)
      case atStart => exact ⟨0, by omega, rfl, by rw [Hf.out]; simp⟩
      case round =>
        obtain ⟨k, hk, rfl, hq⟩ := hrel
        have Hq := Lib.hid hq
        clear hq
        by_cases hlt : k < m
        · obtain ⟨ad, t, rfl, hct, hut⟩ := hx.num hlt
          obtain ⟨bd, v, rfl, hcv, huv⟩ := hy.num hlt
          have hdt := drop_at _ _ _ hut
          have hdv := drop_at _ _ _ huv
          have Hq2 := Lib.hid (show fitAll (t :: ts.drop (k + 1)) (v :: l.drop (k + 1)) = fitsOf ts l by rw [← hdt, ← hdv]; exact Hq.out)
          clear hut huv hdt hdv
          by_cases ht : t = 2
          · subst ht
            by_cases h0 : v = 0
            · have Hn := Lib.hid (show fitAll (ts.drop (k + 1)) (l.drop (k + 1)) = fitsOf ts l by rw [← Hq2.out, fit_step (.inr (.inl h0))])
              have hv0 : (v != 0) = false := by simpa using h0
              clear h0
              go_wp2
              go_round
              case rel => exact ⟨k + 1, by omega, by go_num, Hn.out⟩
              case measure => simp [intOf]; omega
            · have hv0 : (v != 0) = true := by simpa using h0
              by_cases h1 : v = 1
              · have Hn := Lib.hid (show fitAll (ts.drop (k + 1)) (l.drop (k + 1)) = fitsOf ts l by rw [← Hq2.out, fit_step (.inr (.inr h1))])
                have hv1 : (v != 1) = false := by simpa using h1
                clear h0 h1
                go_wp2
                go_round
                case rel => exact ⟨k + 1, by omega, by go_num, Hn.out⟩
                case measure => simp [intOf]; omega
              · have hv1 : (v != 1) = true := by simpa using h1
                have Hn := Lib.hid (show fitsOf ts l = false by rw [← Hq2.out, fit_bad rfl h0 h1])
                clear h0 h1
                go_wp2
                go_ret
                exact ⟨ret_bool Hn.out.symm, rfl⟩
          · have Hn := Lib.hid (show fitAll (ts.drop (k + 1)) (l.drop (k + 1)) = fitsOf ts l by rw [← Hq2.out, fit_step (.inl ht)])
            have ht2 : (t == 2) = false := by simpa using ht
            clear ht
            go_wp2
            go_round
            case rel => exact ⟨k + 1, by omega, by go_num, Hn.out⟩
            case measure => simp [intOf]; omega
        · have Hn := Lib.hid (show fitsOf ts l = true by
            rw [← Hq.out, List.drop_of_length_le (by rw [Hlx.out]; omega)]
            unfold fitAll; rfl)
          go_wp2
          go_ret
          exact ⟨ret_bool Hn.out.symm, rfl⟩
    · have Hf := Lib.hid (fits_len (ts := ts) (l := l) (by omega))
      have hmb : ((m : Int) != (n : Int)) = true := by simp; omega
      clear hlx hly hr
      go_enter Try.func11, Try.ntmps11
      go_wp2_with fail
      refine (rright_is true A n c ts w hx hn Hr.out).mono ?_
      rintro e w1 ⟨rfl, rfl⟩
      go_wp2_with fail
      go_ret
      exact ⟨ret_bool Hf.out.symm, rfl⟩
  · have hr' : rightOf ts = false := by simpa using hr
    have Hf := Lib.hid (fits_not (l := l) hr')
    have Hr := Lib.hid hr'.symm
    clear hr hr' hlx hly
    go_enter Try.func11, Try.ntmps11
    go_wp2_with fail
    refine (rright_is false A n c ts w hx hn Hr.out).mono ?_
    rintro e w1 ⟨rfl, rfl⟩
    go_wp2_with fail
    go_ret
    exact ⟨ret_bool Hf.out.symm, rfl⟩

theorem bytes_step (t v : Int) (ts vs : List Int) : rowBytes (t :: ts) (v :: vs) = (if t = 2 then [v % 256] else sh 10 (turned v)) ++ rowBytes ts vs := rfl

set_option maxHeartbeats 1600000 in
theorem rrbytes_any (A B : Option Addr) (n c d : Nat) (ts l : List Int) (w : World) (hx : Sl w A n (i64s ts)) (hy : Sl w B n (i64s l)) (hn : n ≤ 1000) (hl : ∀ v ∈ l, -9223372036854775808 ≤ v ∧ v ≤ 9223372036854775807) :
    Calls Try.prog 16 #[.slice A n c, .slice B n d] w fun e w' => ∃ v m, e = .returned v ∧ w'.ownsRow w.heap.size 5 1 v m (u8s (rowBytes ts l)) ∧ Below w.heap.size w w' := by
  obtain ⟨i0, hi0, hz0, hz1, hz2⟩ := info_parts info_u8
  have hlx : ts.length = n := by simpa using hx.1
  have hly : l.length = n := by simpa using hy.1
  have Hlx := Lib.hid hlx; have Hly := Lib.hid hly; have Hl := Lib.hid hl
  clear hlx hly hl
  go_enter Try.func16, Try.ntmps16
  go_wp2
  go_loopw [5, 6] (fun o i wr => ∃ (k m : Nat) (L : List Int), k ≤ n ∧ i = .int .i64 k ∧ m ≤ 10 * k ∧ L ++ rowBytes (ts.drop k) (l.drop k) = rowBytes ts l ∧ wr.ownsRow w.heap.size 5 1 o m (u8s L) ∧ Below w.heap.size w wr) (fun _ i _ => n - (intOf i).toNat)
  case atStart => exact ⟨0, 0, [], by omega, rfl, by omega, by simp, World.ownsRow_nil _ _ _ _, Below.refl _ _⟩
  case round =>
    obtain ⟨k, m, L, hk, rfl, hmk, hq, hown, hbl⟩ := hrel
    have Hq := Lib.hid hq
    clear hq
    have hsz := hbl.size
    by_cases hlt : k < n
    · obtain ⟨ad, t, rfl, hct, hut⟩ := (hx.below hbl).num hlt
      obtain ⟨bd, v, rfl, hcv, huv⟩ := (hy.below hbl).num hlt
      have hv := Hl.out v (List.mem_of_getElem? huv)
      have Hq2 := Lib.hid (show L ++ ((if t = 2 then [v % 256] else sh 10 (turned v)) ++ rowBytes (ts.drop (k + 1)) (l.drop (k + 1))) = rowBytes ts l by
        rw [← bytes_step, ← drop_at _ _ _ hut, ← drop_at _ _ _ huv]; exact Hq.out)
      clear hut huv
      have hd : decide ((k : Int) < (n : Int)) = true := decide_eq_true (by omega)
      by_cases ht : t = 2
      · subst ht
        have Hn := Lib.hid (show (L ++ [v % 256]) ++ rowBytes (ts.drop (k + 1)) (l.drop (k + 1)) = rowBytes ts l by
          have := Hq2.out; rw [if_pos rfl] at this; rw [List.append_assoc]; exact this)
        go_wp2_with (at_builtin; refine wpList_push _ _ 27 5 i0 _ _ 1 rfl rfl Try.underlying27 hi0 hz0 hz1 hz2 rfl w.heap.size _ _ _ hown rfl rfl rfl (by omega) (by omega) hsz ?_; intro v' w2 hown3 hg2 hb2 hs2)
        go_roundw
        case rel => exact ⟨k + 1, m + 1, L ++ [v % 256], by omega, by go_num, by omega, Hn.out, by simpa [u8s] using hown3, hbl.trans hb2⟩
        case measure => simp [intOf] <;> omega
      · have ht2 : (t == 2) = false := by simpa using ht
        have Hn := Lib.hid (show (L ++ sh 10 (turned v)) ++ rowBytes (ts.drop (k + 1)) (l.drop (k + 1)) = rowBytes ts l by
          have := Hq2.out; rw [if_neg ht] at this; rw [List.append_assoc]; exact this)
        clear ht
        go_wp2_with fail
        refine (rzig_any v _ hv.1 hv.2).mono ?_
        rintro e w3 ⟨v3, m3, rfl, hown3, hb3⟩
        obtain ⟨A3, c3, rfl, hs3⟩ := own_form hown3
        have hm3 : m3 ≤ 10 := by have h1 := own_len hown3; have h2 := sh_len 10 (turned v); simp at h1; omega
        have hown' := own_below hown hb3
        have hbl3 := hbl.trans (hb3.mono hsz)
        have hsz3 := hbl3.size
        clear hown3 hown
        go_wp2_with (at_builtin; refine wpList_cat _ _ 27 5 i0 _ 1 rfl rfl Try.underlying27 hi0 hz0 hz1 hz2 rfl w.heap.size _ _ _ hown' _ _ _ _ hs3 rfl rfl ints_one (by omega) (by omega) hsz3 ?_; intro v' w4 hown4 hg4 hb4 hs4)
        go_roundw
        case rel => exact ⟨k + 1, m + m3, L ++ sh 10 (turned v), by omega, by go_num, by omega, Hn.out, by simpa [u8s] using hown4, hbl3.trans hb4⟩
        case measure => simp [intOf] <;> omega
    · have Hf := Lib.hid (show L = rowBytes ts l by
        have := Hq.out
        rw [List.drop_of_length_le (by rw [Hlx.out]; omega)] at this
        simpa [rowBytes] using this)
      have hown2 := hown
      rw [Hf.out] at hown2
      clear hown
      go_wp2
      go_ret
      exact ⟨_, _, rfl, hown2, hbl⟩

theorem drop_len {b : List Int} {at_ n : Nat} (h : b.length = n) : (b.drop at_).length = n - at_ := by rw [List.length_drop, h]

/-- A slice from an index on. -/
theorem Sl.drop {w : World} {ad : Addr} {n k : Nat} {xs : List Value} (h : Sl w (some ad) n xs) (hk : k ≤ n) : Sl w (some (ad.add k)) (n - k) (xs.drop k) := by
  refine ⟨by rw [List.length_drop, h.1], fun j u hu => ⟨_, rfl, ?_⟩⟩
  rw [List.getElem?_drop] at hu
  obtain ⟨ad', e, hc⟩ := h.2 (k + j) u hu
  cases e
  rw [addr_twice]
  exact hc

theorem rzag_is (x e : Int) (s : Nat) (A : Option Addr) (n c : Nat) (b : List Int) (w : World) (hx : Sl w A n (u8s b)) (hb : ∀ x ∈ b, 0 ≤ x ∧ x < 256) (hn : n ≤ 9223372036854775807) (h1 : x = back (zTurned b)) (h2 : s = zSize b) (h3 : e = zErr b) :
    Calls Try.prog 28 #[.slice A n c] w fun r w' => r = .returned (.tuple #[.int .i64 x, .int .i64 s, .int .i64 e]) ∧ Below w.heap.size w w' := by
  rw [h1, h2, h3]
  exact (rzag_any A n c b w hx hb hn).mono fun r w' ⟨h, h'⟩ => ⟨h', h⟩

theorem ret_row {v v' : Value} {a b : Int} (h : v = v') (h' : a = b) : Ending.returned (.tuple #[v, .int .i64 a]) = .returned (.tuple #[v', .int .i64 b]) := by rw [h, h']

set_option maxRecDepth 100000 in
set_option maxHeartbeats 3200000 in
theorem rread_any (A B : Option Addr) (n c m d : Nat) (ts b : List Int) (w : World) (hx : Sl w A n (i64s ts)) (hy : Sl w B m (u8s b)) (hn : n ≤ 9223372036854775807) (hm : m ≤ 1000) (hmd : m ≤ d) (hb : ∀ x ∈ b, 0 ≤ x ∧ x < 256) :
    Calls Try.prog 18 #[.slice A n c, .slice B m d] w fun e w' => ∃ v k, e = .returned (.tuple #[v, .int .i64 (readRow ts b).2]) ∧ w'.ownsRow w.heap.size 3 1 v k (i64s (readRow ts b).1) ∧ Below w.heap.size w w' := by
  obtain ⟨i0, hi0, hz0', hz1, hz2⟩ := info_parts info_int
  have hlx : ts.length = n := by simpa using hx.1
  have hly : b.length = m := by simpa using hy.1
  have Hlx := Lib.hid hlx; have Hly := Lib.hid hly; have Hb := Lib.hid hb
  clear hb
  by_cases hr : rightOf ts = true
  · have hn9 : n < 9 := by have := (right_is hr).2.2; omega
    have Hty := Lib.hid (right_is hr).1
    have Hr := Lib.hid hr.symm
    have Hres := Lib.hid (show readRow ts b = rd ts b by unfold readRow; rw [if_pos hr])
    clear hr hlx hly
    go_enter Try.func18, Try.ntmps18
    go_wp2_with fail
    refine (rright_is true A n c ts w hx hn Hr.out).mono ?_
    rintro e w1 ⟨rfl, hw⟩
    obtain rfl := hw.symm
    go_wp2_with fail
    go_loopw [6, 7, 8] (fun o a i wr => ∃ (k at_ : Nat) (L : List Int), k ≤ n ∧ i = .int .i64 k ∧ a = .int .i64 at_ ∧ at_ ≤ m ∧ L.length = k ∧ joinRd L (rd (ts.drop k) (b.drop at_)) = rd ts b ∧ wr.ownsRow w.heap.size 3 1 o k (i64s L) ∧ Below w.heap.size w wr) (fun _ _ i _ => n - (intOf i).toNat)
    case atStart => exact ⟨0, 0, [], by omega, rfl, rfl, by omega, rfl, by simpa using join_nil _ (rd_err ts b), World.ownsRow_nil _ _ _ _, Below.refl _ _⟩
    case round =>
      obtain ⟨k, at_, L, hk, rfl, rfl, hat, hL, hq, hown, hbl⟩ := hrel
      have Hq := Lib.hid hq; have HL := Lib.hid hL
      clear hq hL
      have hsz := hbl.size
      by_cases hlt : k < n
      · obtain ⟨ad, t, rfl, hct, hut⟩ := (hx.below hbl).num hlt
        have Hd := Lib.hid (drop_at _ _ _ hut)
        have ht12 := Hty.out t (List.mem_of_getElem? hut)
        have hd : decide ((k : Int) < (n : Int)) = true := decide_eq_true (by omega)
        have hltI : (k : Int) < (n : Int) := by omega
        clear hut
        by_cases ht : t = 1
        · subst ht
          clear ht12
          by_cases hda : d = at_
          · have hsl : Sl wr B (m - at_) (u8s (b.drop at_)) := by
              have h0 : m - at_ = 0 := by omega
              rw [h0, List.drop_of_length_le (by rw [Hly.out]; omega)]
              exact Sl.nil_ _ _
            have Hbd := Lib.hid (show ∀ x ∈ b.drop at_, 0 ≤ x ∧ x < 256 from fun x hx => Hb.out x (List.mem_of_mem_drop hx))
            obtain ⟨zx, hzx⟩ : ∃ z, z = back (zTurned (b.drop at_)) := ⟨_, rfl⟩
            obtain ⟨zs, hzs, hzs2⟩ : ∃ z, z = zSize (b.drop at_) ∧ at_ + z ≤ m := ⟨_, rfl, by have := zSize_le (b.drop at_); rw [List.length_drop, Hly.out] at this; omega⟩
            obtain ⟨ze, hze⟩ : ∃ z, z = zErr (b.drop at_) := ⟨_, rfl⟩
            have Hzx := Lib.hid hzx; have Hzs := Lib.hid hzs; have Hze := Lib.hid hze
            have Hq2 := Lib.hid (show joinRd L (rd (1 :: ts.drop (k + 1)) (b.drop at_)) = rd ts b by rw [← Hd.out]; exact Hq.out)
            clear hzx hzs hze
            go_wp2_with fail
            clear hda
            refine (rzag_is zx ze zs _ (m - at_) _ (b.drop at_) _ hsl Hbd.out (by omega) Hzx.out Hzs.out Hze.out).mono ?_
            rintro e w3 ⟨rfl, hb3⟩
            have hbl3 := hbl.trans (hb3.mono hsz)
            have hsz3 := hbl3.size
            have hown3 := own_below hown hb3
            clear hb3 hown hsl
            by_cases hz0 : ze = 0
            · subst hz0
              have Hn := Lib.hid (show joinRd (L ++ [zx]) (rd (ts.drop (k + 1)) (b.drop (at_ + zs))) = rd ts b by
                rw [← Hq2.out, join_int Hze.out.symm, Hzx.out, Hzs.out, List.drop_drop])
              go_wp2_with (at_builtin; refine wpList_push _ _ 22 3 i0 _ _ 8 rfl rfl Try.underlying22 hi0 hz0' hz1 hz2 rfl w.heap.size _ _ _ hown3 rfl rfl rfl (by omega) (by omega) hsz3 ?_; intro v' w4 hown4 hg4 hb4 hs4)
              go_roundw
              case rel => exact ⟨k + 1, at_ + zs, L ++ [zx], by omega, by go_num, by go_num, by omega, by simp [HL.out], Hn.out, by simpa [i64s] using hown4, hbl3.trans hb4⟩
              case measure => simp [intOf] <;> omega
            · have Hn := Lib.hid (show readRow ts b = ([], ze) by rw [Hres.out, ← Hq2.out, join_int_bad (by rw [← Hze.out]; exact hz0), Hze.out])
              have hzb : (ze != 0) = true := by simpa using hz0
              clear hz0
              go_wp2_with fail
              go_ret2
              exact ⟨_, 0, ret_row rfl (by rw [Hn.out]), by rw [Hn.out]; exact World.ownsRow_nil _ _ _ _, hbl3⟩
          · rcases B with _ | bd
            · have hm0 : Hid (m = 0) := Lib.hid (by
                have := hy.1
                cases hbb : b with
                | nil => rw [hbb] at this; simpa using this.symm
                | cons y r =>
                  obtain ⟨ad', e, _⟩ := hy.2 0 (.int .u8 y) (by rw [hbb]; rfl)
                  cases e)
              have hsl : Sl wr none (m - at_) (u8s (b.drop at_)) := by
                have hm0' := hm0.out
                have h0 : m - at_ = 0 := by omega
                rw [h0, List.drop_of_length_le (by rw [Hly.out]; omega)]
                exact Sl.nil_ _ _
              have Hbd := Lib.hid (show ∀ x ∈ b.drop at_, 0 ≤ x ∧ x < 256 from fun x hx => Hb.out x (List.mem_of_mem_drop hx))
              obtain ⟨zx, hzx⟩ : ∃ z, z = back (zTurned (b.drop at_)) := ⟨_, rfl⟩
              obtain ⟨zs, hzs, hzs2⟩ : ∃ z, z = zSize (b.drop at_) ∧ at_ + z ≤ m := ⟨_, rfl, by have := zSize_le (b.drop at_); rw [List.length_drop, Hly.out] at this; omega⟩
              obtain ⟨ze, hze⟩ : ∃ z, z = zErr (b.drop at_) := ⟨_, rfl⟩
              have Hzx := Lib.hid hzx; have Hzs := Lib.hid hzs; have Hze := Lib.hid hze
              have Hq2 := Lib.hid (show joinRd L (rd (1 :: ts.drop (k + 1)) (b.drop at_)) = rd ts b by rw [← Hd.out]; exact Hq.out)
              clear hzx hzs hze
              go_wp2_with fail
              refine (rzag_is zx ze zs _ (m - at_) _ (b.drop at_) _ hsl Hbd.out (by omega) Hzx.out Hzs.out Hze.out).mono ?_
              rintro e w3 ⟨rfl, hb3⟩
              have hbl3 := hbl.trans (hb3.mono hsz)
              have hsz3 := hbl3.size
              have hown3 := own_below hown hb3
              clear hb3 hown hsl
              by_cases hz0 : ze = 0
              · subst hz0
                have Hn := Lib.hid (show joinRd (L ++ [zx]) (rd (ts.drop (k + 1)) (b.drop (at_ + zs))) = rd ts b by
                  rw [← Hq2.out, join_int Hze.out.symm, Hzx.out, Hzs.out, List.drop_drop])
                go_wp2_with (at_builtin; refine wpList_push _ _ 22 3 i0 _ _ 8 rfl rfl Try.underlying22 hi0 hz0' hz1 hz2 rfl w.heap.size _ _ _ hown3 rfl rfl rfl (by omega) (by omega) hsz3 ?_; intro v' w4 hown4 hg4 hb4 hs4)
                go_roundw
                case rel => exact ⟨k + 1, at_ + zs, L ++ [zx], by omega, by go_num, by go_num, by omega, by simp [HL.out], Hn.out, by simpa [i64s] using hown4, hbl3.trans hb4⟩
                case measure => simp [intOf] <;> omega
              · have Hn := Lib.hid (show readRow ts b = ([], ze) by rw [Hres.out, ← Hq2.out, join_int_bad (by rw [← Hze.out]; exact hz0), Hze.out])
                have hzb : (ze != 0) = true := by simpa using hz0
                clear hz0
                go_wp2_with fail
                go_ret2
                exact ⟨_, 0, ret_row rfl (by rw [Hn.out]), by rw [Hn.out]; exact World.ownsRow_nil _ _ _ _, hbl3⟩
            · have hsl : Sl wr (some (bd.add at_)) (m - at_) (u8s (b.drop at_)) := by
                have := (hy.below hbl).drop hat
                simpa [u8s] using this
              have Hbd := Lib.hid (show ∀ x ∈ b.drop at_, 0 ≤ x ∧ x < 256 from fun x hx => Hb.out x (List.mem_of_mem_drop hx))
              obtain ⟨zx, hzx⟩ : ∃ z, z = back (zTurned (b.drop at_)) := ⟨_, rfl⟩
              obtain ⟨zs, hzs, hzs2⟩ : ∃ z, z = zSize (b.drop at_) ∧ at_ + z ≤ m := ⟨_, rfl, by have := zSize_le (b.drop at_); rw [List.length_drop, Hly.out] at this; omega⟩
              obtain ⟨ze, hze⟩ : ∃ z, z = zErr (b.drop at_) := ⟨_, rfl⟩
              have Hzx := Lib.hid hzx; have Hzs := Lib.hid hzs; have Hze := Lib.hid hze
              have Hq2 := Lib.hid (show joinRd L (rd (1 :: ts.drop (k + 1)) (b.drop at_)) = rd ts b by rw [← Hd.out]; exact Hq.out)
              clear hzx hzs hze
              go_wp2_with fail
              refine (rzag_is zx ze zs _ (m - at_) _ (b.drop at_) _ hsl Hbd.out (by omega) Hzx.out Hzs.out Hze.out).mono ?_
              rintro e w3 ⟨rfl, hb3⟩
              have hbl3 := hbl.trans (hb3.mono hsz)
              have hsz3 := hbl3.size
              have hown3 := own_below hown hb3
              clear hb3 hown hsl
              by_cases hz0 : ze = 0
              · subst hz0
                have Hn := Lib.hid (show joinRd (L ++ [zx]) (rd (ts.drop (k + 1)) (b.drop (at_ + zs))) = rd ts b by
                  rw [← Hq2.out, join_int Hze.out.symm, Hzx.out, Hzs.out, List.drop_drop])
                go_wp2_with (at_builtin; refine wpList_push _ _ 22 3 i0 _ _ 8 rfl rfl Try.underlying22 hi0 hz0' hz1 hz2 rfl w.heap.size _ _ _ hown3 rfl rfl rfl (by omega) (by omega) hsz3 ?_; intro v' w4 hown4 hg4 hb4 hs4)
                go_roundw
                case rel => exact ⟨k + 1, at_ + zs, L ++ [zx], by omega, by go_num, by go_num, by omega, by simp [HL.out], Hn.out, by simpa [i64s] using hown4, hbl3.trans hb4⟩
                case measure => simp [intOf] <;> omega
              · have Hn := Lib.hid (show readRow ts b = ([], ze) by rw [Hres.out, ← Hq2.out, join_int_bad (by rw [← Hze.out]; exact hz0), Hze.out])
                have hzb : (ze != 0) = true := by simpa using hz0
                clear hz0
                go_wp2_with fail
                go_ret2
                exact ⟨_, 0, ret_row rfl (by rw [Hn.out]), by rw [Hn.out]; exact World.ownsRow_nil _ _ _ _, hbl3⟩
        · have ht2 : t = 2 := ht12.resolve_left ht
          have htb : (t == 1) = false := by simpa using ht
          have Hq2 := Lib.hid (show joinRd L (rd (t :: ts.drop (k + 1)) (b.drop at_)) = rd ts b by rw [← Hd.out]; exact Hq.out)
          have Ht := Lib.hid ht
          clear ht ht2 ht12
          by_cases hend : at_ < m
          · obtain ⟨bd, x, rfl, hcx, hux⟩ := (hy.below hbl).num hend
            have hx1 := Hb.out x (List.mem_of_getElem? hux)
            have Hbx := Lib.hid (drop_at _ _ _ hux)
            have hendI : (at_ : Int) < (m : Int) := by omega
            clear hux
            by_cases hbig : 1 < x
            · have Hn := Lib.hid (show readRow ts b = ([], 11) by rw [Hres.out, ← Hq2.out, Hbx.out, join_bool_big Ht.out hbig])
              go_wp2_with fail
              go_ret2
              exact ⟨_, 0, ret_row rfl (by rw [Hn.out]), by rw [Hn.out]; exact World.ownsRow_nil _ _ _ _, hbl⟩
            · have Hn := Lib.hid (show joinRd (L ++ [x]) (rd (ts.drop (k + 1)) (b.drop (at_ + 1))) = rd ts b by rw [← Hq2.out, Hbx.out, join_bool Ht.out hbig])
              go_wp2_with (at_builtin; refine wpList_push _ _ 22 3 i0 _ _ 8 rfl rfl Try.underlying22 hi0 hz0' hz1 hz2 rfl w.heap.size _ _ _ hown rfl rfl rfl (by omega) (by omega) hsz ?_; intro v' w4 hown4 hg4 hb4 hs4)
              go_roundw
              case rel => exact ⟨k + 1, at_ + 1, L ++ [x], by omega, by go_num, by go_num, by omega, by simp [HL.out], Hn.out, by simpa [i64s] using hown4, hbl.trans hb4⟩
              case measure => simp [intOf] <;> omega
          · have Hn := Lib.hid (show readRow ts b = ([], 10) by
              rw [Hres.out, ← Hq2.out, show b.drop at_ = [] from List.drop_of_length_le (by rw [Hly.out]; omega), join_bool_end Ht.out])
            have hendI : (m : Int) ≤ (at_ : Int) := by omega
            go_wp2_with fail
            go_ret2
            exact ⟨_, 0, ret_row rfl (by rw [Hn.out]), by rw [Hn.out]; exact World.ownsRow_nil _ _ _ _, hbl⟩
      · have hqe := Hq.out
        rw [List.drop_of_length_le (by rw [Hlx.out]; omega)] at hqe
        have Hqe := Lib.hid hqe
        clear hqe
        by_cases hmore : at_ < m
        · have Hn := Lib.hid (show readRow ts b = ([], 12) by
            rw [Hres.out, ← Hqe.out, join_more (by intro h; have := congrArg List.length h; rw [List.length_drop, Hly.out] at this; simp at this; omega)])
          have hmI : (at_ : Int) < (m : Int) := by omega
          go_wp2_with fail
          go_ret2
          exact ⟨_, 0, ret_row rfl (by rw [Hn.out]), by rw [Hn.out]; exact World.ownsRow_nil _ _ _ _, hbl⟩
        · have Hn := Lib.hid (show readRow ts b = (L, 0) by
            rw [Hres.out, ← Hqe.out, show b.drop at_ = [] from List.drop_of_length_le (by rw [Hly.out]; omega), join_done])
          have hmI : (m : Int) ≤ (at_ : Int) := by omega
          have hown2 := hown
          have hrow : L = (readRow ts b).1 := by rw [Hn.out]
          rw [hrow] at hown2
          clear hown hrow
          go_wp2_with fail
          go_ret2
          exact ⟨_, k, ret_row rfl (by rw [Hn.out]), hown2, hbl⟩
  · have hr' : rightOf ts = false := by simpa using hr
    have Hn := Lib.hid (show readRow ts b = ([], 2) by unfold readRow; rw [if_neg hr])
    have Hr := Lib.hid hr'.symm
    clear hr hr' hlx hly
    go_enter Try.func18, Try.ntmps18
    go_wp2_with fail
    refine (rright_is false A n c ts w hx hn Hr.out).mono ?_
    rintro e w1 ⟨rfl, hw⟩
    obtain rfl := hw.symm
    go_wp2_with fail
    go_ret2
    exact ⟨_, 0, ret_row rfl (by rw [Hn.out]), by rw [Hn.out]; exact World.ownsRow_nil _ _ _ _, Below.refl _ _⟩
end Go.Proofs.Ytcfpjbbahpjhdaa
