/- The document's disk: Crash. -/
import Derived.Test.YthdclncgmhgmfaaRDisk5
namespace Go.Proofs.Ythdclncgmhgmfaa
open Go.RowKit Go.Deep

/-- How many bytes of piece i are kept. -/
def cutAt (cs : List Int) (i : Nat) : Nat := min (cs.getD i 0).toNat 128
/-- Of a piece the first c bytes are kept. -/
def DS.crash1 (S : DS) (p : Int × List Int) (c : Nat) : DS :=
  if c = 0 then S else { S with kept := S.kept.set p.1.toNat (p.2.take c ++ (S.kept.getD p.1.toNat []).drop c), inn := S.inn.set p.1.toNat true }
def DS.crashTo (S : DS) (cs : List Int) : Nat → DS
  | 0 => S
  | k + 1 => match S.waits[k]? with
    | some p => (S.crashTo cs k).crash1 p (cutAt cs k)
    | none => S.crashTo cs k
def DS.crashed (S : DS) (cs : List Int) : DS := { S.crashTo cs S.waits.length with waits := [], cut := -1, off := false }

theorem crash1_same (S : DS) (p : Int × List Int) (c : Nat) : (S.crash1 p c).waits = S.waits ∧ (S.crash1 p c).kept.length = S.kept.length ∧ (S.crash1 p c).room = S.room ∧ (S.crash1 p c).ops = S.ops := by
  unfold DS.crash1; split <;> simp
theorem crashTo_same (S : DS) (cs : List Int) (k : Nat) : (S.crashTo cs k).waits = S.waits ∧ (S.crashTo cs k).kept.length = S.kept.length := by
  induction k with
  | zero => exact ⟨rfl, rfl⟩
  | succ k ih =>
    unfold DS.crashTo
    split
    · rw [(crash1_same _ _ _).1, (crash1_same _ _ _).2.1]; exact ih
    · exact ih
theorem crashTo_succ {S : DS} {cs : List Int} {k : Nat} {p : Int × List Int} (h : S.waits[k]? = some p) : S.crashTo cs (k + 1) = (S.crashTo cs k).crash1 p (cutAt cs k) := by
  rw [DS.crashTo, h]
theorem byte128_torn {a b : List Int} {c : Nat} (ha : Byte128 a) (hb : Byte128 b) (hc : c ≤ 128) : Byte128 (a.take c ++ b.drop c) :=
  ⟨by rw [List.length_append, List.length_take, List.length_drop, ha.1, hb.1]; omega, fun x hx => by
    rcases List.mem_append.1 hx with hx | hx
    · exact ha.2 x (List.mem_of_mem_take hx)
    · exact hb.2 x (List.mem_of_mem_drop hx)⟩
theorem DWf.crash1 {S : DS} (h : DWf S) {p : Int × List Int} (hp : p ∈ S.waits) {c : Nat} (hc : c ≤ 128) : DWf (S.crash1 p c) := by
  unfold DS.crash1
  split
  · exact h
  · have hpp := h.wts p hp
    have hl : p.1.toNat < S.kept.length := by omega
    refine ⟨by rw [List.length_set]; exact h.n1, by rw [List.length_set]; exact h.n2, by rw [List.length_set, List.length_set]; exact h.ninn, ?_, fun q hq => by rw [List.length_set]; exact h.wts q hq, h.room0, h.room1, h.cut0, h.cut1, h.ops3, h.opsr⟩
    intro r hr
    rcases List.mem_or_eq_of_mem_set hr with hr | rfl
    · exact h.rows r hr
    · refine byte128_torn hpp.2.2 ?_ hc
      rw [show S.kept.getD p.1.toNat [] = S.kept[p.1.toNat] by simp [List.getD, hl]]
      exact h.rows _ (List.getElem_mem hl)
theorem cutAt_le (cs : List Int) (i : Nat) : cutAt cs i ≤ 128 := Nat.min_le_right _ _

/-- Behind Crash's two appends: the row of a torn sector. -/
theorem torn_row {w2 : World} {base n : Nat} {v2 : Value} {row : List Int} (h : w2.ownsRow base 5 1 v2 n (u8s row)) (hn : n = 128) (hl : row.length = 128) : BRow (fun k => base ≤ k ∧ k < w2.heap.size) w2 v2 row := by
  refine BRow.of_own h (by omega) ?_
  intro k hk
  exact h.lt k hk

theorem crash1_pos (S : DS) (p : Int × List Int) {c q : Nat} (hc : c ≠ 0) (hq : p.1.toNat = q) : S.crash1 p c = { S with kept := S.kept.set q (p.2.take c ++ (S.kept.getD q []).drop c), inn := S.inn.set q true } := by
  unfold DS.crash1; rw [if_neg hc, hq]
/-- Behind the two appends of Crash and the stores: the disk of which one more piece is kept, in part. -/
theorem torn_end {F : Nat → Prop} {w wd w2 : World} {b : Nat} {S : DS} {kb ib ob ck ci : Nat} {spk spi : List Value} {vw v2 : Value} {kv : List Value} {ps : List (Int × Value)} (h : RDAt (More F w wd) wd b S kb ib ob ck ci spk spi vw kv ps)
    (hws : w.heap.size ≤ wd.heap.size) (hF : ∀ k, F k → k < w.heap.size) {q n2 : Nat} {row : List Int} (hq : q < S.kept.length) (hb : Below wd.heap.size wd w2) (hown : w2.ownsRow wd.heap.size 5 1 v2 n2 (u8s row)) (hn2 : n2 = 128) (hrow : row.length = 128) :
    RDAt (More F w w2) (w2.setCell ⟨kb, q, none⟩ v2) b { S with kept := S.kept.set q row } kb ib ob ck ci spk spi vw (kv.set q v2) ps := by
  have h1 := (h.keep (w' := w2) hb.size (fun k hk => hb.block k (h.fin k hk))).mono (G := More F w w2) (fun k _ hf => by
    rcases hf with hf | hf
    · exact Or.inl hf
    · exact Or.inr ⟨hf.1, Nat.lt_of_lt_of_le hf.2 hb.size⟩) (fun k hk => by
    rcases hk with hk | hk
    · exact Nat.lt_of_lt_of_le (hF k hk) (Nat.le_trans hws hb.size)
    · exact hk.2)
  exact h1.upKept q hq v2 row ((torn_row hown hn2 hrow).mono (fun k _ hk => Or.inr ⟨Nat.le_trans hws hk.1, hk.2⟩))

set_option maxRecDepth 100000 in
set_option maxHeartbeats 6400000 in
theorem rcrash_is (F : Nat → Prop) (w : World) (b : Nat) (S : DS) (A : Option Addr) (n c : Nat) (cs : List Int) (h : RD F w b S) (hx : Sl w A n (u8s cs)) (hcs : ∀ x ∈ cs, 0 ≤ x ∧ x < 256) (hn : n ≤ 9223372036854775807) (hxF : ∀ ad, A = some ad → 0 < n → ¬ F ad.block) :
    Calls Try.prog 34 #[.pointer (some ⟨b, 0, none⟩), .slice A n c] w fun e w' => e = .returned (.tuple #[]) ∧ RD (More F w w') w' b (S.crashed cs) ∧ Only F w w' := by
  have hln : cs.length = n := by simpa using hx.1
  have hrd0 : RD (More F w w) w b S := h.mono (fun k _ hf => Or.inl hf) (fun k hk => h.fin (More.same hk))
  obtain ⟨i8, hi8, hz8, hs8, hb8⟩ := info_parts' info_u8
  have hmb : S.waits.length ≤ 9223372036854775807 := by
    obtain ⟨_, _, _, _, _, _, _, _, _, _, ps1, h1⟩ := h
    rw [← h1.psn]
    rcases h1.wait with ⟨_, e⟩ | ⟨_, _, _, _, _, h3, h4, _⟩
    · rw [e]; simp
    · simp only [maxLen] at h4; omega
  obtain ⟨m, hm⟩ : ∃ m, m = S.waits.length := ⟨_, rfl⟩
  have Hm := Lib.hid hm
  have Hln := Lib.hid hln
  have Hcs := Lib.hid hcs
  rw [← hm] at hmb
  have Hfin := Lib.hid (fun k (hk : F k) => (h.fin hk : k < w.heap.size))
  clear hm hln h hcs
  go_enter Try.func34, Try.ntmps34
  go_wp2_with fail
  go_loopw [4] (fun i wr => ∃ j : Nat, j ≤ m ∧ i = .int .i64 j ∧ RD (More F w wr) wr b (S.crashTo cs j) ∧ Only F w wr) (fun i _ => m - (intOf i).toNat)
  case atStart => exact ⟨0, by omega, rfl, hrd0, Only.refl F w⟩
  case round =>
    clear hrd0
    obtain ⟨j, hj, rfl, hr, hO⟩ := hrel
    have hxr := hx.only hO hxF
    have hsame := crashTo_same S cs j
    obtain ⟨hwf, kb, ib, ob, ck, ci, spk, spi, vw, kv, ps, h⟩ := hr
    obtain ⟨Aw, cw, rfl, hw⟩ := h.wait.form
    have hc0 := h.head.cell (i := 0) rfl
    have hc1 := h.head.cell (i := 1) rfl
    have hc2 := h.head.cell (i := 2) rfl
    have hpn : ps.length = m := by rw [h.psn, Hm.out, hsame.1]
    rw [hpn] at hc2
    by_cases hlt : j < m
    · obtain ⟨p, hp⟩ : ∃ p, S.waits[j]? = some p := ⟨_, List.getElem?_eq_getElem (by rw [← Hm.out]; exact hlt)⟩
      have hp' : (S.crashTo cs j).waits[j]? = some p := by rw [hsame.1]; exact hp
      obtain ⟨v, hv, hbv⟩ := h.wrow j p hp'
      obtain ⟨g, rfl, hcp, hcv⟩ := hw j _ hv
      have hwt := hwf.wts p (List.mem_of_getElem? hp')
      obtain ⟨gv, cv, spv, rfl, hgF, hlcv, hbk, hspv⟩ := hbv
      rw [hwt.2.2.1] at hcv hlcv
      obtain ⟨q, hq⟩ : ∃ q : Nat, (q : Int) = p.1 := ⟨p.1.toNat, by omega⟩
      have hqn : p.1.toNat = q := by omega
      have hql : q < (S.crashTo cs j).kept.length := by have := hwt.2.1; omega
      replace hcp : wr.cell? ⟨g, j * 2, none⟩ = some (.int .i64 q) := by rw [hq]; exact hcp
      replace hcv : wr.cell? ⟨g, j * 2 + 1, none⟩ = some (.slice (some ⟨gv, 0, none⟩) 128 cv) := hcv
      have hnext := crashTo_succ (cs := cs) hp
      obtain ⟨wd, hwd⟩ : ∃ wd, wd = (wr.alloc (.cells #[.int .i64 (q : Int), .slice (some ⟨gv, 0, none⟩) 128 cv] 91)) := ⟨_, rfl⟩
      have hsd : wd.heap.size = wr.heap.size + 1 := by rw [hwd, nblk_alloc]
      have hbelow : ∀ k, k < wr.heap.size → wd.heap[k]? = wr.heap[k]? := fun k hk => by rw [hwd]; exact blk_alloc_lt _ _ _ hk
      have hd := (h.keep (w' := wd) (by omega) (fun k hk => hbelow k (h.fin k hk))).mono (G := More F w wd) (fun k _ hf => by
        rcases hf with hf | hf
        · exact Or.inl hf
        · right; omega) (fun k hk => by
        rcases hk with hk | hk
        · have := Hfin.out k hk; have := hO.size; omega
        · exact hk.2)
      have hOd : Only F w wd := by rw [hwd]; exact hO.alloc _
      have hPd : Blk wd wr.heap.size 91 [.int .i64 (q : Int), .slice (some ⟨gv, 0, none⟩) 128 cv] := by rw [hwd]; exact Blk.new _ _ _
      have hPn : ¬ F wr.heap.size := fun hf => by have := Hfin.out _ hf; have := hO.size; omega
      have Hd := Lib.hid hd
      have HOd := Lib.hid hOd
      have Hwd := Lib.hid hwd
      have Hwf := Lib.hid hwf
      have Hrd := Lib.hid (show RD (More F w wd) wd b (S.crashTo cs j) from RD.of hwf hd)
      clear hd hOd hwd hwf h
      by_cases hjl : j < n
      · obtain ⟨ad, u, rfl, hcu, hu⟩ := hxr.num hjl
        have hur := Hcs.out u (List.mem_of_getElem? hu)
        obtain ⟨u, rfl⟩ := Int.eq_ofNat_of_zero_le hur.1
        have hcut : cutAt cs j = min u 128 := by unfold cutAt; simp [List.getD, hu]
        have hjI : (j : Int) < (n : Int) := by omega
        have hcud : (wr.alloc (.cells #[.int .i64 (q : Int), .slice (some ⟨gv, 0, none⟩) 128 cv] 91)).cell? (ad.add j) = some (.int .u8 (u : Int)) := by rw [World.cell?_alloc_lt _ _ _ (World.block_lt_of_cell? wr _ hcu)]; exact hcu
        by_cases hu0 : u = 0
        · subst hu0
          have Hnone := Lib.hid (show S.crashTo cs (j + 1) = S.crashTo cs j by rw [hnext, hcut]; rfl)
          clear hnext hcut hu hq hqn hv hwt hp hp' hpn hw
          go_wp2
          rw [← Hwd.out]
          go_roundw
          case rel => exact ⟨j + 1, by omega, by go_num, by rw [Hnone.out]; exact Hrd.out, HOd.out⟩
          case measure => simp [intOf]; omega
        · by_cases hubig : 128 < u
          · have hcut2 : cutAt cs j = 128 := by rw [hcut]; omega
            have Hcut := Lib.hid hcut2
            have Hnext := Lib.hid hnext
            have Hp := Lib.hid hp'
            have Hq := Lib.hid hq
            have Hqn := Lib.hid hqn
            have Hwt := Lib.hid hwt
            clear hnext hq hqn hv hwt hp hp' hpn hw hcut hu hcut2
            go_wp2
            rw [← Hwd.out]
            obtain ⟨vo, hvo, hbo⟩ := Hd.out.krow q ((S.crashTo cs j).kept.getD q []) (by simp [List.getD, hql])
            have hor : Byte128 ((S.crashTo cs j).kept.getD q []) := Hwf.out.rows _ (by simp [List.getD, hql])
            obtain ⟨row, hrow⟩ : ∃ r, r = (S.crashTo cs j).kept.getD q [] := ⟨_, rfl⟩
            rw [← hrow] at hbo hor
            obtain ⟨go, co, spo, rfl, hgo, hco, hbko, hspo⟩ := hbo
            rw [hor.1] at hco hspo
            obtain ⟨K, hK⟩ : ∃ K, K = (S.crashTo cs j).kept.length := ⟨_, rfl⟩
            have hqK : (q : Int) < (K : Int) := by omega
            have hd0 : wd.cell? ⟨b, 0, none⟩ = some (.slice (some ⟨kb, 0, none⟩) K ck) := by rw [hK]; exact Hd.out.head.cell (i := 0) rfl
            have hd1 : wd.cell? ⟨b, 1, none⟩ = some (.slice (some ⟨ib, 0, none⟩) K ci) := by rw [hK]; exact Hd.out.head.cell (i := 1) rfl
            have hP0 : wd.cell? ⟨wr.heap.size, 0, none⟩ = some (.int .i64 (q : Int)) := hPd.cell rfl
            have hP1 : wd.cell? ⟨wr.heap.size, 1, none⟩ = some (.slice (some ⟨gv, 0, none⟩) 128 cv) := hPd.cell rfl
            have hkq : wd.cell? ⟨kb, q, none⟩ = some (.slice (some ⟨go, 0, none⟩) 128 co) := by
              have hko := Hd.out.kept.cell (i := q) (v := .slice (some ⟨go, 0, none⟩) row.length co) (by rw [List.getElem?_append_left (by rw [Hd.out.kvn]; exact hql)]; exact hvo)
              rw [hor.1] at hko; exact hko
            have hfq := Hd.out.kept.frozen q
            have Hrow := Lib.hid hrow
            have HK := Lib.hid hK
            have Hor := Lib.hid hor
            clear hrow hK hor hvo
            obtain ⟨adx, hadx⟩ : ∃ adx : Addr, adx = (if co = 128 then ⟨go, 0, none⟩ else ⟨go, 128, none⟩) := ⟨_, rfl⟩
            have Hadx := Lib.hid hadx
            clear hadx
            have hz0 : (0 : Int) ≤ (128 : Int) := by omega
            have hz1 : (128 : Int) ≤ (cv : Int) := by omega
            have hz2 : (128 : Int) ≤ 128 := by omega
            have hz3 : (128 : Int) ≤ (co : Int) := by omega
            have hbl : b < wd.heap.size := Hd.out.head.lt
            have hkl : kb < wd.heap.size := Hd.out.kept.lt
            have hpl : wr.heap.size < wd.heap.size := hPd.lt
            have hgol : go < wd.heap.size := hbko.lt
            have hgvl : gv < wr.heap.size := hbk.lt
            have HownA := Lib.hid ((World.ownsRow_made (base := wd.heap.size) (e := 5) (size := 1) wd #[] 0 (Nat.le_refl _) (by decide) rfl).drew)
            have hbkA : Blk ((wd.alloc (.cells #[] 5)).drew) gv 5 (u8s p.2 ++ spv) := (((hbk.kept (hbelow gv hgvl)).alloc (.cells #[] 5)).drew)
            have HnewsA := Lib.hid (BRow.first (k := 128) hbkA)
            have HlenA := Lib.hid (show (u8s (p.2.take 128)).length = 128 * 1 by simp [Hwt.out.2.2.1]; try omega)
            have HlenB := Lib.hid (show (u8s (row.drop 128)).length = (128 - 128) * 1 by simp [Hor.out.1])
            have hA0 : ((wd.alloc (.cells #[] 5)).drew).cell? ⟨b, 0, none⟩ = some (.slice (some ⟨kb, 0, none⟩) K ck) := (World.cell?_alloc_lt _ _ _ hbl).trans hd0
            have hAP0 : ((wd.alloc (.cells #[] 5)).drew).cell? ⟨wr.heap.size, 0, none⟩ = some (.int .i64 (q : Int)) := (World.cell?_alloc_lt _ _ _ hpl).trans hP0
            have hAP1 : ((wd.alloc (.cells #[] 5)).drew).cell? ⟨wr.heap.size, 1, none⟩ = some (.slice (some ⟨gv, 0, none⟩) 128 cv) := (World.cell?_alloc_lt _ _ _ hpl).trans hP1
            have hkqA : ((wd.alloc (.cells #[] 5)).drew).cell? ⟨kb, q, none⟩ = some (.slice (some ⟨go, 0, none⟩) 128 co) := (World.cell?_alloc_lt _ _ _ hkl).trans hkq
            go_region_held3 (fun w' => w'.cell? ⟨b, 0, none⟩ = some (.slice (some ⟨kb, 0, none⟩) K ck) ∧ w'.cell? ⟨wr.heap.size, 0, none⟩ = some (.int .i64 (q : Int)) ∧ w'.cell? ⟨wr.heap.size, 1, none⟩ = some (.slice (some ⟨gv, 0, none⟩) 128 cv))
              (first | exact ⟨hd0, hP0, hP1⟩ | exact ⟨hA0, hAP0, hAP1⟩ | exact ⟨hB0, hBP0, hBP1⟩ | exact ⟨hC0, hCP0, hCP1⟩ | exact ⟨hD0, hDP0, hDP1⟩)
              (first
                | (refine step_append_own rfl (.tmp 42) (.tmp 46) 22 rfl wd.heap.size 5 i8 (.int .u8 0) 1 1 Try.underlying22 hi8 hz8 hs8 hb8 rfl (by decide) (.slice (some ⟨wd.heap.size, 0, none⟩) 0 0) 0 [] (by simp [Act.eval, Act.put]) HownA.out ⟨gv, 0, none⟩ 128 cv (u8s (p.2.take 128)) (by simp [Act.eval, Act.put]) HlenA.out HnewsA.out (one_u8s _) (by simp only [maxLen]; omega) (by omega) (by show wd.heap.size ≤ (wd.alloc _).heap.size; rw [nblk_alloc]; exact Nat.le_succ _) ?_
                   intro v1 w1 hown1 hg1
                   have hB := put_below hg1
                   have hB0 := (hB.cell (p := ⟨b, 0, none⟩) hbl).trans hd0
                   have hBP0 := (hB.cell (p := ⟨wr.heap.size, 0, none⟩) hpl).trans hP0
                   have hBP1 := (hB.cell (p := ⟨wr.heap.size, 1, none⟩) hpl).trans hP1
                   have hkqB := (hB.cell (p := ⟨kb, q, none⟩) hkl).trans hkq
                   have HB := Lib.hid hB
                   have HnewsB := Lib.hid (show ∀ (j : Nat) (x : Value), (u8s (row.drop 128))[j]? = some x → w1.cell? (adx.add j) = some x by
                     intro j x hj
                     have hjl := (List.getElem?_eq_some_iff.1 hj).1
                     rw [HlenB.out] at hjl
                     rw [Hadx.out, if_neg (by omega)]
                     exact BRow.part (k := 128) (hbko.kept (hB.block go hgol)) j x hj)
                   have Hown1 := Lib.hid (show w1.ownsRow wd.heap.size 5 1 v1 128 (u8s (p.2.take 128)) by simpa using hown1)
                   clear hown1 hg1 hB)
                | (refine step_append_own rfl (.tmp 47) (.tmp 57) 22 rfl wd.heap.size 5 i8 (.int .u8 0) 1 1 Try.underlying22 hi8 hz8 hs8 hb8 rfl (by decide) v1 128 (u8s (p.2.take 128)) (by simp [Act.eval, Act.put]) Hown1.out adx (128 - 128) (co - 128) (u8s (row.drop 128)) (by simp [Act.eval, Act.put]; rw [Hadx.out]; split <;> (first | rfl | (split <;> (first | rfl | (exfalso; omega))))) HlenB.out HnewsB.out (one_u8s _) (by simp only [maxLen]; omega) (by omega) HB.out.size ?_
                   intro v2 w2 hown2 hg2
                   have hB2 := HB.out.grown hg2 HB.out.size (fun k hk => (Hown1.out.lt k hk).1)
                   obtain ⟨A2, c2, rfl, _⟩ := own_form hown2
                   have hC0 := (hB2.cell (p := ⟨b, 0, none⟩) hbl).trans hd0
                   have hCP0 := (hB2.cell (p := ⟨wr.heap.size, 0, none⟩) hpl).trans hP0
                   have hCP1 := (hB2.cell (p := ⟨wr.heap.size, 1, none⟩) hpl).trans hP1
                   have hkqC := (hB2.cell (p := ⟨kb, q, none⟩) hkl).trans hkq
                   have hkfC : w2.frozen? ⟨kb, q, none⟩ = false := (hB2.frozen (p := ⟨kb, q, none⟩) hkl).trans hfq
                   have hnbk : b ≠ kb := Hd.out.head.ne Hd.out.kept (by decide)
                   have hnpk : wr.heap.size ≠ kb := hPd.ne Hd.out.kept (by decide)
                   have hD0 := (World.cell?_setCell_other w2 ⟨kb, q, none⟩ ⟨b, 0, none⟩ (.slice A2 (128 + (128 - 128)) c2) (fun e => by cases e; exact hnbk rfl)).trans hC0
                   have hDP0 := (World.cell?_setCell_other w2 ⟨kb, q, none⟩ ⟨wr.heap.size, 0, none⟩ (.slice A2 (128 + (128 - 128)) c2) (fun e => hnpk (congrArg Addr.block e).symm)).trans hCP0
                   have hDP1 := (World.cell?_setCell_other w2 ⟨kb, q, none⟩ ⟨wr.heap.size, 1, none⟩ (.slice A2 (128 + (128 - 128)) c2) (fun e => hnpk (congrArg Addr.block e).symm)).trans hCP1
                   have Hend := Lib.hid (torn_end Hd.out HOd.out.size Hfin.out hql hB2 (row := p.2.take 128 ++ row.drop 128) (by simpa [u8s] using hown2) (by omega) (byte128_torn Hwt.out.2.2 Hor.out (by omega)).1)
                   have HB2 := Lib.hid hB2
                   clear hown2 hg2 hB2))
            all_goals
              generalize (if co = 128 then some (⟨go, 0, none⟩ : Addr) else some ⟨go, 128, none⟩) = az
              obtain ⟨w3, hw3⟩ : ∃ w3, w3 = w2.setCell ⟨kb, q, none⟩ (.slice A2 (128 + (128 - 128)) c2) := ⟨_, rfl⟩
              have HE := Hend.out
              rw [← hw3] at HE ⊢
              have hO3 : Only F w w3 := by
                rw [hw3]
                refine (HOd.out.trans (Only.of_below (F := F) HB2.out) (fun _ _ h => h)).set ?_ _
                rcases Hd.out.fk with hk | hk
                · exact Or.inr hk
                · exact Or.inl hk.1
              have hib : w3.cell? ⟨b, 1, none⟩ = some (.slice (some ⟨ib, 0, none⟩) K ci) := by
                have h5 := HE.head.cell (i := 1) rfl
                rw [h5]
                show some (Value.slice _ ((S.crashTo cs j).kept.set q _).length _) = _
                rw [List.length_set, HK.out]
              have hN3 : w3.cell? ⟨wr.heap.size, 0, none⟩ = some (.int .i64 (q : Int)) := by rw [hw3]; exact hDP0
              obtain ⟨uo, huo⟩ : ∃ u, (S.crashTo cs j).inn[q]? = some u := ⟨_, List.getElem?_eq_getElem (by rw [Hwf.out.ninn]; exact hql)⟩
              have hco' : w3.cell? ⟨ib, q, none⟩ = some (.bool uo) := HE.inn.cell (by rw [List.getElem?_append_left (by rw [List.length_map]; show q < (S.crashTo cs j).inn.length; rw [Hwf.out.ninn]; exact hql), List.getElem?_map]; show (S.crashTo cs j).inn[q]?.map _ = _; rw [huo]; rfl)
              have hfo' := HE.inn.frozen q
              have h2 := HE.upInn (by show (S.crashTo cs j).inn.length = ((S.crashTo cs j).kept.set q _).length; rw [List.length_set, Hwf.out.ninn]) q (by show q < ((S.crashTo cs j).kept.set q _).length; rw [List.length_set]; exact hql) true
              have hO4 : Only F w (w3.setCell ⟨ib, q, none⟩ (.bool true)) := by
                refine hO3.set ?_ _
                rcases Hd.out.fi with hk | hk
                · exact Or.inr hk
                · exact Or.inl hk.1
              have hfin : RD (More F w (w3.setCell ⟨ib, q, none⟩ (.bool true))) (w3.setCell ⟨ib, q, none⟩ (.bool true)) b (S.crashTo cs (j + 1)) := by
                have h0 := Hwf.out.crash1 (p := p) (c := 128) (List.mem_of_getElem? Hp.out) (by omega)
                have e := crash1_pos (S.crashTo cs j) p (c := 128) (by omega) Hqn.out
                rw [e] at h0
                rw [Hnext.out, Hcut.out, e]
                rw [← Hrow.out] at h0 ⊢
                exact (RD.of h0 h2).mono (fun k _ hf => by
                  rcases hf with hf | hf
                  · exact Or.inl hf
                  · exact Or.inr ⟨hf.1, by rw [nblk_setCell, hw3, nblk_setCell]; exact hf.2⟩) (fun k hk => by
                  rcases hk with hk | hk
                  · have := Hfin.out k hk; have := hO4.size; omega
                  · exact hk.2)
              have Hfin2 := Lib.hid hfin
              have HO4 := Lib.hid hO4
              obtain ⟨w5, hw5⟩ : ∃ w5, w5 = w3.setCell ⟨ib, q, none⟩ (.bool true) := ⟨_, rfl⟩
              rw [← hw5] at Hfin2 HO4
              have Hw5 := Lib.hid hw5
              clear hfin hO4 hO3 h2 hw5 hw3 huo HE hd0 hd1 hP0 hP1 hkq hfq hA0 hAP0 hAP1 hkqA hB0 hBP0 hBP1 hkqB hC0 hCP0 hCP1 hkqC hkfC hD0 hDP0 hDP1
              go_wp2
              go_region
              all_goals
                rw [← Hw5.out]
                have hfin2 := Hfin2.out.keep (w' := w5.drew) (Nat.le_refl _) (fun _ _ => rfl)
                have hO5 := HO4.out.drew
                have hfin3 : RD (More F w w5.drew) w5.drew b (S.crashTo cs (j + 1)) := hfin2
                clear Hw5 hfin2
                generalize w5.drew = w6 at *
                go_wp2
                go_roundw
                case rel => exact ⟨j + 1, by omega, by go_num, hfin3, hO5⟩
                case measure => simp [intOf]; omega
          · have hcut2 : cutAt cs j = u := by rw [hcut]; omega
            have Hcut := Lib.hid hcut2
            have Hnext := Lib.hid hnext
            have Hp := Lib.hid hp'
            have Hq := Lib.hid hq
            have Hqn := Lib.hid hqn
            have Hwt := Lib.hid hwt
            clear hnext hq hqn hv hwt hp hp' hpn hw hcut hu hcut2
            go_wp2
            rw [← Hwd.out]
            obtain ⟨vo, hvo, hbo⟩ := Hd.out.krow q ((S.crashTo cs j).kept.getD q []) (by simp [List.getD, hql])
            have hor : Byte128 ((S.crashTo cs j).kept.getD q []) := Hwf.out.rows _ (by simp [List.getD, hql])
            obtain ⟨row, hrow⟩ : ∃ r, r = (S.crashTo cs j).kept.getD q [] := ⟨_, rfl⟩
            rw [← hrow] at hbo hor
            obtain ⟨go, co, spo, rfl, hgo, hco, hbko, hspo⟩ := hbo
            rw [hor.1] at hco hspo
            obtain ⟨K, hK⟩ : ∃ K, K = (S.crashTo cs j).kept.length := ⟨_, rfl⟩
            have hqK : (q : Int) < (K : Int) := by omega
            have hd0 : wd.cell? ⟨b, 0, none⟩ = some (.slice (some ⟨kb, 0, none⟩) K ck) := by rw [hK]; exact Hd.out.head.cell (i := 0) rfl
            have hd1 : wd.cell? ⟨b, 1, none⟩ = some (.slice (some ⟨ib, 0, none⟩) K ci) := by rw [hK]; exact Hd.out.head.cell (i := 1) rfl
            have hP0 : wd.cell? ⟨wr.heap.size, 0, none⟩ = some (.int .i64 (q : Int)) := hPd.cell rfl
            have hP1 : wd.cell? ⟨wr.heap.size, 1, none⟩ = some (.slice (some ⟨gv, 0, none⟩) 128 cv) := hPd.cell rfl
            have hkq : wd.cell? ⟨kb, q, none⟩ = some (.slice (some ⟨go, 0, none⟩) 128 co) := by
              have hko := Hd.out.kept.cell (i := q) (v := .slice (some ⟨go, 0, none⟩) row.length co) (by rw [List.getElem?_append_left (by rw [Hd.out.kvn]; exact hql)]; exact hvo)
              rw [hor.1] at hko; exact hko
            have hfq := Hd.out.kept.frozen q
            have Hrow := Lib.hid hrow
            have HK := Lib.hid hK
            have Hor := Lib.hid hor
            clear hrow hK hor hvo
            obtain ⟨adx, hadx⟩ : ∃ adx : Addr, adx = (if co = u then ⟨go, 0, none⟩ else ⟨go, u, none⟩) := ⟨_, rfl⟩
            have Hadx := Lib.hid hadx
            clear hadx
            have hz0 : (0 : Int) ≤ (u : Int) := by omega
            have hz1 : (u : Int) ≤ (cv : Int) := by omega
            have hz2 : (u : Int) ≤ 128 := by omega
            have hz3 : (u : Int) ≤ (co : Int) := by omega
            have hbl : b < wd.heap.size := Hd.out.head.lt
            have hkl : kb < wd.heap.size := Hd.out.kept.lt
            have hpl : wr.heap.size < wd.heap.size := hPd.lt
            have hgol : go < wd.heap.size := hbko.lt
            have hgvl : gv < wr.heap.size := hbk.lt
            have HownA := Lib.hid ((World.ownsRow_made (base := wd.heap.size) (e := 5) (size := 1) wd #[] 0 (Nat.le_refl _) (by decide) rfl).drew)
            have hbkA : Blk ((wd.alloc (.cells #[] 5)).drew) gv 5 (u8s p.2 ++ spv) := (((hbk.kept (hbelow gv hgvl)).alloc (.cells #[] 5)).drew)
            have HnewsA := Lib.hid (BRow.first (k := u) hbkA)
            have HlenA := Lib.hid (show (u8s (p.2.take u)).length = u * 1 by simp [Hwt.out.2.2.1]; try omega)
            have HlenB := Lib.hid (show (u8s (row.drop u)).length = (128 - u) * 1 by simp [Hor.out.1])
            have hA0 : ((wd.alloc (.cells #[] 5)).drew).cell? ⟨b, 0, none⟩ = some (.slice (some ⟨kb, 0, none⟩) K ck) := (World.cell?_alloc_lt _ _ _ hbl).trans hd0
            have hAP0 : ((wd.alloc (.cells #[] 5)).drew).cell? ⟨wr.heap.size, 0, none⟩ = some (.int .i64 (q : Int)) := (World.cell?_alloc_lt _ _ _ hpl).trans hP0
            have hAP1 : ((wd.alloc (.cells #[] 5)).drew).cell? ⟨wr.heap.size, 1, none⟩ = some (.slice (some ⟨gv, 0, none⟩) 128 cv) := (World.cell?_alloc_lt _ _ _ hpl).trans hP1
            have hkqA : ((wd.alloc (.cells #[] 5)).drew).cell? ⟨kb, q, none⟩ = some (.slice (some ⟨go, 0, none⟩) 128 co) := (World.cell?_alloc_lt _ _ _ hkl).trans hkq
            go_region_held3 (fun w' => w'.cell? ⟨b, 0, none⟩ = some (.slice (some ⟨kb, 0, none⟩) K ck) ∧ w'.cell? ⟨wr.heap.size, 0, none⟩ = some (.int .i64 (q : Int)) ∧ w'.cell? ⟨wr.heap.size, 1, none⟩ = some (.slice (some ⟨gv, 0, none⟩) 128 cv))
              (first | exact ⟨hd0, hP0, hP1⟩ | exact ⟨hA0, hAP0, hAP1⟩ | exact ⟨hB0, hBP0, hBP1⟩ | exact ⟨hC0, hCP0, hCP1⟩ | exact ⟨hD0, hDP0, hDP1⟩)
              (first
                | (refine step_append_own rfl (.tmp 42) (.tmp 46) 22 rfl wd.heap.size 5 i8 (.int .u8 0) 1 1 Try.underlying22 hi8 hz8 hs8 hb8 rfl (by decide) (.slice (some ⟨wd.heap.size, 0, none⟩) 0 0) 0 [] (by simp [Act.eval, Act.put]) HownA.out ⟨gv, 0, none⟩ u cv (u8s (p.2.take u)) (by simp [Act.eval, Act.put]) HlenA.out HnewsA.out (one_u8s _) (by simp only [maxLen]; omega) (by omega) (by show wd.heap.size ≤ (wd.alloc _).heap.size; rw [nblk_alloc]; exact Nat.le_succ _) ?_
                   intro v1 w1 hown1 hg1
                   have hB := put_below hg1
                   have hB0 := (hB.cell (p := ⟨b, 0, none⟩) hbl).trans hd0
                   have hBP0 := (hB.cell (p := ⟨wr.heap.size, 0, none⟩) hpl).trans hP0
                   have hBP1 := (hB.cell (p := ⟨wr.heap.size, 1, none⟩) hpl).trans hP1
                   have hkqB := (hB.cell (p := ⟨kb, q, none⟩) hkl).trans hkq
                   have HB := Lib.hid hB
                   have HnewsB := Lib.hid (show ∀ (j : Nat) (x : Value), (u8s (row.drop u))[j]? = some x → w1.cell? (adx.add j) = some x by
                     intro j x hj
                     have hjl := (List.getElem?_eq_some_iff.1 hj).1
                     rw [HlenB.out] at hjl
                     rw [Hadx.out, if_neg (by omega)]
                     exact BRow.part (k := u) (hbko.kept (hB.block go hgol)) j x hj)
                   have Hown1 := Lib.hid (show w1.ownsRow wd.heap.size 5 1 v1 u (u8s (p.2.take u)) by simpa using hown1)
                   clear hown1 hg1 hB)
                | (refine step_append_own rfl (.tmp 47) (.tmp 57) 22 rfl wd.heap.size 5 i8 (.int .u8 0) 1 1 Try.underlying22 hi8 hz8 hs8 hb8 rfl (by decide) v1 u (u8s (p.2.take u)) (by simp [Act.eval, Act.put]) Hown1.out adx (128 - u) (co - u) (u8s (row.drop u)) (by simp [Act.eval, Act.put]; rw [Hadx.out]; split <;> (first | rfl | (split <;> (first | rfl | (exfalso; omega))))) HlenB.out HnewsB.out (one_u8s _) (by simp only [maxLen]; omega) (by omega) HB.out.size ?_
                   intro v2 w2 hown2 hg2
                   have hB2 := HB.out.grown hg2 HB.out.size (fun k hk => (Hown1.out.lt k hk).1)
                   obtain ⟨A2, c2, rfl, _⟩ := own_form hown2
                   have hC0 := (hB2.cell (p := ⟨b, 0, none⟩) hbl).trans hd0
                   have hCP0 := (hB2.cell (p := ⟨wr.heap.size, 0, none⟩) hpl).trans hP0
                   have hCP1 := (hB2.cell (p := ⟨wr.heap.size, 1, none⟩) hpl).trans hP1
                   have hkqC := (hB2.cell (p := ⟨kb, q, none⟩) hkl).trans hkq
                   have hkfC : w2.frozen? ⟨kb, q, none⟩ = false := (hB2.frozen (p := ⟨kb, q, none⟩) hkl).trans hfq
                   have hnbk : b ≠ kb := Hd.out.head.ne Hd.out.kept (by decide)
                   have hnpk : wr.heap.size ≠ kb := hPd.ne Hd.out.kept (by decide)
                   have hD0 := (World.cell?_setCell_other w2 ⟨kb, q, none⟩ ⟨b, 0, none⟩ (.slice A2 (u + (128 - u)) c2) (fun e => by cases e; exact hnbk rfl)).trans hC0
                   have hDP0 := (World.cell?_setCell_other w2 ⟨kb, q, none⟩ ⟨wr.heap.size, 0, none⟩ (.slice A2 (u + (128 - u)) c2) (fun e => hnpk (congrArg Addr.block e).symm)).trans hCP0
                   have hDP1 := (World.cell?_setCell_other w2 ⟨kb, q, none⟩ ⟨wr.heap.size, 1, none⟩ (.slice A2 (u + (128 - u)) c2) (fun e => hnpk (congrArg Addr.block e).symm)).trans hCP1
                   have Hend := Lib.hid (torn_end Hd.out HOd.out.size Hfin.out hql hB2 (row := p.2.take u ++ row.drop u) (by simpa [u8s] using hown2) (by omega) (byte128_torn Hwt.out.2.2 Hor.out (by omega)).1)
                   have HB2 := Lib.hid hB2
                   clear hown2 hg2 hB2))
            all_goals
              generalize (if co = u then some (⟨go, 0, none⟩ : Addr) else some ⟨go, u, none⟩) = az
              obtain ⟨w3, hw3⟩ : ∃ w3, w3 = w2.setCell ⟨kb, q, none⟩ (.slice A2 (u + (128 - u)) c2) := ⟨_, rfl⟩
              have HE := Hend.out
              rw [← hw3] at HE ⊢
              have hO3 : Only F w w3 := by
                rw [hw3]
                refine (HOd.out.trans (Only.of_below (F := F) HB2.out) (fun _ _ h => h)).set ?_ _
                rcases Hd.out.fk with hk | hk
                · exact Or.inr hk
                · exact Or.inl hk.1
              have hib : w3.cell? ⟨b, 1, none⟩ = some (.slice (some ⟨ib, 0, none⟩) K ci) := by
                have h5 := HE.head.cell (i := 1) rfl
                rw [h5]
                show some (Value.slice _ ((S.crashTo cs j).kept.set q _).length _) = _
                rw [List.length_set, HK.out]
              have hN3 : w3.cell? ⟨wr.heap.size, 0, none⟩ = some (.int .i64 (q : Int)) := by rw [hw3]; exact hDP0
              obtain ⟨uo, huo⟩ : ∃ u, (S.crashTo cs j).inn[q]? = some u := ⟨_, List.getElem?_eq_getElem (by rw [Hwf.out.ninn]; exact hql)⟩
              have hco' : w3.cell? ⟨ib, q, none⟩ = some (.bool uo) := HE.inn.cell (by rw [List.getElem?_append_left (by rw [List.length_map]; show q < (S.crashTo cs j).inn.length; rw [Hwf.out.ninn]; exact hql), List.getElem?_map]; show (S.crashTo cs j).inn[q]?.map _ = _; rw [huo]; rfl)
              have hfo' := HE.inn.frozen q
              have h2 := HE.upInn (by show (S.crashTo cs j).inn.length = ((S.crashTo cs j).kept.set q _).length; rw [List.length_set, Hwf.out.ninn]) q (by show q < ((S.crashTo cs j).kept.set q _).length; rw [List.length_set]; exact hql) true
              have hO4 : Only F w (w3.setCell ⟨ib, q, none⟩ (.bool true)) := by
                refine hO3.set ?_ _
                rcases Hd.out.fi with hk | hk
                · exact Or.inr hk
                · exact Or.inl hk.1
              have hfin : RD (More F w (w3.setCell ⟨ib, q, none⟩ (.bool true))) (w3.setCell ⟨ib, q, none⟩ (.bool true)) b (S.crashTo cs (j + 1)) := by
                have h0 := Hwf.out.crash1 (p := p) (c := u) (List.mem_of_getElem? Hp.out) (by omega)
                have e := crash1_pos (S.crashTo cs j) p (c := u) (by omega) Hqn.out
                rw [e] at h0
                rw [Hnext.out, Hcut.out, e]
                rw [← Hrow.out] at h0 ⊢
                exact (RD.of h0 h2).mono (fun k _ hf => by
                  rcases hf with hf | hf
                  · exact Or.inl hf
                  · exact Or.inr ⟨hf.1, by rw [nblk_setCell, hw3, nblk_setCell]; exact hf.2⟩) (fun k hk => by
                  rcases hk with hk | hk
                  · have := Hfin.out k hk; have := hO4.size; omega
                  · exact hk.2)
              have Hfin2 := Lib.hid hfin
              have HO4 := Lib.hid hO4
              obtain ⟨w5, hw5⟩ : ∃ w5, w5 = w3.setCell ⟨ib, q, none⟩ (.bool true) := ⟨_, rfl⟩
              rw [← hw5] at Hfin2 HO4
              have Hw5 := Lib.hid hw5
              clear hfin hO4 hO3 h2 hw5 hw3 huo HE hd0 hd1 hP0 hP1 hkq hfq hA0 hAP0 hAP1 hkqA hB0 hBP0 hBP1 hkqB hC0 hCP0 hCP1 hkqC hkfC hD0 hDP0 hDP1
              go_wp2
              go_region
              all_goals
                rw [← Hw5.out]
                have hfin2 := Hfin2.out.keep (w' := w5.drew) (Nat.le_refl _) (fun _ _ => rfl)
                have hO5 := HO4.out.drew
                have hfin3 : RD (More F w w5.drew) w5.drew b (S.crashTo cs (j + 1)) := hfin2
                clear Hw5 hfin2
                generalize w5.drew = w6 at *
                go_wp2
                go_roundw
                case rel => exact ⟨j + 1, by omega, by go_num, hfin3, hO5⟩
                case measure => simp [intOf]; omega
      · have Hnone := Lib.hid (show S.crashTo cs (j + 1) = S.crashTo cs j by
          rw [hnext, show cutAt cs j = 0 by
            unfold cutAt
            rw [show cs.getD j 0 = 0 by simp [List.getD, List.getElem?_eq_none (show cs.length ≤ j by rw [Hln.out]; omega)]]
            rfl]
          rfl)
        have hjI : ¬ (j : Int) < (n : Int) := by omega
        clear hnext  hq hqn hv hwt hp hp' hpn hw
        go_wp2
        rw [← Hwd.out]
        go_roundw
        case rel => exact ⟨j + 1, by omega, by go_num, by rw [Hnone.out]; exact Hrd.out, HOd.out⟩
        case measure => simp [intOf]; omega
    · obtain rfl : j = m := by omega
      have hf2 := h.head.frozen 2
      have hf4 := h.head.frozen 4
      have hf5 := h.head.frozen 5
      have hc4 := h.head.cell (i := 4) rfl
      have hc5 := h.head.cell (i := 5) rfl
      have h1 := h.upNone
      have h2 := h1.upHead 5 (.bool false) (S.crashTo cs j).cut false rfl
      have h3 := h2.upHead 4 (.int .i64 (-1)) (-1) false rfl
      have hbF : F b ∨ w.heap.size ≤ b := by
        rcases h.fb with hk | hk
        · exact Or.inl hk
        · exact Or.inr hk.1
      have hO3 := Lib.hid (((hO.set (a := ⟨b, 2, none⟩) hbF.symm (.slice none 0 0)).set (a := ⟨b, 5, none⟩) hbF.symm (.bool false)).set (a := ⟨b, 4, none⟩) hbF.symm (.int .i64 (-1)))
      have hfin := Lib.hid (show RD (More F w (((wr.setCell ⟨b, 2, none⟩ (.slice none 0 0)).setCell ⟨b, 5, none⟩ (.bool false)).setCell ⟨b, 4, none⟩ (.int .i64 (-1)))) (((wr.setCell ⟨b, 2, none⟩ (.slice none 0 0)).setCell ⟨b, 5, none⟩ (.bool false)).setCell ⟨b, 4, none⟩ (.int .i64 (-1))) b (S.crashed cs) by
        unfold DS.crashed
        rw [← Hm.out]
        refine (RD.of ((hwf.noWaits).cutOff (-1) false (by omega) (by omega)) h3).mono (fun k _ hf => by
          rcases hf with hf | hf
          · exact Or.inl hf
          · exact Or.inr ⟨hf.1, by rw [nblk_setCell, nblk_setCell, nblk_setCell]; exact hf.2⟩) (fun k hk => by
          rw [nblk_setCell, nblk_setCell, nblk_setCell]
          rcases hk with hk | hk
          · have := Hfin.out k hk; have := hO.size; omega
          · have := hk.2; rwa [nblk_setCell, nblk_setCell, nblk_setCell] at this))
      clear h1 h2 h3 hO
      go_wp2
      go_end0
      exact ⟨rfl, hfin.out, hO3.out⟩
end Go.Proofs.Ythdclncgmhgmfaa
