/- The document's disk: Crash. -/
import Derived.Test.YthdclncgmhgmfaaRDisk5
namespace Go.Proofs.Ythdclncgmhgmfaa
open Go.RowKit Go.Deep
set_option linter.unusedSimpArgs false
set_option linter.unusedVariables false

/-- How many bytes of piece i are kept. -/
def cutAt (cs : List Int) (i : Nat) : Nat := min (cs.getD i 0).toNat 128
/-- Of a piece the first c bytes are kept. -/
def DS.crash1 (S : DS) (p : Int × List Int) (c : Nat) : DS :=
  if c = 0 then S else { S with kept := S.kept.set p.1.toNat (p.2.take c ++ (S.kept.getD p.1.toNat []).drop c), inn := S.inn.set p.1.toNat true }
def DS.crashTo (S : DS) (cs : List Int) : Nat → DS
  | 0 => S
  | k + 1 => match S.waits[k]? with
    | some p => (S.crashTo cs k).crash1 p (cutAt cs k)
    | none => S.crashTo cs k
def DS.crashed (S : DS) (cs : List Int) : DS := { S.crashTo cs S.waits.length with waits := [], cut := -1, off := false }

theorem crash1_same (S : DS) (p : Int × List Int) (c : Nat) : (S.crash1 p c).waits = S.waits ∧ (S.crash1 p c).kept.length = S.kept.length ∧ (S.crash1 p c).room = S.room ∧ (S.crash1 p c).ops = S.ops := by
  unfold DS.crash1; split <;> simp
theorem crashTo_same (S : DS) (cs : List Int) (k : Nat) : (S.crashTo cs k).waits = S.waits ∧ (S.crashTo cs k).kept.length = S.kept.length := by
  induction k with
  | zero => exact ⟨rfl, rfl⟩
  | succ k ih =>
    unfold DS.crashTo
    split
    · rw [(crash1_same _ _ _).1, (crash1_same _ _ _).2.1]; exact ih
    · exact ih
theorem crashTo_succ {S : DS} {cs : List Int} {k : Nat} {p : Int × List Int} (h : S.waits[k]? = some p) : S.crashTo cs (k + 1) = (S.crashTo cs k).crash1 p (cutAt cs k) := by
  rw [DS.crashTo, h]
theorem byte128_torn {a b : List Int} {c : Nat} (ha : Byte128 a) (hb : Byte128 b) (hc : c ≤ 128) : Byte128 (a.take c ++ b.drop c) :=
  ⟨by rw [List.length_append, List.length_take, List.length_drop, ha.1, hb.1]; omega, fun x hx => by
    rcases List.mem_append.1 hx with hx | hx
    · exact ha.2 x (List.mem_of_mem_take hx)
    · exact hb.2 x (List.mem_of_mem_drop hx)⟩
theorem DWf.crash1 {S : DS} (h : DWf S) {p : Int × List Int} (hp : p ∈ S.waits) {c : Nat} (hc : c ≤ 128) : DWf (S.crash1 p c) := by
  unfold DS.crash1
  split
  · exact h
  · have hpp := h.wts p hp
    have hl : p.1.toNat < S.kept.length := by omega
    refine ⟨by rw [List.length_set]; exact h.n1, by rw [List.length_set]; exact h.n2, by rw [List.length_set, List.length_set]; exact h.ninn, ?_, fun q hq => by rw [List.length_set]; exact h.wts q hq, h.room0, h.room1, h.cut0, h.cut1, h.ops3, h.opsr⟩
    intro r hr
    rcases List.mem_or_eq_of_mem_set hr with hr | rfl
    · exact h.rows r hr
    · refine byte128_torn hpp.2.2 ?_ hc
      rw [show S.kept.getD p.1.toNat [] = S.kept[p.1.toNat] by simp [List.getD, hl]]
      exact h.rows _ (List.getElem_mem hl)
theorem cutAt_le (cs : List Int) (i : Nat) : cutAt cs i ≤ 128 := Nat.min_le_right _ _

/-- Behind Crash's two appends: the row of a torn sector. -/
theorem torn_row {w2 : World} {base n : Nat} {v2 : Value} {row : List Int} (h : w2.ownsRow base 5 1 v2 n (u8s row)) (hn : n = 128) (hl : row.length = 128) : BRow (fun k => base ≤ k ∧ k < w2.heap.size) w2 v2 row := by
  refine BRow.of_own h (by omega) ?_
  intro k hk
  exact h.lt k hk

theorem crash1_pos (S : DS) (p : Int × List Int) {c q : Nat} (hc : c ≠ 0) (hq : p.1.toNat = q) : S.crash1 p c = { S with kept := S.kept.set q (p.2.take c ++ (S.kept.getD q []).drop c), inn := S.inn.set q true } := by
  unfold DS.crash1; rw [if_neg hc, hq]
/-- Behind the two appends of Crash and the stores: the disk of which one more piece is kept, in part. -/
theorem torn_end {F : Nat → Prop} {w wd w2 : World} {b : Nat} {S : DS} {kb ib ob ck ci : Nat} {spk spi : List Value} {vw v2 : Value} {kv : List Value} {ps : List (Int × Value)} (h : RDAt (More F w wd) wd b S kb ib ob ck ci spk spi vw kv ps)
    (hws : w.heap.size ≤ wd.heap.size) (hF : ∀ k, F k → k < w.heap.size) {q n2 : Nat} {row : List Int} (hq : q < S.kept.length) (hb : Below wd.heap.size wd w2) (hown : w2.ownsRow wd.heap.size 5 1 v2 n2 (u8s row)) (hn2 : n2 = 128) (hrow : row.length = 128) :
    RDAt (More F w w2) (w2.setCell ⟨kb, q, none⟩ v2) b { S with kept := S.kept.set q row } kb ib ob ck ci spk spi vw (kv.set q v2) ps := by
  have h1 := (h.keep (w' := w2) hb.size (fun k hk => hb.block k (h.fin k hk))).mono (G := More F w w2) (fun k _ hf => by
    rcases hf with hf | hf
    · exact Or.inl hf
    · exact Or.inr ⟨hf.1, Nat.lt_of_lt_of_le hf.2 hb.size⟩) (fun k hk => by
    rcases hk with hk | hk
    · exact Nat.lt_of_lt_of_le (hF k hk) (Nat.le_trans hws hb.size)
    · exact hk.2)
  exact h1.upKept q hq v2 row ((torn_row hown hn2 hrow).mono (fun k _ hk => Or.inr ⟨Nat.le_trans hws hk.1, hk.2⟩))

set_option maxRecDepth 100000 in
set_option maxHeartbeats 6400000 in
theorem rcrash_is (F : Nat → Prop) (w : World) (b : Nat) (S : DS) (A : Option Addr) (n c : Nat) (cs : List Int) (h : RD F w b S) (hx : Sl w A n (u8s cs)) (hcs : ∀ x ∈ cs, 0 ≤ x ∧ x < 256) (hn : n ≤ 9223372036854775807) (hxF : ∀ ad, A = some ad → 0 < n → ¬ F ad.block) :
    Calls Try.prog 34 #[.pointer (some ⟨b, 0, none⟩), .slice A n c] w fun e w' => e = .returned (.tuple #[]) ∧ RD (More F w w') w' b (S.crashed cs) ∧ Only F w w' := by
  have hln : cs.length = n := by simpa using hx.1
  have hrd0 : RD (More F w w) w b S := h.mono (fun k _ hf => Or.inl hf) (fun k hk => h.fin (More.same hk))
  obtain ⟨i8, hi8, hz8, hs8, hb8⟩ := info_parts' info_u8
  have hmb : S.waits.length ≤ 9223372036854775807 := by
    obtain ⟨_, _, _, _, _, _, _, _, _, _, ps1, h1⟩ := h
    rw [← h1.psn]
    rcases h1.wait with ⟨_, e⟩ | ⟨_, _, _, _, _, h3, h4, _⟩
    · rw [e]; simp
    · simp only [maxLen] at h4; omega
  obtain ⟨m, hm⟩ : ∃ m, m = S.waits.length := ⟨_, rfl⟩
  have Hm := Lib.hid hm
  have Hln := Lib.hid hln
  have Hcs := Lib.hid hcs
  rw [← hm] at hmb
  have Hfin := Lib.hid (fun k (hk : F k) => (h.fin hk : k < w.heap.size))
  clear hm hln h hcs
  go_enter Try.func34, Try.ntmps34
  go_wp2_with fail
  go_loopw [4] (fun i wr => ∃ j : Nat, j ≤ m ∧ i = .int .i64 j ∧ RD (More F w wr) wr b (S.crashTo cs j) ∧ Only F w wr) (fun i _ => m - (intOf i).toNat)
  case atStart => exact ⟨0, by omega, rfl, hrd0, Only.refl F w⟩
  case round =>
    clear hrd0
    obtain ⟨j, hj, rfl, hr, hO⟩ := hrel
    have hxr := hx.only hO hxF
    have hsame := crashTo_same S cs j
    obtain ⟨hwf, kb, ib, ob, ck, ci, spk, spi, vw, kv, ps, h⟩ := hr
    obtain ⟨Aw, cw, rfl, hw⟩ := h.wait.form
    have hc0 := h.head.cell (i := 0) rfl
    have hc1 := h.head.cell (i := 1) rfl
    have hc2 := h.head.cell (i := 2) rfl
    have hpn : ps.length = m := by rw [h.psn, Hm.out, hsame.1]
    rw [hpn] at hc2
    by_cases hlt : j < m
    · obtain ⟨p, hp⟩ : ∃ p, S.waits[j]? = some p := ⟨_, List.getElem?_eq_getElem (by rw [← Hm.out]; exact hlt)⟩
      have hp' : (S.crashTo cs j).waits[j]? = some p := by rw [hsame.1]; exact hp
      obtain ⟨v, hv, hbv⟩ := h.wrow j p hp'
      obtain ⟨g, rfl, hcp, hcv⟩ := hw j _ hv
      have hwt := hwf.wts p (List.mem_of_getElem? hp')
      obtain ⟨gv, cv, spv, rfl, hgF, hlcv, hbk, hspv⟩ := hbv
      rw [hwt.2.2.1] at hcv hlcv
      obtain ⟨q, hq⟩ : ∃ q : Nat, (q : Int) = p.1 := ⟨p.1.toNat, by omega⟩
      have hqn : p.1.toNat = q := by omega
      have hql : q < (S.crashTo cs j).kept.length := by have := hwt.2.1; omega
      replace hcp : wr.cell? ⟨g, j * 2, none⟩ = some (.int .i64 q) := by rw [hq]; exact hcp
      replace hcv : wr.cell? ⟨g, j * 2 + 1, none⟩ = some (.slice (some ⟨gv, 0, none⟩) 128 cv) := hcv
      have hnext := crashTo_succ (cs := cs) hp
      obtain ⟨wd, hwd⟩ : ∃ wd, wd = (wr.alloc (.cells #[.int .i64 (q : Int), .slice (some ⟨gv, 0, none⟩) 128 cv] 91)) := ⟨_, rfl⟩
      have hsd : wd.heap.size = wr.heap.size + 1 := by rw [hwd, nblk_alloc]
      have hbelow : ∀ k, k < wr.heap.size → wd.heap[k]? = wr.heap[k]? := fun k hk => by rw [hwd]; exact blk_alloc_lt _ _ _ hk
      have hd := (h.keep (w' := wd) (by omega) (fun k hk => hbelow k (h.fin k hk))).mono (G := More F w wd) (fun k _ hf => by
        rcases hf with hf | hf
        · exact Or.inl hf
        · right; omega) (fun k hk => by
        rcases hk with hk | hk
        · have := Hfin.out k hk; have := hO.size; omega
        · exact hk.2)
      have hOd : Only F w wd := by rw [hwd]; exact hO.alloc _
      have hPd : Blk wd wr.heap.size 91 [.int .i64 (q : Int), .slice (some ⟨gv, 0, none⟩) 128 cv] := by rw [hwd]; exact Blk.new _ _ _
      have hPn : ¬ F wr.heap.size := fun hf => by have := Hfin.out _ hf; have := hO.size; omega
      have Hd := Lib.hid hd
      have HOd := Lib.hid hOd
      have Hwd := Lib.hid hwd
      have Hwf := Lib.hid hwf
      have Hrd := Lib.hid (show RD (More F w wd) wd b (S.crashTo cs j) from RD.of hwf hd)
      clear hd hOd hwd hwf h
      by_cases hjl : j < n
      · obtain ⟨ad, u, rfl, hcu, hu⟩ := hxr.num hjl
        have hur := Hcs.out u (List.mem_of_getElem? hu)
        obtain ⟨u, rfl⟩ := Int.eq_ofNat_of_zero_le hur.1
        have hcut : cutAt cs j = min u 128 := by unfold cutAt; simp [List.getD, hu]
        have hjI : (j : Int) < (n : Int) := by omega
        have hcud : (wr.alloc (.cells #[.int .i64 (q : Int), .slice (some ⟨gv, 0, none⟩) 128 cv] 91)).cell? (ad.add j) = some (.int .u8 (u : Int)) := by rw [World.cell?_alloc_lt _ _ _ (World.block_lt_of_cell? wr _ hcu)]; exact hcu
        by_cases hu0 : u = 0
        · subst hu0
          have Hnone := Lib.hid (show S.crashTo cs (j + 1) = S.crashTo cs j by rw [hnext, hcut]; rfl)
          clear hnext hcut hu hq hqn hv hwt hp hp' hpn hw
          go_wp2
          rw [← Hwd.out]
          go_roundw
          case rel => exact ⟨j + 1, by omega, by go_num, by rw [Hnone.out]; exact Hrd.out, HOd.out⟩
          case measure => simp [intOf]; omega
        · by_cases hubig : 128 < u
          · have hcut2 : cutAt cs j = 128 := by rw [hcut]; omega
            have Hcut := Lib.hid hcut2
            have Hnext := Lib.hid hnext
            have Hp := Lib.hid hp'
            have Hq := Lib.hid hq
            have Hqn := Lib.hid hqn
            have Hwt := Lib.hid hwt
            clear hnext hq hqn hv hwt hp hp' hpn hw hcut hu hcut2
            go_wp2
            rw [← Hwd.out]
            obtain ⟨vo, hvo, hbo⟩ := Hd.out.krow q ((S.crashTo cs j).kept.getD q []) (by simp [List.getD, hql])
            have hor : Byte128 ((S.crashTo cs j).kept.getD q []) := Hwf.out.rows _ (by simp [List.getD, hql])
            obtain ⟨row, hrow⟩ : ∃ r, r = (S.crashTo cs j).kept.getD q [] := ⟨_, rfl⟩
            rw [← hrow] at hbo hor
            obtain ⟨go, co, spo, rfl, hgo, hco, hbko, hspo⟩ := hbo
            rw [hor.1] at hco hspo
            obtain ⟨K, hK⟩ : ∃ K, K = (S.crashTo cs j).kept.length := ⟨_, rfl⟩
            have hqK : (q : Int) < (K : Int) := by omega
            have hd0 : wd.cell? ⟨b, 0, none⟩ = some (.slice (some ⟨kb, 0, none⟩) K ck) := by rw [hK]; exact Hd.out.head.cell (i := 0) rfl
            have hd1 : wd.cell? ⟨b, 1, none⟩ = some (.slice (some ⟨ib, 0, none⟩) K ci) := by rw [hK]; exact Hd.out.head.cell (i := 1) rfl
            have hP0 : wd.cell? ⟨wr.heap.size, 0, none⟩ = some (.int .i64 (q : Int)) := hPd.cell rfl
            have hP1 : wd.cell? ⟨wr.heap.size, 1, none⟩ = some (.slice (some ⟨gv, 0, none⟩) 128 cv) := hPd.cell rfl
            have hkq : wd.cell? ⟨kb, q, none⟩ = some (.slice (some ⟨go, 0, none⟩) 128 co) := by
              have hko := Hd.out.kept.cell (i := q) (v := .slice (some ⟨go, 0, none⟩) row.length co) (by rw [List.getElem?_append_left (by rw [Hd.out.kvn]; exact hql)]; exact hvo)
              rw [hor.1] at hko; exact hko
            have hfq := Hd.out.kept.frozen q
            have Hrow := Lib.hid hrow
            have HK := Lib.hid hK
            have Hor := Lib.hid hor
            clear hrow hK hor hvo
            obtain ⟨adx, hadx⟩ : ∃ adx : Addr, adx = (if co = 128 then ⟨go, 0, none⟩ else ⟨go, 128, none⟩) := ⟨_, rfl⟩
            have Hadx := Lib.hid hadx
            clear hadx
            have hz0 : (0 : Int) ≤ (128 : Int) := by omega
            have hz1 : (128 : Int) ≤ (cv : Int) := by omega
            have hz2 : (128 : Int) ≤ 128 := by omega
            have hz3 : (128 : Int) ≤ (co : Int) := by omega
            have hbl : b < wd.heap.size := Hd.out.head.lt
            have hkl : kb < wd.heap.size := Hd.out.kept.lt
            have hpl : wr.heap.size < wd.heap.size := hPd.lt
            have hgol : go < wd.heap.size := hbko.lt
            have hgvl : gv < wr.heap.size := hbk.lt
            have HownA := Lib.hid ((World.ownsRow_made (base := wd.heap.size) (e := 5) (size := 1) wd #[] 0 (Nat.le_refl _) (by decide) rfl).drew)
            have hbkA : Blk ((wd.alloc (.cells #[] 5)).drew) gv 5 (u8s p.2 ++ spv) := (((hbk.kept (hbelow gv hgvl)).alloc (.cells #[] 5)).drew)
            have HnewsA := Lib.hid (BRow.first (k := 128) hbkA)
            have HlenA := Lib.hid (show (u8s (p.2.take 128)).length = 128 * 1 by simp [Hwt.out.2.2.1]; try omega)
            have HlenB := Lib.hid (show (u8s (row.drop 128)).length = (128 - 128) * 1 by simp [Hor.out.1])
            have hA0 : ((wd.alloc (.cells #[] 5)).drew).cell? ⟨b, 0, none⟩ = some (.slice (some ⟨kb, 0, none⟩) K ck) := (World.cell?_alloc_lt _ _ _ hbl).trans hd0
            have hAP0 : ((wd.alloc (.cells #[] 5)).drew).cell? ⟨wr.heap.size, 0, none⟩ = some (.int .i64 (q : Int)) := (World.cell?_alloc_lt _ _ _ hpl).trans hP0
            have hAP1 : ((wd.alloc (.cells #[] 5)).drew).cell? ⟨wr.heap.size, 1, none⟩ = some (.slice (some ⟨gv, 0, none⟩) 128 cv) := (World.cell?_alloc_lt _ _ _ hpl).trans hP1
            have hkqA : ((wd.alloc (.cells #[] 5)).drew).cell? ⟨kb, q, none⟩ = some (.slice (some ⟨go, 0, none⟩) 128 co) := (World.cell?_alloc_lt _ _ _ hkl).trans hkq
            refine wp_region_held_drew (S := fun w' => w'.cell? ⟨b, 0, none⟩ = some (.slice (some ⟨kb, 0, none⟩) K ck) ∧ w'.cell? ⟨wr.heap.size, 0, none⟩ = some (.int .i64 (q : Int)) ∧ w'.cell? ⟨wr.heap.size, 1, none⟩ = some (.slice (some ⟨gv, 0, none⟩) 128 cv)) (by kernel_rfl) (by first | exact ⟨hd0, hP0, hP1⟩ | exact ⟨hA0, hAP0, hAP1⟩ | exact ⟨hB0, hBP0, hBP1⟩ | exact ⟨hC0, hCP0, hCP1⟩ | exact ⟨hD0, hDP0, hDP1⟩) (fun hHeld => ?_)
            refine wpAnyH_take (i := 0) (oi := ?oiz1) (v := ?vz1) ?hiz1 ?haz1 ?hbz1 ?hcz1 ?hqz1 ?hyz1 (by assumption) ?restz1
            case hiz1 => (simp only [List.getElem?_toArray, List.getElem?_cons_zero, List.getElem?_cons_succ]; rfl)
            case haz1 => kernel_rfl
            case hbz1 => kernel_rfl
            case hcz1 => kernel_rfl
            case hyz1 => exact Or.inl ⟨by rfl, by (intro w hSw; (try dsimp only at hSw); go_split_ands; go_simp; (try with_reducible rfl))⟩
            case hqz1 => exact fun _ _ _ h => h
            try simp only [Act.put, List.setIfInBounds_toArray, List.set_cons_zero, List.set_cons_succ]
            refine wpAnyH_take (i := 1) (oi := ?oiz2) (v := ?vz2) ?hiz2 ?haz2 ?hbz2 ?hcz2 ?hqz2 ?hyz2 (by assumption) ?restz2
            case hiz2 => (simp only [List.getElem?_toArray, List.getElem?_cons_zero, List.getElem?_cons_succ]; rfl)
            case haz2 => kernel_rfl
            case hbz2 => kernel_rfl
            case hcz2 => kernel_rfl
            case hyz2 => exact Or.inl ⟨by rfl, by (intro w hSw; (try dsimp only at hSw); go_split_ands; go_simp; (try with_reducible rfl))⟩
            case hqz2 => exact fun _ _ _ h => h
            try simp only [Act.put, List.setIfInBounds_toArray, List.set_cons_zero, List.set_cons_succ]
            refine wpAnyH_take (i := 2) (oi := ?oiz3) (v := ?vz3) ?hiz3 ?haz3 ?hbz3 ?hcz3 ?hqz3 ?hyz3 (by assumption) ?restz3
            case hiz3 => (simp only [List.getElem?_toArray, List.getElem?_cons_zero, List.getElem?_cons_succ]; rfl)
            case haz3 => kernel_rfl
            case hbz3 => kernel_rfl
            case hcz3 => kernel_rfl
            case hyz3 => exact Or.inl ⟨by rfl, by (intro w hSw; (try dsimp only at hSw); go_split_ands; go_simp; (try with_reducible rfl))⟩
            case hqz3 => exact fun _ _ _ h => h
            try simp only [Act.put, List.setIfInBounds_toArray, List.set_cons_zero, List.set_cons_succ]
            refine wpAnyH_take (i := 3) (oi := ?oiz4) (v := ?vz4) ?hiz4 ?haz4 ?hbz4 ?hcz4 ?hqz4 ?hyz4 (by assumption) ?restz4
            case hiz4 => (simp only [List.getElem?_toArray, List.getElem?_cons_zero, List.getElem?_cons_succ]; rfl)
            case haz4 => kernel_rfl
            case hbz4 => kernel_rfl
            case hcz4 => kernel_rfl
            case hyz4 => exact Or.inl ⟨by rfl, by (intro w hSw; (try dsimp only at hSw); go_split_ands; go_simp; (try with_reducible rfl))⟩
            case hqz4 => exact fun _ _ _ h => h
            try simp only [Act.put, List.setIfInBounds_toArray, List.set_cons_zero, List.set_cons_succ]
            refine wpAnyH_take (i := 4) (oi := ?oiz5) (v := ?vz5) ?hiz5 ?haz5 ?hbz5 ?hcz5 ?hqz5 ?hyz5 (by assumption) ?restz5
            case hiz5 => (simp only [List.getElem?_toArray, List.getElem?_cons_zero, List.getElem?_cons_succ]; rfl)
            case haz5 => kernel_rfl
            case hbz5 => kernel_rfl
            case hcz5 => kernel_rfl
            case hyz5 => exact Or.inl ⟨by rfl, by (intro w hSw; (try dsimp only at hSw); go_split_ands; go_simp; (try with_reducible rfl))⟩
            case hqz5 => exact fun _ _ _ h => h
            try simp only [Act.put, List.setIfInBounds_toArray, List.set_cons_zero, List.set_cons_succ]
            refine wpAnyH_take (i := 5) (oi := ?oiz6) (v := ?vz6) ?hiz6 ?haz6 ?hbz6 ?hcz6 ?hqz6 ?hyz6 (by assumption) ?restz6
            case hiz6 => (simp only [List.getElem?_toArray, List.getElem?_cons_zero, List.getElem?_cons_succ]; rfl)
            case haz6 => kernel_rfl
            case hbz6 => kernel_rfl
            case hcz6 => kernel_rfl
            case hyz6 => exact Or.inl ⟨by rfl, by (intro w hSw; (try dsimp only at hSw); go_split_ands; go_simp; (try with_reducible rfl))⟩
            case hqz6 => exact fun _ _ _ h => h
            try simp only [Act.put, List.setIfInBounds_toArray, List.set_cons_zero, List.set_cons_succ]
            refine wpAnyH_take (i := 7) (oi := ?oiz7) (v := ?vz7) ?hiz7 ?haz7 ?hbz7 ?hcz7 ?hqz7 ?hyz7 (by assumption) ?restz7
            case hiz7 => (simp only [List.getElem?_toArray, List.getElem?_cons_zero, List.getElem?_cons_succ]; rfl)
            case haz7 => kernel_rfl
            case hbz7 => kernel_rfl
            case hcz7 => kernel_rfl
            case hyz7 => exact Or.inl ⟨by rfl, by (intro w hSw; (try dsimp only at hSw); go_split_ands; go_simp; (try with_reducible rfl))⟩
            case hqz7 => exact fun _ _ _ h => h
            try simp only [Act.put, List.setIfInBounds_toArray, List.set_cons_zero, List.set_cons_succ]
            refine wpAnyH_take (i := 8) (oi := ?oiz8) (v := ?vz8) ?hiz8 ?haz8 ?hbz8 ?hcz8 ?hqz8 ?hyz8 (by assumption) ?restz8
            case hiz8 => (simp only [List.getElem?_toArray, List.getElem?_cons_zero, List.getElem?_cons_succ]; rfl)
            case haz8 => kernel_rfl
            case hbz8 => kernel_rfl
            case hcz8 => kernel_rfl
            case hyz8 => exact Or.inl ⟨by rfl, by (intro w hSw; (try dsimp only at hSw); go_split_ands; go_simp; (try with_reducible rfl))⟩
            case hqz8 => exact fun _ _ _ h => h
            try simp only [Act.put, List.setIfInBounds_toArray, List.set_cons_zero, List.set_cons_succ]
            refine wpAnyH_take (i := 9) (oi := ?oiz9) (v := ?vz9) ?hiz9 ?haz9 ?hbz9 ?hcz9 ?hqz9 ?hyz9 (by assumption) ?restz9
            case hiz9 => (simp only [List.getElem?_toArray, List.getElem?_cons_zero, List.getElem?_cons_succ]; rfl)
            case haz9 => kernel_rfl
            case hbz9 => kernel_rfl
            case hcz9 => kernel_rfl
            case hyz9 => exact Or.inl ⟨by rfl, by (intro w hSw; (try dsimp only at hSw); go_split_ands; go_simp; (try with_reducible rfl))⟩
            case hqz9 => exact fun _ _ _ h => h
            try simp only [Act.put, List.setIfInBounds_toArray, List.set_cons_zero, List.set_cons_succ]
            refine wpAnyH_take (i := 10) (oi := ?oiz10) (v := ?vz10) ?hiz10 ?haz10 ?hbz10 ?hcz10 ?hqz10 ?hyz10 (by assumption) ?restz10
            case hiz10 => (simp only [List.getElem?_toArray, List.getElem?_cons_zero, List.getElem?_cons_succ]; rfl)
            case haz10 => kernel_rfl
            case hbz10 => kernel_rfl
            case hcz10 => kernel_rfl
            case hyz10 => exact Or.inl ⟨by rfl, by (intro w hSw; (try dsimp only at hSw); go_split_ands; go_simp; (try with_reducible rfl))⟩
            case hqz10 => exact fun _ _ _ h => h
            try simp only [Act.put, List.setIfInBounds_toArray, List.set_cons_zero, List.set_cons_succ]
            refine wpAnyH_take (i := 12) (oi := ?oiz11) (v := ?vz11) ?hiz11 ?haz11 ?hbz11 ?hcz11 ?hqz11 ?hyz11 (by assumption) ?restz11
            case hiz11 => (simp only [List.getElem?_toArray, List.getElem?_cons_zero, List.getElem?_cons_succ]; rfl)
            case haz11 => kernel_rfl
            case hbz11 => kernel_rfl
            case hcz11 => kernel_rfl
            case hyz11 => exact Or.inl ⟨by rfl, by (intro w hSw; (try dsimp only at hSw); go_split_ands; go_simp; (try with_reducible rfl))⟩
            case hqz11 => exact fun _ _ _ h => h
            try simp only [Act.put, List.setIfInBounds_toArray, List.set_cons_zero, List.set_cons_succ]
            refine wpAnyH_take (i := 13) (oi := ?oiz12) (v := ?vz12) ?hiz12 ?haz12 ?hbz12 ?hcz12 ?hqz12 ?hyz12 (by assumption) ?restz12
            case hiz12 => (simp only [List.getElem?_toArray, List.getElem?_cons_zero, List.getElem?_cons_succ]; rfl)
            case haz12 => kernel_rfl
            case hbz12 => kernel_rfl
            case hcz12 => kernel_rfl
            case hyz12 => exact Or.inl ⟨by rfl, by (intro w hSw; (try dsimp only at hSw); go_split_ands; go_simp; (try with_reducible rfl))⟩
            case hqz12 => exact fun _ _ _ h => h
            try simp only [Act.put, List.setIfInBounds_toArray, List.set_cons_zero, List.set_cons_succ]
            refine wpAnyH_take (i := 14) (oi := ?oiz13) (v := ?vz13) ?hiz13 ?haz13 ?hbz13 ?hcz13 ?hqz13 ?hyz13 (by assumption) ?restz13
            case hiz13 => (simp only [List.getElem?_toArray, List.getElem?_cons_zero, List.getElem?_cons_succ]; rfl)
            case haz13 => kernel_rfl
            case hbz13 => kernel_rfl
            case hcz13 => kernel_rfl
            case hyz13 => exact Or.inl ⟨by rfl, by (intro w hSw; (try dsimp only at hSw); go_split_ands; go_simp; (try with_reducible rfl))⟩
            case hqz13 => exact fun _ _ _ h => h
            try simp only [Act.put, List.setIfInBounds_toArray, List.set_cons_zero, List.set_cons_succ]
            refine wpAnyH_take (i := 15) (oi := ?oiz14) (v := ?vz14) ?hiz14 ?haz14 ?hbz14 ?hcz14 ?hqz14 ?hyz14 (by assumption) ?restz14
            case hiz14 => (simp only [List.getElem?_toArray, List.getElem?_cons_zero, List.getElem?_cons_succ]; rfl)
            case haz14 => kernel_rfl
            case hbz14 => kernel_rfl
            case hcz14 => kernel_rfl
            case hyz14 => exact Or.inl ⟨by rfl, by (intro w hSw; (try dsimp only at hSw); go_split_ands; go_simp; (try with_reducible rfl))⟩
            case hqz14 => exact fun _ _ _ h => h
            try simp only [Act.put, List.setIfInBounds_toArray, List.set_cons_zero, List.set_cons_succ]
            refine wpAnyH_take (i := 16) (oi := ?oiz15) (v := ?vz15) ?hiz15 ?haz15 ?hbz15 ?hcz15 ?hqz15 ?hyz15 (by assumption) ?restz15
            case hiz15 => (simp only [List.getElem?_toArray, List.getElem?_cons_zero, List.getElem?_cons_succ]; rfl)
            case haz15 => kernel_rfl
            case hbz15 => kernel_rfl
            case hcz15 => kernel_rfl
            case hyz15 => exact Or.inl ⟨by rfl, by (intro w hSw; (try dsimp only at hSw); go_split_ands; go_simp; (try with_reducible rfl))⟩
            case hqz15 => exact fun _ _ _ h => h
            try simp only [Act.put, List.setIfInBounds_toArray, List.set_cons_zero, List.set_cons_succ]
            refine wpAnyH_take (i := 17) (oi := ?oiz16) (v := ?vz16) ?hiz16 ?haz16 ?hbz16 ?hcz16 ?hqz16 ?hyz16 (by assumption) ?restz16
            case hiz16 => (simp only [List.getElem?_toArray, List.getElem?_cons_zero, List.getElem?_cons_succ]; rfl)
            case haz16 => kernel_rfl
            case hbz16 => kernel_rfl
            case hcz16 => kernel_rfl
            case hyz16 => exact Or.inl ⟨by rfl, by (intro w hSw; (try dsimp only at hSw); go_split_ands; go_simp; (try with_reducible rfl))⟩
            case hqz16 => exact fun _ _ _ h => h
            try simp only [Act.put, List.setIfInBounds_toArray, List.set_cons_zero, List.set_cons_succ]
            refine wpAnyH_take (i := 18) (oi := ?oiz17) (v := ?vz17) ?hiz17 ?haz17 ?hbz17 ?hcz17 ?hqz17 ?hyz17 (by assumption) ?restz17
            case hiz17 => (simp only [List.getElem?_toArray, List.getElem?_cons_zero, List.getElem?_cons_succ]; rfl)
            case haz17 => kernel_rfl
            case hbz17 => kernel_rfl
            case hcz17 => kernel_rfl
            case hyz17 => exact Or.inl ⟨by rfl, by (intro w hSw; (try dsimp only at hSw); go_split_ands; go_simp; (try with_reducible rfl))⟩
            case hqz17 => exact fun _ _ _ h => h
            try simp only [Act.put, List.setIfInBounds_toArray, List.set_cons_zero, List.set_cons_succ]
            refine wpAnyH_take (i := 20) (oi := ?oiz18) (v := ?vz18) ?hiz18 ?haz18 ?hbz18 ?hcz18 ?hqz18 ?hyz18 (by assumption) ?restz18
            case hiz18 => (simp only [List.getElem?_toArray, List.getElem?_cons_zero, List.getElem?_cons_succ]; rfl)
            case haz18 => kernel_rfl
            case hbz18 => kernel_rfl
            case hcz18 => kernel_rfl
            case hyz18 => exact Or.inl ⟨by rfl, by (intro w hSw; (try dsimp only at hSw); go_split_ands; go_simp; (try with_reducible rfl))⟩
            case hqz18 => exact fun _ _ _ h => h
            try simp only [Act.put, List.setIfInBounds_toArray, List.set_cons_zero, List.set_cons_succ]
            refine wpAnyH_ready (rs := [6, 19]) (by kernel_rfl) (by simp) ?_
            refine AllReadyH.cons (o := ?oiz19w0) ?hiz19w0 (fun K hK => ?stepz19w0) ?morez19w0
            case hiz19w0 => (simp only [List.getElem?_toArray, List.getElem?_cons_zero, List.getElem?_cons_succ]; rfl)
            go_simp
            refine hK.out _ _ (by first | exact ⟨hd0, hP0, hP1⟩ | exact ⟨hA0, hAP0, hAP1⟩ | exact ⟨hB0, hBP0, hBP1⟩ | exact ⟨hC0, hCP0, hCP1⟩ | exact ⟨hD0, hDP0, hDP1⟩) (fun hHeld => ?_)
            clear hK K
            try simp only [Act.put, List.setIfInBounds_toArray, List.set_cons_zero, List.set_cons_succ]
            refine wpAnyH_ready (rs := [11, 19]) (by kernel_rfl) (by simp) ?_
            refine AllReadyH.cons (o := ?oiz20w0) ?hiz20w0 (fun K hK => ?stepz20w0) ?morez20w0
            case hiz20w0 => (simp only [List.getElem?_toArray, List.getElem?_cons_zero, List.getElem?_cons_succ]; rfl)
            refine step_append_own rfl (.tmp 42) (.tmp 46) 22 rfl wd.heap.size 5 i8 (.int .u8 0) 1 1 Try.underlying22 hi8 hz8 hs8 hb8 rfl (by decide) (.slice (some ⟨wd.heap.size, 0, none⟩) 0 0) 0 [] (by simp [Act.eval, Act.put]) HownA.out ⟨gv, 0, none⟩ 128 cv (u8s (p.2.take 128)) (by simp [Act.eval, Act.put]) HlenA.out HnewsA.out (one_u8s _) (by simp only [maxLen]; omega) (by omega) (by show wd.heap.size ≤ (wd.alloc _).heap.size; rw [nblk_alloc]; exact Nat.le_succ _) ?_
            intro v1 w1 hown1 hg1
            have hB := put_below hg1
            have hB0 := (hB.cell (p := ⟨b, 0, none⟩) hbl).trans hd0
            have hBP0 := (hB.cell (p := ⟨wr.heap.size, 0, none⟩) hpl).trans hP0
            have hBP1 := (hB.cell (p := ⟨wr.heap.size, 1, none⟩) hpl).trans hP1
            have hkqB := (hB.cell (p := ⟨kb, q, none⟩) hkl).trans hkq
            have HB := Lib.hid hB
            have HnewsB := Lib.hid (show ∀ (j : Nat) (x : Value), (u8s (row.drop 128))[j]? = some x → w1.cell? (adx.add j) = some x by
              intro j x hj
              have hjl := (List.getElem?_eq_some_iff.1 hj).1
              rw [HlenB.out] at hjl
              rw [Hadx.out, if_neg (by omega)]
              exact BRow.part (k := 128) (hbko.kept (hB.block go hgol)) j x hj)
            have Hown1 := Lib.hid (show w1.ownsRow wd.heap.size 5 1 v1 128 (u8s (p.2.take 128)) by simpa using hown1)
            clear hown1 hg1 hB
            refine hK.out _ _ (by first | exact ⟨hd0, hP0, hP1⟩ | exact ⟨hA0, hAP0, hAP1⟩ | exact ⟨hB0, hBP0, hBP1⟩ | exact ⟨hC0, hCP0, hCP1⟩ | exact ⟨hD0, hDP0, hDP1⟩) (fun hHeld => ?_)
            clear hK K
            try simp only [Act.put, List.setIfInBounds_toArray, List.set_cons_zero, List.set_cons_succ]
            refine wpAnyH_ready (rs := [19]) (by kernel_rfl) (by simp) ?_
            refine AllReadyH.cons (o := ?oiz21w0) ?hiz21w0 (fun K hK => ?stepz21w0) ?morez21w0
            case hiz21w0 => (simp only [List.getElem?_toArray, List.getElem?_cons_zero, List.getElem?_cons_succ]; rfl)
            go_simp
            refine hK.out _ _ (by first | exact ⟨hd0, hP0, hP1⟩ | exact ⟨hA0, hAP0, hAP1⟩ | exact ⟨hB0, hBP0, hBP1⟩ | exact ⟨hC0, hCP0, hCP1⟩ | exact ⟨hD0, hDP0, hDP1⟩) (fun hHeld => ?_)
            clear hK K
            try simp only [Act.put, List.setIfInBounds_toArray, List.set_cons_zero, List.set_cons_succ]
            refine wpAnyH_take (i := 21) (oi := ?oiz22) (v := ?vz22) ?hiz22 ?haz22 ?hbz22 ?hcz22 ?hqz22 ?hyz22 (by assumption) ?restz22
            case hiz22 => (simp only [List.getElem?_toArray, List.getElem?_cons_zero, List.getElem?_cons_succ]; rfl)
            case haz22 => kernel_rfl
            case hbz22 => kernel_rfl
            case hcz22 => kernel_rfl
            case hyz22 => exact Or.inl ⟨by rfl, by (intro w hSw; (try dsimp only at hSw); go_split_ands; go_simp; (try with_reducible rfl))⟩
            case hqz22 => exact fun _ _ _ h => h
            try simp only [Act.put, List.setIfInBounds_toArray, List.set_cons_zero, List.set_cons_succ]
            refine wpAnyH_ready (rs := [22]) (by kernel_rfl) (by simp) ?_
            refine AllReadyH.cons (o := ?oiz23w0) ?hiz23w0 (fun K hK => ?stepz23w0) ?morez23w0
            case hiz23w0 => (simp only [List.getElem?_toArray, List.getElem?_cons_zero, List.getElem?_cons_succ]; rfl)
            refine step_append_own rfl (.tmp 47) (.tmp 57) 22 rfl wd.heap.size 5 i8 (.int .u8 0) 1 1 Try.underlying22 hi8 hz8 hs8 hb8 rfl (by decide) v1 128 (u8s (p.2.take 128)) (by simp [Act.eval, Act.put]) Hown1.out adx (128 - 128) (co - 128) (u8s (row.drop 128)) (by simp [Act.eval, Act.put]; rw [Hadx.out]; split <;> (first | rfl | (split <;> (first | rfl | (exfalso; omega))))) HlenB.out HnewsB.out (one_u8s _) (by simp only [maxLen]; omega) (by omega) HB.out.size ?_
            intro v2 w2 hown2 hg2
            have hB2 := HB.out.grown hg2 HB.out.size (fun k hk => (Hown1.out.lt k hk).1)
            obtain ⟨A2, c2, rfl, _⟩ := own_form hown2
            have hC0 := (hB2.cell (p := ⟨b, 0, none⟩) hbl).trans hd0
            have hCP0 := (hB2.cell (p := ⟨wr.heap.size, 0, none⟩) hpl).trans hP0
            have hCP1 := (hB2.cell (p := ⟨wr.heap.size, 1, none⟩) hpl).trans hP1
            have hkqC := (hB2.cell (p := ⟨kb, q, none⟩) hkl).trans hkq
            have hkfC : w2.frozen? ⟨kb, q, none⟩ = false := (hB2.frozen (p := ⟨kb, q, none⟩) hkl).trans hfq
            have hnbk : b ≠ kb := Hd.out.head.ne Hd.out.kept (by decide)
            have hnpk : wr.heap.size ≠ kb := hPd.ne Hd.out.kept (by decide)
            have hD0 := (World.cell?_setCell_other w2 ⟨kb, q, none⟩ ⟨b, 0, none⟩ (.slice A2 (128 + (128 - 128)) c2) (fun e => by cases e; exact hnbk rfl)).trans hC0
            have hDP0 := (World.cell?_setCell_other w2 ⟨kb, q, none⟩ ⟨wr.heap.size, 0, none⟩ (.slice A2 (128 + (128 - 128)) c2) (fun e => hnpk (congrArg Addr.block e).symm)).trans hCP0
            have hDP1 := (World.cell?_setCell_other w2 ⟨kb, q, none⟩ ⟨wr.heap.size, 1, none⟩ (.slice A2 (128 + (128 - 128)) c2) (fun e => hnpk (congrArg Addr.block e).symm)).trans hCP1
            have Hend := Lib.hid (torn_end Hd.out HOd.out.size Hfin.out hql hB2 (row := p.2.take 128 ++ row.drop 128) (by simpa [u8s] using hown2) (by omega) (byte128_torn Hwt.out.2.2 Hor.out (by omega)).1)
            have HB2 := Lib.hid hB2
            clear hown2 hg2 hB2
            refine hK.out _ _ (by first | exact ⟨hd0, hP0, hP1⟩ | exact ⟨hA0, hAP0, hAP1⟩ | exact ⟨hB0, hBP0, hBP1⟩ | exact ⟨hC0, hCP0, hCP1⟩ | exact ⟨hD0, hDP0, hDP1⟩) (fun hHeld => ?_)
            clear hK K
            try simp only [Act.put, List.setIfInBounds_toArray, List.set_cons_zero, List.set_cons_succ]
            refine wpAnyH_take (i := 23) (oi := ?oiz24) (v := ?vz24) ?hiz24 ?haz24 ?hbz24 ?hcz24 ?hqz24 ?hyz24 (by assumption) ?restz24
            case hiz24 => (simp only [List.getElem?_toArray, List.getElem?_cons_zero, List.getElem?_cons_succ]; rfl)
            case haz24 => kernel_rfl
            case hbz24 => kernel_rfl
            case hcz24 => kernel_rfl
            case hyz24 => exact Or.inl ⟨by rfl, by (intro w hSw; (try dsimp only at hSw); go_split_ands; go_simp; (try with_reducible rfl))⟩
            case hqz24 => exact fun _ _ _ h => h
            try simp only [Act.put, List.setIfInBounds_toArray, List.set_cons_zero, List.set_cons_succ]
            refine wpAnyH_ready (rs := [24]) (by kernel_rfl) (by simp) ?_
            refine AllReadyH.cons (o := ?oiz25w0) ?hiz25w0 (fun K hK => ?stepz25w0) ?morez25w0
            case hiz25w0 => (simp only [List.getElem?_toArray, List.getElem?_cons_zero, List.getElem?_cons_succ]; rfl)
            go_simp
            refine hK.out _ _ (by first | exact ⟨hd0, hP0, hP1⟩ | exact ⟨hA0, hAP0, hAP1⟩ | exact ⟨hB0, hBP0, hBP1⟩ | exact ⟨hC0, hCP0, hCP1⟩ | exact ⟨hD0, hDP0, hDP1⟩) (fun hHeld => ?_)
            clear hK K
            try simp only [Act.put, List.setIfInBounds_toArray, List.set_cons_zero, List.set_cons_succ]
            refine wpAnyH_done (by kernel_rfl) ?_ _
            rotate_left
            exact AllReadyH.nil
            exact AllReadyH.nil
            exact AllReadyH.nil
            refine AllReadyH.cons (o := ?oiz20w1) ?hiz20w1 (fun K hK => ?stepz20w1) ?morez20w1
            case hiz20w1 => (simp only [List.getElem?_toArray, List.getElem?_cons_zero, List.getElem?_cons_succ]; rfl)
            go_simp
            refine hK.out _ _ (by first | exact ⟨hd0, hP0, hP1⟩ | exact ⟨hA0, hAP0, hAP1⟩ | exact ⟨hB0, hBP0, hBP1⟩ | exact ⟨hC0, hCP0, hCP1⟩ | exact ⟨hD0, hDP0, hDP1⟩) (fun hHeld => ?_)
            clear hK K
            try simp only [Act.put, List.setIfInBounds_toArray, List.set_cons_zero, List.set_cons_succ]
            refine wpAnyH_take (i := 21) (oi := ?oiz27) (v := ?vz27) ?hiz27 ?haz27 ?hbz27 ?hcz27 ?hqz27 ?hyz27 (by assumption) ?restz27
            case hiz27 => (simp only [List.getElem?_toArray, List.getElem?_cons_zero, List.getElem?_cons_succ]; rfl)
            case haz27 => kernel_rfl
            case hbz27 => kernel_rfl
            case hcz27 => kernel_rfl
            case hyz27 => exact Or.inl ⟨by rfl, by (intro w hSw; (try dsimp only at hSw); go_split_ands; go_simp; (try with_reducible rfl))⟩
            case hqz27 => exact fun _ _ _ h => h
            try simp only [Act.put, List.setIfInBounds_toArray, List.set_cons_zero, List.set_cons_succ]
            refine wpAnyH_ready (rs := [11]) (by kernel_rfl) (by simp) ?_
            refine AllReadyH.cons (o := ?oiz28w0) ?hiz28w0 (fun K hK => ?stepz28w0) ?morez28w0
            case hiz28w0 => (simp only [List.getElem?_toArray, List.getElem?_cons_zero, List.getElem?_cons_succ]; rfl)
            refine step_append_own rfl (.tmp 42) (.tmp 46) 22 rfl wd.heap.size 5 i8 (.int .u8 0) 1 1 Try.underlying22 hi8 hz8 hs8 hb8 rfl (by decide) (.slice (some ⟨wd.heap.size, 0, none⟩) 0 0) 0 [] (by simp [Act.eval, Act.put]) HownA.out ⟨gv, 0, none⟩ 128 cv (u8s (p.2.take 128)) (by simp [Act.eval, Act.put]) HlenA.out HnewsA.out (one_u8s _) (by simp only [maxLen]; omega) (by omega) (by show wd.heap.size ≤ (wd.alloc _).heap.size; rw [nblk_alloc]; exact Nat.le_succ _) ?_
            intro v1 w1 hown1 hg1
            have hB := put_below hg1
            have hB0 := (hB.cell (p := ⟨b, 0, none⟩) hbl).trans hd0
            have hBP0 := (hB.cell (p := ⟨wr.heap.size, 0, none⟩) hpl).trans hP0
            have hBP1 := (hB.cell (p := ⟨wr.heap.size, 1, none⟩) hpl).trans hP1
            have hkqB := (hB.cell (p := ⟨kb, q, none⟩) hkl).trans hkq
            have HB := Lib.hid hB
            have HnewsB := Lib.hid (show ∀ (j : Nat) (x : Value), (u8s (row.drop 128))[j]? = some x → w1.cell? (adx.add j) = some x by
              intro j x hj
              have hjl := (List.getElem?_eq_some_iff.1 hj).1
              rw [HlenB.out] at hjl
              rw [Hadx.out, if_neg (by omega)]
              exact BRow.part (k := 128) (hbko.kept (hB.block go hgol)) j x hj)
            have Hown1 := Lib.hid (show w1.ownsRow wd.heap.size 5 1 v1 128 (u8s (p.2.take 128)) by simpa using hown1)
            clear hown1 hg1 hB
            refine hK.out _ _ (by first | exact ⟨hd0, hP0, hP1⟩ | exact ⟨hA0, hAP0, hAP1⟩ | exact ⟨hB0, hBP0, hBP1⟩ | exact ⟨hC0, hCP0, hCP1⟩ | exact ⟨hD0, hDP0, hDP1⟩) (fun hHeld => ?_)
            clear hK K
            try simp only [Act.put, List.setIfInBounds_toArray, List.set_cons_zero, List.set_cons_succ]
            refine wpAnyH_ready (rs := [22]) (by kernel_rfl) (by simp) ?_
            refine AllReadyH.cons (o := ?oiz29w0) ?hiz29w0 (fun K hK => ?stepz29w0) ?morez29w0
            case hiz29w0 => (simp only [List.getElem?_toArray, List.getElem?_cons_zero, List.getElem?_cons_succ]; rfl)
            refine step_append_own rfl (.tmp 47) (.tmp 57) 22 rfl wd.heap.size 5 i8 (.int .u8 0) 1 1 Try.underlying22 hi8 hz8 hs8 hb8 rfl (by decide) v1 128 (u8s (p.2.take 128)) (by simp [Act.eval, Act.put]) Hown1.out adx (128 - 128) (co - 128) (u8s (row.drop 128)) (by simp [Act.eval, Act.put]; rw [Hadx.out]; split <;> (first | rfl | (split <;> (first | rfl | (exfalso; omega))))) HlenB.out HnewsB.out (one_u8s _) (by simp only [maxLen]; omega) (by omega) HB.out.size ?_
            intro v2 w2 hown2 hg2
            have hB2 := HB.out.grown hg2 HB.out.size (fun k hk => (Hown1.out.lt k hk).1)
            obtain ⟨A2, c2, rfl, _⟩ := own_form hown2
            have hC0 := (hB2.cell (p := ⟨b, 0, none⟩) hbl).trans hd0
            have hCP0 := (hB2.cell (p := ⟨wr.heap.size, 0, none⟩) hpl).trans hP0
            have hCP1 := (hB2.cell (p := ⟨wr.heap.size, 1, none⟩) hpl).trans hP1
            have hkqC := (hB2.cell (p := ⟨kb, q, none⟩) hkl).trans hkq
            have hkfC : w2.frozen? ⟨kb, q, none⟩ = false := (hB2.frozen (p := ⟨kb, q, none⟩) hkl).trans hfq
            have hnbk : b ≠ kb := Hd.out.head.ne Hd.out.kept (by decide)
            have hnpk : wr.heap.size ≠ kb := hPd.ne Hd.out.kept (by decide)
            have hD0 := (World.cell?_setCell_other w2 ⟨kb, q, none⟩ ⟨b, 0, none⟩ (.slice A2 (128 + (128 - 128)) c2) (fun e => by cases e; exact hnbk rfl)).trans hC0
            have hDP0 := (World.cell?_setCell_other w2 ⟨kb, q, none⟩ ⟨wr.heap.size, 0, none⟩ (.slice A2 (128 + (128 - 128)) c2) (fun e => hnpk (congrArg Addr.block e).symm)).trans hCP0
            have hDP1 := (World.cell?_setCell_other w2 ⟨kb, q, none⟩ ⟨wr.heap.size, 1, none⟩ (.slice A2 (128 + (128 - 128)) c2) (fun e => hnpk (congrArg Addr.block e).symm)).trans hCP1
            have Hend := Lib.hid (torn_end Hd.out HOd.out.size Hfin.out hql hB2 (row := p.2.take 128 ++ row.drop 128) (by simpa [u8s] using hown2) (by omega) (byte128_torn Hwt.out.2.2 Hor.out (by omega)).1)
            have HB2 := Lib.hid hB2
            clear hown2 hg2 hB2
            refine hK.out _ _ (by first | exact ⟨hd0, hP0, hP1⟩ | exact ⟨hA0, hAP0, hAP1⟩ | exact ⟨hB0, hBP0, hBP1⟩ | exact ⟨hC0, hCP0, hCP1⟩ | exact ⟨hD0, hDP0, hDP1⟩) (fun hHeld => ?_)
            clear hK K
            try simp only [Act.put, List.setIfInBounds_toArray, List.set_cons_zero, List.set_cons_succ]
            refine wpAnyH_take (i := 23) (oi := ?oiz30) (v := ?vz30) ?hiz30 ?haz30 ?hbz30 ?hcz30 ?hqz30 ?hyz30 (by assumption) ?restz30
            case hiz30 => (simp only [List.getElem?_toArray, List.getElem?_cons_zero, List.getElem?_cons_succ]; rfl)
            case haz30 => kernel_rfl
            case hbz30 => kernel_rfl
            case hcz30 => kernel_rfl
            case hyz30 => exact Or.inl ⟨by rfl, by (intro w hSw; (try dsimp only at hSw); go_split_ands; go_simp; (try with_reducible rfl))⟩
            case hqz30 => exact fun _ _ _ h => h
            try simp only [Act.put, List.setIfInBounds_toArray, List.set_cons_zero, List.set_cons_succ]
            refine wpAnyH_ready (rs := [24]) (by kernel_rfl) (by simp) ?_
            refine AllReadyH.cons (o := ?oiz31w0) ?hiz31w0 (fun K hK => ?stepz31w0) ?morez31w0
            case hiz31w0 => (simp only [List.getElem?_toArray, List.getElem?_cons_zero, List.getElem?_cons_succ]; rfl)
            go_simp
            refine hK.out _ _ (by first | exact ⟨hd0, hP0, hP1⟩ | exact ⟨hA0, hAP0, hAP1⟩ | exact ⟨hB0, hBP0, hBP1⟩ | exact ⟨hC0, hCP0, hCP1⟩ | exact ⟨hD0, hDP0, hDP1⟩) (fun hHeld => ?_)
            clear hK K
            try simp only [Act.put, List.setIfInBounds_toArray, List.set_cons_zero, List.set_cons_succ]
            refine wpAnyH_done (by kernel_rfl) ?_ _
            rotate_left
            exact AllReadyH.nil
            exact AllReadyH.nil
            exact AllReadyH.nil
            exact AllReadyH.nil
            refine AllReadyH.cons (o := ?oiz19w1) ?hiz19w1 (fun K hK => ?stepz19w1) ?morez19w1
            case hiz19w1 => (simp only [List.getElem?_toArray, List.getElem?_cons_zero, List.getElem?_cons_succ]; rfl)
            go_simp
            refine hK.out _ _ (by first | exact ⟨hd0, hP0, hP1⟩ | exact ⟨hA0, hAP0, hAP1⟩ | exact ⟨hB0, hBP0, hBP1⟩ | exact ⟨hC0, hCP0, hCP1⟩ | exact ⟨hD0, hDP0, hDP1⟩) (fun hHeld => ?_)
            clear hK K
            try simp only [Act.put, List.setIfInBounds_toArray, List.set_cons_zero, List.set_cons_succ]
            refine wpAnyH_take (i := 21) (oi := ?oiz33) (v := ?vz33) ?hiz33 ?haz33 ?hbz33 ?hcz33 ?hqz33 ?hyz33 (by assumption) ?restz33
            case hiz33 => (simp only [List.getElem?_toArray, List.getElem?_cons_zero, List.getElem?_cons_succ]; rfl)
            case haz33 => kernel_rfl
            case hbz33 => kernel_rfl
            case hcz33 => kernel_rfl
            case hyz33 => exact Or.inl ⟨by rfl, by (intro w hSw; (try dsimp only at hSw); go_split_ands; go_simp; (try with_reducible rfl))⟩
            case hqz33 => exact fun _ _ _ h => h
            try simp only [Act.put, List.setIfInBounds_toArray, List.set_cons_zero, List.set_cons_succ]
            refine wpAnyH_ready (rs := [6]) (by kernel_rfl) (by simp) ?_
            refine AllReadyH.cons (o := ?oiz34w0) ?hiz34w0 (fun K hK => ?stepz34w0) ?morez34w0
            case hiz34w0 => (simp only [List.getElem?_toArray, List.getElem?_cons_zero, List.getElem?_cons_succ]; rfl)
            go_simp
            refine hK.out _ _ (by first | exact ⟨hd0, hP0, hP1⟩ | exact ⟨hA0, hAP0, hAP1⟩ | exact ⟨hB0, hBP0, hBP1⟩ | exact ⟨hC0, hCP0, hCP1⟩ | exact ⟨hD0, hDP0, hDP1⟩) (fun hHeld => ?_)
            clear hK K
            try simp only [Act.put, List.setIfInBounds_toArray, List.set_cons_zero, List.set_cons_succ]
            refine wpAnyH_ready (rs := [11]) (by kernel_rfl) (by simp) ?_
            refine AllReadyH.cons (o := ?oiz35w0) ?hiz35w0 (fun K hK => ?stepz35w0) ?morez35w0
            case hiz35w0 => (simp only [List.getElem?_toArray, List.getElem?_cons_zero, List.getElem?_cons_succ]; rfl)
            refine step_append_own rfl (.tmp 42) (.tmp 46) 22 rfl wd.heap.size 5 i8 (.int .u8 0) 1 1 Try.underlying22 hi8 hz8 hs8 hb8 rfl (by decide) (.slice (some ⟨wd.heap.size, 0, none⟩) 0 0) 0 [] (by simp [Act.eval, Act.put]) HownA.out ⟨gv, 0, none⟩ 128 cv (u8s (p.2.take 128)) (by simp [Act.eval, Act.put]) HlenA.out HnewsA.out (one_u8s _) (by simp only [maxLen]; omega) (by omega) (by show wd.heap.size ≤ (wd.alloc _).heap.size; rw [nblk_alloc]; exact Nat.le_succ _) ?_
            intro v1 w1 hown1 hg1
            have hB := put_below hg1
            have hB0 := (hB.cell (p := ⟨b, 0, none⟩) hbl).trans hd0
            have hBP0 := (hB.cell (p := ⟨wr.heap.size, 0, none⟩) hpl).trans hP0
            have hBP1 := (hB.cell (p := ⟨wr.heap.size, 1, none⟩) hpl).trans hP1
            have hkqB := (hB.cell (p := ⟨kb, q, none⟩) hkl).trans hkq
            have HB := Lib.hid hB
            have HnewsB := Lib.hid (show ∀ (j : Nat) (x : Value), (u8s (row.drop 128))[j]? = some x → w1.cell? (adx.add j) = some x by
              intro j x hj
              have hjl := (List.getElem?_eq_some_iff.1 hj).1
              rw [HlenB.out] at hjl
              rw [Hadx.out, if_neg (by omega)]
              exact BRow.part (k := 128) (hbko.kept (hB.block go hgol)) j x hj)
            have Hown1 := Lib.hid (show w1.ownsRow wd.heap.size 5 1 v1 128 (u8s (p.2.take 128)) by simpa using hown1)
            clear hown1 hg1 hB
            refine hK.out _ _ (by first | exact ⟨hd0, hP0, hP1⟩ | exact ⟨hA0, hAP0, hAP1⟩ | exact ⟨hB0, hBP0, hBP1⟩ | exact ⟨hC0, hCP0, hCP1⟩ | exact ⟨hD0, hDP0, hDP1⟩) (fun hHeld => ?_)
            clear hK K
            try simp only [Act.put, List.setIfInBounds_toArray, List.set_cons_zero, List.set_cons_succ]
            refine wpAnyH_ready (rs := [22]) (by kernel_rfl) (by simp) ?_
            refine AllReadyH.cons (o := ?oiz36w0) ?hiz36w0 (fun K hK => ?stepz36w0) ?morez36w0
            case hiz36w0 => (simp only [List.getElem?_toArray, List.getElem?_cons_zero, List.getElem?_cons_succ]; rfl)
            refine step_append_own rfl (.tmp 47) (.tmp 57) 22 rfl wd.heap.size 5 i8 (.int .u8 0) 1 1 Try.underlying22 hi8 hz8 hs8 hb8 rfl (by decide) v1 128 (u8s (p.2.take 128)) (by simp [Act.eval, Act.put]) Hown1.out adx (128 - 128) (co - 128) (u8s (row.drop 128)) (by simp [Act.eval, Act.put]; rw [Hadx.out]; split <;> (first | rfl | (split <;> (first | rfl | (exfalso; omega))))) HlenB.out HnewsB.out (one_u8s _) (by simp only [maxLen]; omega) (by omega) HB.out.size ?_
            intro v2 w2 hown2 hg2
            have hB2 := HB.out.grown hg2 HB.out.size (fun k hk => (Hown1.out.lt k hk).1)
            obtain ⟨A2, c2, rfl, _⟩ := own_form hown2
            have hC0 := (hB2.cell (p := ⟨b, 0, none⟩) hbl).trans hd0
            have hCP0 := (hB2.cell (p := ⟨wr.heap.size, 0, none⟩) hpl).trans hP0
            have hCP1 := (hB2.cell (p := ⟨wr.heap.size, 1, none⟩) hpl).trans hP1
            have hkqC := (hB2.cell (p := ⟨kb, q, none⟩) hkl).trans hkq
            have hkfC : w2.frozen? ⟨kb, q, none⟩ = false := (hB2.frozen (p := ⟨kb, q, none⟩) hkl).trans hfq
            have hnbk : b ≠ kb := Hd.out.head.ne Hd.out.kept (by decide)
            have hnpk : wr.heap.size ≠ kb := hPd.ne Hd.out.kept (by decide)
            have hD0 := (World.cell?_setCell_other w2 ⟨kb, q, none⟩ ⟨b, 0, none⟩ (.slice A2 (128 + (128 - 128)) c2) (fun e => by cases e; exact hnbk rfl)).trans hC0
            have hDP0 := (World.cell?_setCell_other w2 ⟨kb, q, none⟩ ⟨wr.heap.size, 0, none⟩ (.slice A2 (128 + (128 - 128)) c2) (fun e => hnpk (congrArg Addr.block e).symm)).trans hCP0
            have hDP1 := (World.cell?_setCell_other w2 ⟨kb, q, none⟩ ⟨wr.heap.size, 1, none⟩ (.slice A2 (128 + (128 - 128)) c2) (fun e => hnpk (congrArg Addr.block e).symm)).trans hCP1
            have Hend := Lib.hid (torn_end Hd.out HOd.out.size Hfin.out hql hB2 (row := p.2.take 128 ++ row.drop 128) (by simpa [u8s] using hown2) (by omega) (byte128_torn Hwt.out.2.2 Hor.out (by omega)).1)
            have HB2 := Lib.hid hB2
            clear hown2 hg2 hB2
            refine hK.out _ _ (by first | exact ⟨hd0, hP0, hP1⟩ | exact ⟨hA0, hAP0, hAP1⟩ | exact ⟨hB0, hBP0, hBP1⟩ | exact ⟨hC0, hCP0, hCP1⟩ | exact ⟨hD0, hDP0, hDP1⟩) (fun hHeld => ?_)
            clear hK K
            try simp only [Act.put, List.setIfInBounds_toArray, List.set_cons_zero, List.set_cons_succ]
            refine wpAnyH_take (i := 23) (oi := ?oiz37) (v := ?vz37) ?hiz37 ?haz37 ?hbz37 ?hcz37 ?hqz37 ?hyz37 (by assumption) ?restz37
            case hiz37 => (simp only [List.getElem?_toArray, List.getElem?_cons_zero, List.getElem?_cons_succ]; rfl)
            case haz37 => kernel_rfl
            case hbz37 => kernel_rfl
            case hcz37 => kernel_rfl
            case hyz37 => exact Or.inl ⟨by rfl, by (intro w hSw; (try dsimp only at hSw); go_split_ands; go_simp; (try with_reducible rfl))⟩
            case hqz37 => exact fun _ _ _ h => h
            try simp only [Act.put, List.setIfInBounds_toArray, List.set_cons_zero, List.set_cons_succ]
            refine wpAnyH_ready (rs := [24]) (by kernel_rfl) (by simp) ?_
            refine AllReadyH.cons (o := ?oiz38w0) ?hiz38w0 (fun K hK => ?stepz38w0) ?morez38w0
            case hiz38w0 => (simp only [List.getElem?_toArray, List.getElem?_cons_zero, List.getElem?_cons_succ]; rfl)
            go_simp
            refine hK.out _ _ (by first | exact ⟨hd0, hP0, hP1⟩ | exact ⟨hA0, hAP0, hAP1⟩ | exact ⟨hB0, hBP0, hBP1⟩ | exact ⟨hC0, hCP0, hCP1⟩ | exact ⟨hD0, hDP0, hDP1⟩) (fun hHeld => ?_)
            clear hK K
            try simp only [Act.put, List.setIfInBounds_toArray, List.set_cons_zero, List.set_cons_succ]
            refine wpAnyH_done (by kernel_rfl) ?_ _
            rotate_left
            exact AllReadyH.nil
            exact AllReadyH.nil
            exact AllReadyH.nil
            exact AllReadyH.nil
            exact AllReadyH.nil
            all_goals
              generalize (if co = 128 then some (⟨go, 0, none⟩ : Addr) else some ⟨go, 128, none⟩) = az
              obtain ⟨w3, hw3⟩ : ∃ w3, w3 = w2.setCell ⟨kb, q, none⟩ (.slice A2 (128 + (128 - 128)) c2) := ⟨_, rfl⟩
              have HE := Hend.out
              rw [← hw3] at HE ⊢
              have hO3 : Only F w w3 := by
                rw [hw3]
                refine (HOd.out.trans (Only.of_below (F := F) HB2.out) (fun _ _ h => h)).set ?_ _
                rcases Hd.out.fk with hk | hk
                · exact Or.inr hk
                · exact Or.inl hk.1
              have hib : w3.cell? ⟨b, 1, none⟩ = some (.slice (some ⟨ib, 0, none⟩) K ci) := by
                have h5 := HE.head.cell (i := 1) rfl
                rw [h5]
                show some (Value.slice _ ((S.crashTo cs j).kept.set q _).length _) = _
                rw [List.length_set, HK.out]
              have hN3 : w3.cell? ⟨wr.heap.size, 0, none⟩ = some (.int .i64 (q : Int)) := by rw [hw3]; exact hDP0
              obtain ⟨uo, huo⟩ : ∃ u, (S.crashTo cs j).inn[q]? = some u := ⟨_, List.getElem?_eq_getElem (by rw [Hwf.out.ninn]; exact hql)⟩
              have hco' : w3.cell? ⟨ib, q, none⟩ = some (.bool uo) := HE.inn.cell (by rw [List.getElem?_append_left (by rw [List.length_map]; show q < (S.crashTo cs j).inn.length; rw [Hwf.out.ninn]; exact hql), List.getElem?_map]; show (S.crashTo cs j).inn[q]?.map _ = _; rw [huo]; rfl)
              have hfo' := HE.inn.frozen q
              have h2 := HE.upInn (by show (S.crashTo cs j).inn.length = ((S.crashTo cs j).kept.set q _).length; rw [List.length_set, Hwf.out.ninn]) q (by show q < ((S.crashTo cs j).kept.set q _).length; rw [List.length_set]; exact hql) true
              have hO4 : Only F w (w3.setCell ⟨ib, q, none⟩ (.bool true)) := by
                refine hO3.set ?_ _
                rcases Hd.out.fi with hk | hk
                · exact Or.inr hk
                · exact Or.inl hk.1
              have hfin : RD (More F w (w3.setCell ⟨ib, q, none⟩ (.bool true))) (w3.setCell ⟨ib, q, none⟩ (.bool true)) b (S.crashTo cs (j + 1)) := by
                have h0 := Hwf.out.crash1 (p := p) (c := 128) (List.mem_of_getElem? Hp.out) (by omega)
                have e := crash1_pos (S.crashTo cs j) p (c := 128) (by omega) Hqn.out
                rw [e] at h0
                rw [Hnext.out, Hcut.out, e]
                rw [← Hrow.out] at h0 ⊢
                exact (RD.of h0 h2).mono (fun k _ hf => by
                  rcases hf with hf | hf
                  · exact Or.inl hf
                  · exact Or.inr ⟨hf.1, by rw [nblk_setCell, hw3, nblk_setCell]; exact hf.2⟩) (fun k hk => by
                  rcases hk with hk | hk
                  · have := Hfin.out k hk; have := hO4.size; omega
                  · exact hk.2)
              have Hfin2 := Lib.hid hfin
              have HO4 := Lib.hid hO4
              obtain ⟨w5, hw5⟩ : ∃ w5, w5 = w3.setCell ⟨ib, q, none⟩ (.bool true) := ⟨_, rfl⟩
              rw [← hw5] at Hfin2 HO4
              have Hw5 := Lib.hid hw5
              clear hfin hO4 hO3 h2 hw5 hw3 huo HE hd0 hd1 hP0 hP1 hkq hfq hA0 hAP0 hAP1 hkqA hB0 hBP0 hBP1 hkqB hC0 hCP0 hCP1 hkqC hkfC hD0 hDP0 hDP1
              go_wp2
              go_region
              all_goals
                rw [← Hw5.out]
                have hfin2 := Hfin2.out.keep (w' := w5.drew) (Nat.le_refl _) (fun _ _ => rfl)
                have hO5 := HO4.out.drew
                have hfin3 : RD (More F w w5.drew) w5.drew b (S.crashTo cs (j + 1)) := hfin2
                clear Hw5 hfin2
                generalize w5.drew = w6 at *
                go_wp2
                go_roundw
                case rel => exact ⟨j + 1, by omega, by go_num, hfin3, hO5⟩
                case measure => simp [intOf]; omega
          · have hcut2 : cutAt cs j = u := by rw [hcut]; omega
            have Hcut := Lib.hid hcut2
            have Hnext := Lib.hid hnext
            have Hp := Lib.hid hp'
            have Hq := Lib.hid hq
            have Hqn := Lib.hid hqn
            have Hwt := Lib.hid hwt
            clear hnext hq hqn hv hwt hp hp' hpn hw hcut hu hcut2
            go_wp2
            rw [← Hwd.out]
            obtain ⟨vo, hvo, hbo⟩ := Hd.out.krow q ((S.crashTo cs j).kept.getD q []) (by simp [List.getD, hql])
            have hor : Byte128 ((S.crashTo cs j).kept.getD q []) := Hwf.out.rows _ (by simp [List.getD, hql])
            obtain ⟨row, hrow⟩ : ∃ r, r = (S.crashTo cs j).kept.getD q [] := ⟨_, rfl⟩
            rw [← hrow] at hbo hor
            obtain ⟨go, co, spo, rfl, hgo, hco, hbko, hspo⟩ := hbo
            rw [hor.1] at hco hspo
            obtain ⟨K, hK⟩ : ∃ K, K = (S.crashTo cs j).kept.length := ⟨_, rfl⟩
            have hqK : (q : Int) < (K : Int) := by omega
            have hd0 : wd.cell? ⟨b, 0, none⟩ = some (.slice (some ⟨kb, 0, none⟩) K ck) := by rw [hK]; exact Hd.out.head.cell (i := 0) rfl
            have hd1 : wd.cell? ⟨b, 1, none⟩ = some (.slice (some ⟨ib, 0, none⟩) K ci) := by rw [hK]; exact Hd.out.head.cell (i := 1) rfl
            have hP0 : wd.cell? ⟨wr.heap.size, 0, none⟩ = some (.int .i64 (q : Int)) := hPd.cell rfl
            have hP1 : wd.cell? ⟨wr.heap.size, 1, none⟩ = some (.slice (some ⟨gv, 0, none⟩) 128 cv) := hPd.cell rfl
            have hkq : wd.cell? ⟨kb, q, none⟩ = some (.slice (some ⟨go, 0, none⟩) 128 co) := by
              have hko := Hd.out.kept.cell (i := q) (v := .slice (some ⟨go, 0, none⟩) row.length co) (by rw [List.getElem?_append_left (by rw [Hd.out.kvn]; exact hql)]; exact hvo)
              rw [hor.1] at hko; exact hko
            have hfq := Hd.out.kept.frozen q
            have Hrow := Lib.hid hrow
            have HK := Lib.hid hK
            have Hor := Lib.hid hor
            clear hrow hK hor hvo
            obtain ⟨adx, hadx⟩ : ∃ adx : Addr, adx = (if co = u then ⟨go, 0, none⟩ else ⟨go, u, none⟩) := ⟨_, rfl⟩
            have Hadx := Lib.hid hadx
            clear hadx
            have hz0 : (0 : Int) ≤ (u : Int) := by omega
            have hz1 : (u : Int) ≤ (cv : Int) := by omega
            have hz2 : (u : Int) ≤ 128 := by omega
            have hz3 : (u : Int) ≤ (co : Int) := by omega
            have hbl : b < wd.heap.size := Hd.out.head.lt
            have hkl : kb < wd.heap.size := Hd.out.kept.lt
            have hpl : wr.heap.size < wd.heap.size := hPd.lt
            have hgol : go < wd.heap.size := hbko.lt
            have hgvl : gv < wr.heap.size := hbk.lt
            have HownA := Lib.hid ((World.ownsRow_made (base := wd.heap.size) (e := 5) (size := 1) wd #[] 0 (Nat.le_refl _) (by decide) rfl).drew)
            have hbkA : Blk ((wd.alloc (.cells #[] 5)).drew) gv 5 (u8s p.2 ++ spv) := (((hbk.kept (hbelow gv hgvl)).alloc (.cells #[] 5)).drew)
            have HnewsA := Lib.hid (BRow.first (k := u) hbkA)
            have HlenA := Lib.hid (show (u8s (p.2.take u)).length = u * 1 by simp [Hwt.out.2.2.1]; try omega)
            have HlenB := Lib.hid (show (u8s (row.drop u)).length = (128 - u) * 1 by simp [Hor.out.1])
            have hA0 : ((wd.alloc (.cells #[] 5)).drew).cell? ⟨b, 0, none⟩ = some (.slice (some ⟨kb, 0, none⟩) K ck) := (World.cell?_alloc_lt _ _ _ hbl).trans hd0
            have hAP0 : ((wd.alloc (.cells #[] 5)).drew).cell? ⟨wr.heap.size, 0, none⟩ = some (.int .i64 (q : Int)) := (World.cell?_alloc_lt _ _ _ hpl).trans hP0
            have hAP1 : ((wd.alloc (.cells #[] 5)).drew).cell? ⟨wr.heap.size, 1, none⟩ = some (.slice (some ⟨gv, 0, none⟩) 128 cv) := (World.cell?_alloc_lt _ _ _ hpl).trans hP1
            have hkqA : ((wd.alloc (.cells #[] 5)).drew).cell? ⟨kb, q, none⟩ = some (.slice (some ⟨go, 0, none⟩) 128 co) := (World.cell?_alloc_lt _ _ _ hkl).trans hkq
            refine wp_region_held_drew (S := fun w' => w'.cell? ⟨b, 0, none⟩ = some (.slice (some ⟨kb, 0, none⟩) K ck) ∧ w'.cell? ⟨wr.heap.size, 0, none⟩ = some (.int .i64 (q : Int)) ∧ w'.cell? ⟨wr.heap.size, 1, none⟩ = some (.slice (some ⟨gv, 0, none⟩) 128 cv)) (by kernel_rfl) (by first | exact ⟨hd0, hP0, hP1⟩ | exact ⟨hA0, hAP0, hAP1⟩ | exact ⟨hB0, hBP0, hBP1⟩ | exact ⟨hC0, hCP0, hCP1⟩ | exact ⟨hD0, hDP0, hDP1⟩) (fun hHeld => ?_)
            refine wpAnyH_take (i := 0) (oi := ?oiz40) (v := ?vz40) ?hiz40 ?haz40 ?hbz40 ?hcz40 ?hqz40 ?hyz40 (by assumption) ?restz40
            case hiz40 => (simp only [List.getElem?_toArray, List.getElem?_cons_zero, List.getElem?_cons_succ]; rfl)
            case haz40 => kernel_rfl
            case hbz40 => kernel_rfl
            case hcz40 => kernel_rfl
            case hyz40 => exact Or.inl ⟨by rfl, by (intro w hSw; (try dsimp only at hSw); go_split_ands; go_simp; (try with_reducible rfl))⟩
            case hqz40 => exact fun _ _ _ h => h
            try simp only [Act.put, List.setIfInBounds_toArray, List.set_cons_zero, List.set_cons_succ]
            refine wpAnyH_take (i := 1) (oi := ?oiz41) (v := ?vz41) ?hiz41 ?haz41 ?hbz41 ?hcz41 ?hqz41 ?hyz41 (by assumption) ?restz41
            case hiz41 => (simp only [List.getElem?_toArray, List.getElem?_cons_zero, List.getElem?_cons_succ]; rfl)
            case haz41 => kernel_rfl
            case hbz41 => kernel_rfl
            case hcz41 => kernel_rfl
            case hyz41 => exact Or.inl ⟨by rfl, by (intro w hSw; (try dsimp only at hSw); go_split_ands; go_simp; (try with_reducible rfl))⟩
            case hqz41 => exact fun _ _ _ h => h
            try simp only [Act.put, List.setIfInBounds_toArray, List.set_cons_zero, List.set_cons_succ]
            refine wpAnyH_take (i := 2) (oi := ?oiz42) (v := ?vz42) ?hiz42 ?haz42 ?hbz42 ?hcz42 ?hqz42 ?hyz42 (by assumption) ?restz42
            case hiz42 => (simp only [List.getElem?_toArray, List.getElem?_cons_zero, List.getElem?_cons_succ]; rfl)
            case haz42 => kernel_rfl
            case hbz42 => kernel_rfl
            case hcz42 => kernel_rfl
            case hyz42 => exact Or.inl ⟨by rfl, by (intro w hSw; (try dsimp only at hSw); go_split_ands; go_simp; (try with_reducible rfl))⟩
            case hqz42 => exact fun _ _ _ h => h
            try simp only [Act.put, List.setIfInBounds_toArray, List.set_cons_zero, List.set_cons_succ]
            refine wpAnyH_take (i := 3) (oi := ?oiz43) (v := ?vz43) ?hiz43 ?haz43 ?hbz43 ?hcz43 ?hqz43 ?hyz43 (by assumption) ?restz43
            case hiz43 => (simp only [List.getElem?_toArray, List.getElem?_cons_zero, List.getElem?_cons_succ]; rfl)
            case haz43 => kernel_rfl
            case hbz43 => kernel_rfl
            case hcz43 => kernel_rfl
            case hyz43 => exact Or.inl ⟨by rfl, by (intro w hSw; (try dsimp only at hSw); go_split_ands; go_simp; (try with_reducible rfl))⟩
            case hqz43 => exact fun _ _ _ h => h
            try simp only [Act.put, List.setIfInBounds_toArray, List.set_cons_zero, List.set_cons_succ]
            refine wpAnyH_take (i := 4) (oi := ?oiz44) (v := ?vz44) ?hiz44 ?haz44 ?hbz44 ?hcz44 ?hqz44 ?hyz44 (by assumption) ?restz44
            case hiz44 => (simp only [List.getElem?_toArray, List.getElem?_cons_zero, List.getElem?_cons_succ]; rfl)
            case haz44 => kernel_rfl
            case hbz44 => kernel_rfl
            case hcz44 => kernel_rfl
            case hyz44 => exact Or.inl ⟨by rfl, by (intro w hSw; (try dsimp only at hSw); go_split_ands; go_simp; (try with_reducible rfl))⟩
            case hqz44 => exact fun _ _ _ h => h
            try simp only [Act.put, List.setIfInBounds_toArray, List.set_cons_zero, List.set_cons_succ]
            refine wpAnyH_take (i := 5) (oi := ?oiz45) (v := ?vz45) ?hiz45 ?haz45 ?hbz45 ?hcz45 ?hqz45 ?hyz45 (by assumption) ?restz45
            case hiz45 => (simp only [List.getElem?_toArray, List.getElem?_cons_zero, List.getElem?_cons_succ]; rfl)
            case haz45 => kernel_rfl
            case hbz45 => kernel_rfl
            case hcz45 => kernel_rfl
            case hyz45 => exact Or.inl ⟨by rfl, by (intro w hSw; (try dsimp only at hSw); go_split_ands; go_simp; (try with_reducible rfl))⟩
            case hqz45 => exact fun _ _ _ h => h
            try simp only [Act.put, List.setIfInBounds_toArray, List.set_cons_zero, List.set_cons_succ]
            refine wpAnyH_take (i := 7) (oi := ?oiz46) (v := ?vz46) ?hiz46 ?haz46 ?hbz46 ?hcz46 ?hqz46 ?hyz46 (by assumption) ?restz46
            case hiz46 => (simp only [List.getElem?_toArray, List.getElem?_cons_zero, List.getElem?_cons_succ]; rfl)
            case haz46 => kernel_rfl
            case hbz46 => kernel_rfl
            case hcz46 => kernel_rfl
            case hyz46 => exact Or.inl ⟨by rfl, by (intro w hSw; (try dsimp only at hSw); go_split_ands; go_simp; (try with_reducible rfl))⟩
            case hqz46 => exact fun _ _ _ h => h
            try simp only [Act.put, List.setIfInBounds_toArray, List.set_cons_zero, List.set_cons_succ]
            refine wpAnyH_take (i := 8) (oi := ?oiz47) (v := ?vz47) ?hiz47 ?haz47 ?hbz47 ?hcz47 ?hqz47 ?hyz47 (by assumption) ?restz47
            case hiz47 => (simp only [List.getElem?_toArray, List.getElem?_cons_zero, List.getElem?_cons_succ]; rfl)
            case haz47 => kernel_rfl
            case hbz47 => kernel_rfl
            case hcz47 => kernel_rfl
            case hyz47 => exact Or.inl ⟨by rfl, by (intro w hSw; (try dsimp only at hSw); go_split_ands; go_simp; (try with_reducible rfl))⟩
            case hqz47 => exact fun _ _ _ h => h
            try simp only [Act.put, List.setIfInBounds_toArray, List.set_cons_zero, List.set_cons_succ]
            refine wpAnyH_take (i := 9) (oi := ?oiz48) (v := ?vz48) ?hiz48 ?haz48 ?hbz48 ?hcz48 ?hqz48 ?hyz48 (by assumption) ?restz48
            case hiz48 => (simp only [List.getElem?_toArray, List.getElem?_cons_zero, List.getElem?_cons_succ]; rfl)
            case haz48 => kernel_rfl
            case hbz48 => kernel_rfl
            case hcz48 => kernel_rfl
            case hyz48 => exact Or.inl ⟨by rfl, by (intro w hSw; (try dsimp only at hSw); go_split_ands; go_simp; (try with_reducible rfl))⟩
            case hqz48 => exact fun _ _ _ h => h
            try simp only [Act.put, List.setIfInBounds_toArray, List.set_cons_zero, List.set_cons_succ]
            refine wpAnyH_take (i := 10) (oi := ?oiz49) (v := ?vz49) ?hiz49 ?haz49 ?hbz49 ?hcz49 ?hqz49 ?hyz49 (by assumption) ?restz49
            case hiz49 => (simp only [List.getElem?_toArray, List.getElem?_cons_zero, List.getElem?_cons_succ]; rfl)
            case haz49 => kernel_rfl
            case hbz49 => kernel_rfl
            case hcz49 => kernel_rfl
            case hyz49 => exact Or.inl ⟨by rfl, by (intro w hSw; (try dsimp only at hSw); go_split_ands; go_simp; (try with_reducible rfl))⟩
            case hqz49 => exact fun _ _ _ h => h
            try simp only [Act.put, List.setIfInBounds_toArray, List.set_cons_zero, List.set_cons_succ]
            refine wpAnyH_take (i := 12) (oi := ?oiz50) (v := ?vz50) ?hiz50 ?haz50 ?hbz50 ?hcz50 ?hqz50 ?hyz50 (by assumption) ?restz50
            case hiz50 => (simp only [List.getElem?_toArray, List.getElem?_cons_zero, List.getElem?_cons_succ]; rfl)
            case haz50 => kernel_rfl
            case hbz50 => kernel_rfl
            case hcz50 => kernel_rfl
            case hyz50 => exact Or.inl ⟨by rfl, by (intro w hSw; (try dsimp only at hSw); go_split_ands; go_simp; (try with_reducible rfl))⟩
            case hqz50 => exact fun _ _ _ h => h
            try simp only [Act.put, List.setIfInBounds_toArray, List.set_cons_zero, List.set_cons_succ]
            refine wpAnyH_take (i := 13) (oi := ?oiz51) (v := ?vz51) ?hiz51 ?haz51 ?hbz51 ?hcz51 ?hqz51 ?hyz51 (by assumption) ?restz51
            case hiz51 => (simp only [List.getElem?_toArray, List.getElem?_cons_zero, List.getElem?_cons_succ]; rfl)
            case haz51 => kernel_rfl
            case hbz51 => kernel_rfl
            case hcz51 => kernel_rfl
            case hyz51 => exact Or.inl ⟨by rfl, by (intro w hSw; (try dsimp only at hSw); go_split_ands; go_simp; (try with_reducible rfl))⟩
            case hqz51 => exact fun _ _ _ h => h
            try simp only [Act.put, List.setIfInBounds_toArray, List.set_cons_zero, List.set_cons_succ]
            refine wpAnyH_take (i := 14) (oi := ?oiz52) (v := ?vz52) ?hiz52 ?haz52 ?hbz52 ?hcz52 ?hqz52 ?hyz52 (by assumption) ?restz52
            case hiz52 => (simp only [List.getElem?_toArray, List.getElem?_cons_zero, List.getElem?_cons_succ]; rfl)
            case haz52 => kernel_rfl
            case hbz52 => kernel_rfl
            case hcz52 => kernel_rfl
            case hyz52 => exact Or.inl ⟨by rfl, by (intro w hSw; (try dsimp only at hSw); go_split_ands; go_simp; (try with_reducible rfl))⟩
            case hqz52 => exact fun _ _ _ h => h
            try simp only [Act.put, List.setIfInBounds_toArray, List.set_cons_zero, List.set_cons_succ]
            refine wpAnyH_take (i := 15) (oi := ?oiz53) (v := ?vz53) ?hiz53 ?haz53 ?hbz53 ?hcz53 ?hqz53 ?hyz53 (by assumption) ?restz53
            case hiz53 => (simp only [List.getElem?_toArray, List.getElem?_cons_zero, List.getElem?_cons_succ]; rfl)
            case haz53 => kernel_rfl
            case hbz53 => kernel_rfl
            case hcz53 => kernel_rfl
            case hyz53 => exact Or.inl ⟨by rfl, by (intro w hSw; (try dsimp only at hSw); go_split_ands; go_simp; (try with_reducible rfl))⟩
            case hqz53 => exact fun _ _ _ h => h
            try simp only [Act.put, List.setIfInBounds_toArray, List.set_cons_zero, List.set_cons_succ]
            refine wpAnyH_take (i := 16) (oi := ?oiz54) (v := ?vz54) ?hiz54 ?haz54 ?hbz54 ?hcz54 ?hqz54 ?hyz54 (by assumption) ?restz54
            case hiz54 => (simp only [List.getElem?_toArray, List.getElem?_cons_zero, List.getElem?_cons_succ]; rfl)
            case haz54 => kernel_rfl
            case hbz54 => kernel_rfl
            case hcz54 => kernel_rfl
            case hyz54 => exact Or.inl ⟨by rfl, by (intro w hSw; (try dsimp only at hSw); go_split_ands; go_simp; (try with_reducible rfl))⟩
            case hqz54 => exact fun _ _ _ h => h
            try simp only [Act.put, List.setIfInBounds_toArray, List.set_cons_zero, List.set_cons_succ]
            refine wpAnyH_take (i := 17) (oi := ?oiz55) (v := ?vz55) ?hiz55 ?haz55 ?hbz55 ?hcz55 ?hqz55 ?hyz55 (by assumption) ?restz55
            case hiz55 => (simp only [List.getElem?_toArray, List.getElem?_cons_zero, List.getElem?_cons_succ]; rfl)
            case haz55 => kernel_rfl
            case hbz55 => kernel_rfl
            case hcz55 => kernel_rfl
            case hyz55 => exact Or.inl ⟨by rfl, by (intro w hSw; (try dsimp only at hSw); go_split_ands; go_simp; (try with_reducible rfl))⟩
            case hqz55 => exact fun _ _ _ h => h
            try simp only [Act.put, List.setIfInBounds_toArray, List.set_cons_zero, List.set_cons_succ]
            refine wpAnyH_take (i := 18) (oi := ?oiz56) (v := ?vz56) ?hiz56 ?haz56 ?hbz56 ?hcz56 ?hqz56 ?hyz56 (by assumption) ?restz56
            case hiz56 => (simp only [List.getElem?_toArray, List.getElem?_cons_zero, List.getElem?_cons_succ]; rfl)
            case haz56 => kernel_rfl
            case hbz56 => kernel_rfl
            case hcz56 => kernel_rfl
            case hyz56 => exact Or.inl ⟨by rfl, by (intro w hSw; (try dsimp only at hSw); go_split_ands; go_simp; (try with_reducible rfl))⟩
            case hqz56 => exact fun _ _ _ h => h
            try simp only [Act.put, List.setIfInBounds_toArray, List.set_cons_zero, List.set_cons_succ]
            refine wpAnyH_take (i := 20) (oi := ?oiz57) (v := ?vz57) ?hiz57 ?haz57 ?hbz57 ?hcz57 ?hqz57 ?hyz57 (by assumption) ?restz57
            case hiz57 => (simp only [List.getElem?_toArray, List.getElem?_cons_zero, List.getElem?_cons_succ]; rfl)
            case haz57 => kernel_rfl
            case hbz57 => kernel_rfl
            case hcz57 => kernel_rfl
            case hyz57 => exact Or.inl ⟨by rfl, by (intro w hSw; (try dsimp only at hSw); go_split_ands; go_simp; (try with_reducible rfl))⟩
            case hqz57 => exact fun _ _ _ h => h
            try simp only [Act.put, List.setIfInBounds_toArray, List.set_cons_zero, List.set_cons_succ]
            refine wpAnyH_ready (rs := [6, 19]) (by kernel_rfl) (by simp) ?_
            refine AllReadyH.cons (o := ?oiz58w0) ?hiz58w0 (fun K hK => ?stepz58w0) ?morez58w0
            case hiz58w0 => (simp only [List.getElem?_toArray, List.getElem?_cons_zero, List.getElem?_cons_succ]; rfl)
            go_simp
            refine hK.out _ _ (by first | exact ⟨hd0, hP0, hP1⟩ | exact ⟨hA0, hAP0, hAP1⟩ | exact ⟨hB0, hBP0, hBP1⟩ | exact ⟨hC0, hCP0, hCP1⟩ | exact ⟨hD0, hDP0, hDP1⟩) (fun hHeld => ?_)
            clear hK K
            try simp only [Act.put, List.setIfInBounds_toArray, List.set_cons_zero, List.set_cons_succ]
            refine wpAnyH_ready (rs := [11, 19]) (by kernel_rfl) (by simp) ?_
            refine AllReadyH.cons (o := ?oiz59w0) ?hiz59w0 (fun K hK => ?stepz59w0) ?morez59w0
            case hiz59w0 => (simp only [List.getElem?_toArray, List.getElem?_cons_zero, List.getElem?_cons_succ]; rfl)
            refine step_append_own rfl (.tmp 42) (.tmp 46) 22 rfl wd.heap.size 5 i8 (.int .u8 0) 1 1 Try.underlying22 hi8 hz8 hs8 hb8 rfl (by decide) (.slice (some ⟨wd.heap.size, 0, none⟩) 0 0) 0 [] (by simp [Act.eval, Act.put]) HownA.out ⟨gv, 0, none⟩ u cv (u8s (p.2.take u)) (by simp [Act.eval, Act.put]) HlenA.out HnewsA.out (one_u8s _) (by simp only [maxLen]; omega) (by omega) (by show wd.heap.size ≤ (wd.alloc _).heap.size; rw [nblk_alloc]; exact Nat.le_succ _) ?_
            intro v1 w1 hown1 hg1
            have hB := put_below hg1
            have hB0 := (hB.cell (p := ⟨b, 0, none⟩) hbl).trans hd0
            have hBP0 := (hB.cell (p := ⟨wr.heap.size, 0, none⟩) hpl).trans hP0
            have hBP1 := (hB.cell (p := ⟨wr.heap.size, 1, none⟩) hpl).trans hP1
            have hkqB := (hB.cell (p := ⟨kb, q, none⟩) hkl).trans hkq
            have HB := Lib.hid hB
            have HnewsB := Lib.hid (show ∀ (j : Nat) (x : Value), (u8s (row.drop u))[j]? = some x → w1.cell? (adx.add j) = some x by
              intro j x hj
              have hjl := (List.getElem?_eq_some_iff.1 hj).1
              rw [HlenB.out] at hjl
              rw [Hadx.out, if_neg (by omega)]
              exact BRow.part (k := u) (hbko.kept (hB.block go hgol)) j x hj)
            have Hown1 := Lib.hid (show w1.ownsRow wd.heap.size 5 1 v1 u (u8s (p.2.take u)) by simpa using hown1)
            clear hown1 hg1 hB
            refine hK.out _ _ (by first | exact ⟨hd0, hP0, hP1⟩ | exact ⟨hA0, hAP0, hAP1⟩ | exact ⟨hB0, hBP0, hBP1⟩ | exact ⟨hC0, hCP0, hCP1⟩ | exact ⟨hD0, hDP0, hDP1⟩) (fun hHeld => ?_)
            clear hK K
            try simp only [Act.put, List.setIfInBounds_toArray, List.set_cons_zero, List.set_cons_succ]
            refine wpAnyH_ready (rs := [19]) (by kernel_rfl) (by simp) ?_
            refine AllReadyH.cons (o := ?oiz60w0) ?hiz60w0 (fun K hK => ?stepz60w0) ?morez60w0
            case hiz60w0 => (simp only [List.getElem?_toArray, List.getElem?_cons_zero, List.getElem?_cons_succ]; rfl)
            go_simp
            refine hK.out _ _ (by first | exact ⟨hd0, hP0, hP1⟩ | exact ⟨hA0, hAP0, hAP1⟩ | exact ⟨hB0, hBP0, hBP1⟩ | exact ⟨hC0, hCP0, hCP1⟩ | exact ⟨hD0, hDP0, hDP1⟩) (fun hHeld => ?_)
            clear hK K
            try simp only [Act.put, List.setIfInBounds_toArray, List.set_cons_zero, List.set_cons_succ]
            refine wpAnyH_take (i := 21) (oi := ?oiz61) (v := ?vz61) ?hiz61 ?haz61 ?hbz61 ?hcz61 ?hqz61 ?hyz61 (by assumption) ?restz61
            case hiz61 => (simp only [List.getElem?_toArray, List.getElem?_cons_zero, List.getElem?_cons_succ]; rfl)
            case haz61 => kernel_rfl
            case hbz61 => kernel_rfl
            case hcz61 => kernel_rfl
            case hyz61 => exact Or.inl ⟨by rfl, by (intro w hSw; (try dsimp only at hSw); go_split_ands; go_simp; (try with_reducible rfl))⟩
            case hqz61 => exact fun _ _ _ h => h
            try simp only [Act.put, List.setIfInBounds_toArray, List.set_cons_zero, List.set_cons_succ]
            refine wpAnyH_ready (rs := [22]) (by kernel_rfl) (by simp) ?_
            refine AllReadyH.cons (o := ?oiz62w0) ?hiz62w0 (fun K hK => ?stepz62w0) ?morez62w0
            case hiz62w0 => (simp only [List.getElem?_toArray, List.getElem?_cons_zero, List.getElem?_cons_succ]; rfl)
            refine step_append_own rfl (.tmp 47) (.tmp 57) 22 rfl wd.heap.size 5 i8 (.int .u8 0) 1 1 Try.underlying22 hi8 hz8 hs8 hb8 rfl (by decide) v1 u (u8s (p.2.take u)) (by simp [Act.eval, Act.put]) Hown1.out adx (128 - u) (co - u) (u8s (row.drop u)) (by simp [Act.eval, Act.put]; rw [Hadx.out]; split <;> (first | rfl | (split <;> (first | rfl | (exfalso; omega))))) HlenB.out HnewsB.out (one_u8s _) (by simp only [maxLen]; omega) (by omega) HB.out.size ?_
            intro v2 w2 hown2 hg2
            have hB2 := HB.out.grown hg2 HB.out.size (fun k hk => (Hown1.out.lt k hk).1)
            obtain ⟨A2, c2, rfl, _⟩ := own_form hown2
            have hC0 := (hB2.cell (p := ⟨b, 0, none⟩) hbl).trans hd0
            have hCP0 := (hB2.cell (p := ⟨wr.heap.size, 0, none⟩) hpl).trans hP0
            have hCP1 := (hB2.cell (p := ⟨wr.heap.size, 1, none⟩) hpl).trans hP1
            have hkqC := (hB2.cell (p := ⟨kb, q, none⟩) hkl).trans hkq
            have hkfC : w2.frozen? ⟨kb, q, none⟩ = false := (hB2.frozen (p := ⟨kb, q, none⟩) hkl).trans hfq
            have hnbk : b ≠ kb := Hd.out.head.ne Hd.out.kept (by decide)
            have hnpk : wr.heap.size ≠ kb := hPd.ne Hd.out.kept (by decide)
            have hD0 := (World.cell?_setCell_other w2 ⟨kb, q, none⟩ ⟨b, 0, none⟩ (.slice A2 (u + (128 - u)) c2) (fun e => by cases e; exact hnbk rfl)).trans hC0
            have hDP0 := (World.cell?_setCell_other w2 ⟨kb, q, none⟩ ⟨wr.heap.size, 0, none⟩ (.slice A2 (u + (128 - u)) c2) (fun e => hnpk (congrArg Addr.block e).symm)).trans hCP0
            have hDP1 := (World.cell?_setCell_other w2 ⟨kb, q, none⟩ ⟨wr.heap.size, 1, none⟩ (.slice A2 (u + (128 - u)) c2) (fun e => hnpk (congrArg Addr.block e).symm)).trans hCP1
            have Hend := Lib.hid (torn_end Hd.out HOd.out.size Hfin.out hql hB2 (row := p.2.take u ++ row.drop u) (by simpa [u8s] using hown2) (by omega) (byte128_torn Hwt.out.2.2 Hor.out (by omega)).1)
            have HB2 := Lib.hid hB2
            clear hown2 hg2 hB2
            refine hK.out _ _ (by first | exact ⟨hd0, hP0, hP1⟩ | exact ⟨hA0, hAP0, hAP1⟩ | exact ⟨hB0, hBP0, hBP1⟩ | exact ⟨hC0, hCP0, hCP1⟩ | exact ⟨hD0, hDP0, hDP1⟩) (fun hHeld => ?_)
            clear hK K
            try simp only [Act.put, List.setIfInBounds_toArray, List.set_cons_zero, List.set_cons_succ]
            refine wpAnyH_take (i := 23) (oi := ?oiz63) (v := ?vz63) ?hiz63 ?haz63 ?hbz63 ?hcz63 ?hqz63 ?hyz63 (by assumption) ?restz63
            case hiz63 => (simp only [List.getElem?_toArray, List.getElem?_cons_zero, List.getElem?_cons_succ]; rfl)
            case haz63 => kernel_rfl
            case hbz63 => kernel_rfl
            case hcz63 => kernel_rfl
            case hyz63 => exact Or.inl ⟨by rfl, by (intro w hSw; (try dsimp only at hSw); go_split_ands; go_simp; (try with_reducible rfl))⟩
            case hqz63 => exact fun _ _ _ h => h
            try simp only [Act.put, List.setIfInBounds_toArray, List.set_cons_zero, List.set_cons_succ]
            refine wpAnyH_ready (rs := [24]) (by kernel_rfl) (by simp) ?_
            refine AllReadyH.cons (o := ?oiz64w0) ?hiz64w0 (fun K hK => ?stepz64w0) ?morez64w0
            case hiz64w0 => (simp only [List.getElem?_toArray, List.getElem?_cons_zero, List.getElem?_cons_succ]; rfl)
            go_simp
            refine hK.out _ _ (by first | exact ⟨hd0, hP0, hP1⟩ | exact ⟨hA0, hAP0, hAP1⟩ | exact ⟨hB0, hBP0, hBP1⟩ | exact ⟨hC0, hCP0, hCP1⟩ | exact ⟨hD0, hDP0, hDP1⟩) (fun hHeld => ?_)
            clear hK K
            try simp only [Act.put, List.setIfInBounds_toArray, List.set_cons_zero, List.set_cons_succ]
            refine wpAnyH_done (by kernel_rfl) ?_ _
            rotate_left
            exact AllReadyH.nil
            exact AllReadyH.nil
            exact AllReadyH.nil
            refine AllReadyH.cons (o := ?oiz59w1) ?hiz59w1 (fun K hK => ?stepz59w1) ?morez59w1
            case hiz59w1 => (simp only [List.getElem?_toArray, List.getElem?_cons_zero, List.getElem?_cons_succ]; rfl)
            go_simp
            refine hK.out _ _ (by first | exact ⟨hd0, hP0, hP1⟩ | exact ⟨hA0, hAP0, hAP1⟩ | exact ⟨hB0, hBP0, hBP1⟩ | exact ⟨hC0, hCP0, hCP1⟩ | exact ⟨hD0, hDP0, hDP1⟩) (fun hHeld => ?_)
            clear hK K
            try simp only [Act.put, List.setIfInBounds_toArray, List.set_cons_zero, List.set_cons_succ]
            refine wpAnyH_take (i := 21) (oi := ?oiz66) (v := ?vz66) ?hiz66 ?haz66 ?hbz66 ?hcz66 ?hqz66 ?hyz66 (by assumption) ?restz66
            case hiz66 => (simp only [List.getElem?_toArray, List.getElem?_cons_zero, List.getElem?_cons_succ]; rfl)
            case haz66 => kernel_rfl
            case hbz66 => kernel_rfl
            case hcz66 => kernel_rfl
            case hyz66 => exact Or.inl ⟨by rfl, by (intro w hSw; (try dsimp only at hSw); go_split_ands; go_simp; (try with_reducible rfl))⟩
            case hqz66 => exact fun _ _ _ h => h
            try simp only [Act.put, List.setIfInBounds_toArray, List.set_cons_zero, List.set_cons_succ]
            refine wpAnyH_ready (rs := [11]) (by kernel_rfl) (by simp) ?_
            refine AllReadyH.cons (o := ?oiz67w0) ?hiz67w0 (fun K hK => ?stepz67w0) ?morez67w0
            case hiz67w0 => (simp only [List.getElem?_toArray, List.getElem?_cons_zero, List.getElem?_cons_succ]; rfl)
            refine step_append_own rfl (.tmp 42) (.tmp 46) 22 rfl wd.heap.size 5 i8 (.int .u8 0) 1 1 Try.underlying22 hi8 hz8 hs8 hb8 rfl (by decide) (.slice (some ⟨wd.heap.size, 0, none⟩) 0 0) 0 [] (by simp [Act.eval, Act.put]) HownA.out ⟨gv, 0, none⟩ u cv (u8s (p.2.take u)) (by simp [Act.eval, Act.put]) HlenA.out HnewsA.out (one_u8s _) (by simp only [maxLen]; omega) (by omega) (by show wd.heap.size ≤ (wd.alloc _).heap.size; rw [nblk_alloc]; exact Nat.le_succ _) ?_
            intro v1 w1 hown1 hg1
            have hB := put_below hg1
            have hB0 := (hB.cell (p := ⟨b, 0, none⟩) hbl).trans hd0
            have hBP0 := (hB.cell (p := ⟨wr.heap.size, 0, none⟩) hpl).trans hP0
            have hBP1 := (hB.cell (p := ⟨wr.heap.size, 1, none⟩) hpl).trans hP1
            have hkqB := (hB.cell (p := ⟨kb, q, none⟩) hkl).trans hkq
            have HB := Lib.hid hB
            have HnewsB := Lib.hid (show ∀ (j : Nat) (x : Value), (u8s (row.drop u))[j]? = some x → w1.cell? (adx.add j) = some x by
              intro j x hj
              have hjl := (List.getElem?_eq_some_iff.1 hj).1
              rw [HlenB.out] at hjl
              rw [Hadx.out, if_neg (by omega)]
              exact BRow.part (k := u) (hbko.kept (hB.block go hgol)) j x hj)
            have Hown1 := Lib.hid (show w1.ownsRow wd.heap.size 5 1 v1 u (u8s (p.2.take u)) by simpa using hown1)
            clear hown1 hg1 hB
            refine hK.out _ _ (by first | exact ⟨hd0, hP0, hP1⟩ | exact ⟨hA0, hAP0, hAP1⟩ | exact ⟨hB0, hBP0, hBP1⟩ | exact ⟨hC0, hCP0, hCP1⟩ | exact ⟨hD0, hDP0, hDP1⟩) (fun hHeld => ?_)
            clear hK K
            try simp only [Act.put, List.setIfInBounds_toArray, List.set_cons_zero, List.set_cons_succ]
            refine wpAnyH_ready (rs := [22]) (by kernel_rfl) (by simp) ?_
            refine AllReadyH.cons (o := ?oiz68w0) ?hiz68w0 (fun K hK => ?stepz68w0) ?morez68w0
            case hiz68w0 => (simp only [List.getElem?_toArray, List.getElem?_cons_zero, List.getElem?_cons_succ]; rfl)
            refine step_append_own rfl (.tmp 47) (.tmp 57) 22 rfl wd.heap.size 5 i8 (.int .u8 0) 1 1 Try.underlying22 hi8 hz8 hs8 hb8 rfl (by decide) v1 u (u8s (p.2.take u)) (by simp [Act.eval, Act.put]) Hown1.out adx (128 - u) (co - u) (u8s (row.drop u)) (by simp [Act.eval, Act.put]; rw [Hadx.out]; split <;> (first | rfl | (split <;> (first | rfl | (exfalso; omega))))) HlenB.out HnewsB.out (one_u8s _) (by simp only [maxLen]; omega) (by omega) HB.out.size ?_
            intro v2 w2 hown2 hg2
            have hB2 := HB.out.grown hg2 HB.out.size (fun k hk => (Hown1.out.lt k hk).1)
            obtain ⟨A2, c2, rfl, _⟩ := own_form hown2
            have hC0 := (hB2.cell (p := ⟨b, 0, none⟩) hbl).trans hd0
            have hCP0 := (hB2.cell (p := ⟨wr.heap.size, 0, none⟩) hpl).trans hP0
            have hCP1 := (hB2.cell (p := ⟨wr.heap.size, 1, none⟩) hpl).trans hP1
            have hkqC := (hB2.cell (p := ⟨kb, q, none⟩) hkl).trans hkq
            have hkfC : w2.frozen? ⟨kb, q, none⟩ = false := (hB2.frozen (p := ⟨kb, q, none⟩) hkl).trans hfq
            have hnbk : b ≠ kb := Hd.out.head.ne Hd.out.kept (by decide)
            have hnpk : wr.heap.size ≠ kb := hPd.ne Hd.out.kept (by decide)
            have hD0 := (World.cell?_setCell_other w2 ⟨kb, q, none⟩ ⟨b, 0, none⟩ (.slice A2 (u + (128 - u)) c2) (fun e => by cases e; exact hnbk rfl)).trans hC0
            have hDP0 := (World.cell?_setCell_other w2 ⟨kb, q, none⟩ ⟨wr.heap.size, 0, none⟩ (.slice A2 (u + (128 - u)) c2) (fun e => hnpk (congrArg Addr.block e).symm)).trans hCP0
            have hDP1 := (World.cell?_setCell_other w2 ⟨kb, q, none⟩ ⟨wr.heap.size, 1, none⟩ (.slice A2 (u + (128 - u)) c2) (fun e => hnpk (congrArg Addr.block e).symm)).trans hCP1
            have Hend := Lib.hid (torn_end Hd.out HOd.out.size Hfin.out hql hB2 (row := p.2.take u ++ row.drop u) (by simpa [u8s] using hown2) (by omega) (byte128_torn Hwt.out.2.2 Hor.out (by omega)).1)
            have HB2 := Lib.hid hB2
            clear hown2 hg2 hB2
            refine hK.out _ _ (by first | exact ⟨hd0, hP0, hP1⟩ | exact ⟨hA0, hAP0, hAP1⟩ | exact ⟨hB0, hBP0, hBP1⟩ | exact ⟨hC0, hCP0, hCP1⟩ | exact ⟨hD0, hDP0, hDP1⟩) (fun hHeld => ?_)
            clear hK K
            try simp only [Act.put, List.setIfInBounds_toArray, List.set_cons_zero, List.set_cons_succ]
            refine wpAnyH_take (i := 23) (oi := ?oiz69) (v := ?vz69) ?hiz69 ?haz69 ?hbz69 ?hcz69 ?hqz69 ?hyz69 (by assumption) ?restz69
            case hiz69 => (simp only [List.getElem?_toArray, List.getElem?_cons_zero, List.getElem?_cons_succ]; rfl)
            case haz69 => kernel_rfl
            case hbz69 => kernel_rfl
            case hcz69 => kernel_rfl
            case hyz69 => exact Or.inl ⟨by rfl, by (intro w hSw; (try dsimp only at hSw); go_split_ands; go_simp; (try with_reducible rfl))⟩
            case hqz69 => exact fun _ _ _ h => h
            try simp only [Act.put, List.setIfInBounds_toArray, List.set_cons_zero, List.set_cons_succ]
            refine wpAnyH_ready (rs := [24]) (by kernel_rfl) (by simp) ?_
            refine AllReadyH.cons (o := ?oiz70w0) ?hiz70w0 (fun K hK => ?stepz70w0) ?morez70w0
            case hiz70w0 => (simp only [List.getElem?_toArray, List.getElem?_cons_zero, List.getElem?_cons_succ]; rfl)
            go_simp
            refine hK.out _ _ (by first | exact ⟨hd0, hP0, hP1⟩ | exact ⟨hA0, hAP0, hAP1⟩ | exact ⟨hB0, hBP0, hBP1⟩ | exact ⟨hC0, hCP0, hCP1⟩ | exact ⟨hD0, hDP0, hDP1⟩) (fun hHeld => ?_)
            clear hK K
            try simp only [Act.put, List.setIfInBounds_toArray, List.set_cons_zero, List.set_cons_succ]
            refine wpAnyH_done (by kernel_rfl) ?_ _
            rotate_left
            exact AllReadyH.nil
            exact AllReadyH.nil
            exact AllReadyH.nil
            exact AllReadyH.nil
            refine AllReadyH.cons (o := ?oiz58w1) ?hiz58w1 (fun K hK => ?stepz58w1) ?morez58w1
            case hiz58w1 => (simp only [List.getElem?_toArray, List.getElem?_cons_zero, List.getElem?_cons_succ]; rfl)
            go_simp
            refine hK.out _ _ (by first | exact ⟨hd0, hP0, hP1⟩ | exact ⟨hA0, hAP0, hAP1⟩ | exact ⟨hB0, hBP0, hBP1⟩ | exact ⟨hC0, hCP0, hCP1⟩ | exact ⟨hD0, hDP0, hDP1⟩) (fun hHeld => ?_)
            clear hK K
            try simp only [Act.put, List.setIfInBounds_toArray, List.set_cons_zero, List.set_cons_succ]
            refine wpAnyH_take (i := 21) (oi := ?oiz72) (v := ?vz72) ?hiz72 ?haz72 ?hbz72 ?hcz72 ?hqz72 ?hyz72 (by assumption) ?restz72
            case hiz72 => (simp only [List.getElem?_toArray, List.getElem?_cons_zero, List.getElem?_cons_succ]; rfl)
            case haz72 => kernel_rfl
            case hbz72 => kernel_rfl
            case hcz72 => kernel_rfl
            case hyz72 => exact Or.inl ⟨by rfl, by (intro w hSw; (try dsimp only at hSw); go_split_ands; go_simp; (try with_reducible rfl))⟩
            case hqz72 => exact fun _ _ _ h => h
            try simp only [Act.put, List.setIfInBounds_toArray, List.set_cons_zero, List.set_cons_succ]
            refine wpAnyH_ready (rs := [6]) (by kernel_rfl) (by simp) ?_
            refine AllReadyH.cons (o := ?oiz73w0) ?hiz73w0 (fun K hK => ?stepz73w0) ?morez73w0
            case hiz73w0 => (simp only [List.getElem?_toArray, List.getElem?_cons_zero, List.getElem?_cons_succ]; rfl)
            go_simp
            refine hK.out _ _ (by first | exact ⟨hd0, hP0, hP1⟩ | exact ⟨hA0, hAP0, hAP1⟩ | exact ⟨hB0, hBP0, hBP1⟩ | exact ⟨hC0, hCP0, hCP1⟩ | exact ⟨hD0, hDP0, hDP1⟩) (fun hHeld => ?_)
            clear hK K
            try simp only [Act.put, List.setIfInBounds_toArray, List.set_cons_zero, List.set_cons_succ]
            refine wpAnyH_ready (rs := [11]) (by kernel_rfl) (by simp) ?_
            refine AllReadyH.cons (o := ?oiz74w0) ?hiz74w0 (fun K hK => ?stepz74w0) ?morez74w0
            case hiz74w0 => (simp only [List.getElem?_toArray, List.getElem?_cons_zero, List.getElem?_cons_succ]; rfl)
            refine step_append_own rfl (.tmp 42) (.tmp 46) 22 rfl wd.heap.size 5 i8 (.int .u8 0) 1 1 Try.underlying22 hi8 hz8 hs8 hb8 rfl (by decide) (.slice (some ⟨wd.heap.size, 0, none⟩) 0 0) 0 [] (by simp [Act.eval, Act.put]) HownA.out ⟨gv, 0, none⟩ u cv (u8s (p.2.take u)) (by simp [Act.eval, Act.put]) HlenA.out HnewsA.out (one_u8s _) (by simp only [maxLen]; omega) (by omega) (by show wd.heap.size ≤ (wd.alloc _).heap.size; rw [nblk_alloc]; exact Nat.le_succ _) ?_
            intro v1 w1 hown1 hg1
            have hB := put_below hg1
            have hB0 := (hB.cell (p := ⟨b, 0, none⟩) hbl).trans hd0
            have hBP0 := (hB.cell (p := ⟨wr.heap.size, 0, none⟩) hpl).trans hP0
            have hBP1 := (hB.cell (p := ⟨wr.heap.size, 1, none⟩) hpl).trans hP1
            have hkqB := (hB.cell (p := ⟨kb, q, none⟩) hkl).trans hkq
            have HB := Lib.hid hB
            have HnewsB := Lib.hid (show ∀ (j : Nat) (x : Value), (u8s (row.drop u))[j]? = some x → w1.cell? (adx.add j) = some x by
              intro j x hj
              have hjl := (List.getElem?_eq_some_iff.1 hj).1
              rw [HlenB.out] at hjl
              rw [Hadx.out, if_neg (by omega)]
              exact BRow.part (k := u) (hbko.kept (hB.block go hgol)) j x hj)
            have Hown1 := Lib.hid (show w1.ownsRow wd.heap.size 5 1 v1 u (u8s (p.2.take u)) by simpa using hown1)
            clear hown1 hg1 hB
            refine hK.out _ _ (by first | exact ⟨hd0, hP0, hP1⟩ | exact ⟨hA0, hAP0, hAP1⟩ | exact ⟨hB0, hBP0, hBP1⟩ | exact ⟨hC0, hCP0, hCP1⟩ | exact ⟨hD0, hDP0, hDP1⟩) (fun hHeld => ?_)
            clear hK K
            try simp only [Act.put, List.setIfInBounds_toArray, List.set_cons_zero, List.set_cons_succ]
            refine wpAnyH_ready (rs := [22]) (by kernel_rfl) (by simp) ?_
            refine AllReadyH.cons (o := ?oiz75w0) ?hiz75w0 (fun K hK => ?stepz75w0) ?morez75w0
            case hiz75w0 => (simp only [List.getElem?_toArray, List.getElem?_cons_zero, List.getElem?_cons_succ]; rfl)
            refine step_append_own rfl (.tmp 47) (.tmp 57) 22 rfl wd.heap.size 5 i8 (.int .u8 0) 1 1 Try.underlying22 hi8 hz8 hs8 hb8 rfl (by decide) v1 u (u8s (p.2.take u)) (by simp [Act.eval, Act.put]) Hown1.out adx (128 - u) (co - u) (u8s (row.drop u)) (by simp [Act.eval, Act.put]; rw [Hadx.out]; split <;> (first | rfl | (split <;> (first | rfl | (exfalso; omega))))) HlenB.out HnewsB.out (one_u8s _) (by simp only [maxLen]; omega) (by omega) HB.out.size ?_
            intro v2 w2 hown2 hg2
            have hB2 := HB.out.grown hg2 HB.out.size (fun k hk => (Hown1.out.lt k hk).1)
            obtain ⟨A2, c2, rfl, _⟩ := own_form hown2
            have hC0 := (hB2.cell (p := ⟨b, 0, none⟩) hbl).trans hd0
            have hCP0 := (hB2.cell (p := ⟨wr.heap.size, 0, none⟩) hpl).trans hP0
            have hCP1 := (hB2.cell (p := ⟨wr.heap.size, 1, none⟩) hpl).trans hP1
            have hkqC := (hB2.cell (p := ⟨kb, q, none⟩) hkl).trans hkq
            have hkfC : w2.frozen? ⟨kb, q, none⟩ = false := (hB2.frozen (p := ⟨kb, q, none⟩) hkl).trans hfq
            have hnbk : b ≠ kb := Hd.out.head.ne Hd.out.kept (by decide)
            have hnpk : wr.heap.size ≠ kb := hPd.ne Hd.out.kept (by decide)
            have hD0 := (World.cell?_setCell_other w2 ⟨kb, q, none⟩ ⟨b, 0, none⟩ (.slice A2 (u + (128 - u)) c2) (fun e => by cases e; exact hnbk rfl)).trans hC0
            have hDP0 := (World.cell?_setCell_other w2 ⟨kb, q, none⟩ ⟨wr.heap.size, 0, none⟩ (.slice A2 (u + (128 - u)) c2) (fun e => hnpk (congrArg Addr.block e).symm)).trans hCP0
            have hDP1 := (World.cell?_setCell_other w2 ⟨kb, q, none⟩ ⟨wr.heap.size, 1, none⟩ (.slice A2 (u + (128 - u)) c2) (fun e => hnpk (congrArg Addr.block e).symm)).trans hCP1
            have Hend := Lib.hid (torn_end Hd.out HOd.out.size Hfin.out hql hB2 (row := p.2.take u ++ row.drop u) (by simpa [u8s] using hown2) (by omega) (byte128_torn Hwt.out.2.2 Hor.out (by omega)).1)
            have HB2 := Lib.hid hB2
            clear hown2 hg2 hB2
            refine hK.out _ _ (by first | exact ⟨hd0, hP0, hP1⟩ | exact ⟨hA0, hAP0, hAP1⟩ | exact ⟨hB0, hBP0, hBP1⟩ | exact ⟨hC0, hCP0, hCP1⟩ | exact ⟨hD0, hDP0, hDP1⟩) (fun hHeld => ?_)
            clear hK K
            try simp only [Act.put, List.setIfInBounds_toArray, List.set_cons_zero, List.set_cons_succ]
            refine wpAnyH_take (i := 23) (oi := ?oiz76) (v := ?vz76) ?hiz76 ?haz76 ?hbz76 ?hcz76 ?hqz76 ?hyz76 (by assumption) ?restz76
            case hiz76 => (simp only [List.getElem?_toArray, List.getElem?_cons_zero, List.getElem?_cons_succ]; rfl)
            case haz76 => kernel_rfl
            case hbz76 => kernel_rfl
            case hcz76 => kernel_rfl
            case hyz76 => exact Or.inl ⟨by rfl, by (intro w hSw; (try dsimp only at hSw); go_split_ands; go_simp; (try with_reducible rfl))⟩
            case hqz76 => exact fun _ _ _ h => h
            try simp only [Act.put, List.setIfInBounds_toArray, List.set_cons_zero, List.set_cons_succ]
            refine wpAnyH_ready (rs := [24]) (by kernel_rfl) (by simp) ?_
            refine AllReadyH.cons (o := ?oiz77w0) ?hiz77w0 (fun K hK => ?stepz77w0) ?morez77w0
            case hiz77w0 => (simp only [List.getElem?_toArray, List.getElem?_cons_zero, List.getElem?_cons_succ]; rfl)
            go_simp
            refine hK.out _ _ (by first | exact ⟨hd0, hP0, hP1⟩ | exact ⟨hA0, hAP0, hAP1⟩ | exact ⟨hB0, hBP0, hBP1⟩ | exact ⟨hC0, hCP0, hCP1⟩ | exact ⟨hD0, hDP0, hDP1⟩) (fun hHeld => ?_)
            clear hK K
            try simp only [Act.put, List.setIfInBounds_toArray, List.set_cons_zero, List.set_cons_succ]
            refine wpAnyH_done (by kernel_rfl) ?_ _
            rotate_left
            exact AllReadyH.nil
            exact AllReadyH.nil
            exact AllReadyH.nil
            exact AllReadyH.nil
            exact AllReadyH.nil
            all_goals
              generalize (if co = u then some (⟨go, 0, none⟩ : Addr) else some ⟨go, u, none⟩) = az
              obtain ⟨w3, hw3⟩ : ∃ w3, w3 = w2.setCell ⟨kb, q, none⟩ (.slice A2 (u + (128 - u)) c2) := ⟨_, rfl⟩
              have HE := Hend.out
              rw [← hw3] at HE ⊢
              have hO3 : Only F w w3 := by
                rw [hw3]
                refine (HOd.out.trans (Only.of_below (F := F) HB2.out) (fun _ _ h => h)).set ?_ _
                rcases Hd.out.fk with hk | hk
                · exact Or.inr hk
                · exact Or.inl hk.1
              have hib : w3.cell? ⟨b, 1, none⟩ = some (.slice (some ⟨ib, 0, none⟩) K ci) := by
                have h5 := HE.head.cell (i := 1) rfl
                rw [h5]
                show some (Value.slice _ ((S.crashTo cs j).kept.set q _).length _) = _
                rw [List.length_set, HK.out]
              have hN3 : w3.cell? ⟨wr.heap.size, 0, none⟩ = some (.int .i64 (q : Int)) := by rw [hw3]; exact hDP0
              obtain ⟨uo, huo⟩ : ∃ u, (S.crashTo cs j).inn[q]? = some u := ⟨_, List.getElem?_eq_getElem (by rw [Hwf.out.ninn]; exact hql)⟩
              have hco' : w3.cell? ⟨ib, q, none⟩ = some (.bool uo) := HE.inn.cell (by rw [List.getElem?_append_left (by rw [List.length_map]; show q < (S.crashTo cs j).inn.length; rw [Hwf.out.ninn]; exact hql), List.getElem?_map]; show (S.crashTo cs j).inn[q]?.map _ = _; rw [huo]; rfl)
              have hfo' := HE.inn.frozen q
              have h2 := HE.upInn (by show (S.crashTo cs j).inn.length = ((S.crashTo cs j).kept.set q _).length; rw [List.length_set, Hwf.out.ninn]) q (by show q < ((S.crashTo cs j).kept.set q _).length; rw [List.length_set]; exact hql) true
              have hO4 : Only F w (w3.setCell ⟨ib, q, none⟩ (.bool true)) := by
                refine hO3.set ?_ _
                rcases Hd.out.fi with hk | hk
                · exact Or.inr hk
                · exact Or.inl hk.1
              have hfin : RD (More F w (w3.setCell ⟨ib, q, none⟩ (.bool true))) (w3.setCell ⟨ib, q, none⟩ (.bool true)) b (S.crashTo cs (j + 1)) := by
                have h0 := Hwf.out.crash1 (p := p) (c := u) (List.mem_of_getElem? Hp.out) (by omega)
                have e := crash1_pos (S.crashTo cs j) p (c := u) (by omega) Hqn.out
                rw [e] at h0
                rw [Hnext.out, Hcut.out, e]
                rw [← Hrow.out] at h0 ⊢
                exact (RD.of h0 h2).mono (fun k _ hf => by
                  rcases hf with hf | hf
                  · exact Or.inl hf
                  · exact Or.inr ⟨hf.1, by rw [nblk_setCell, hw3, nblk_setCell]; exact hf.2⟩) (fun k hk => by
                  rcases hk with hk | hk
                  · have := Hfin.out k hk; have := hO4.size; omega
                  · exact hk.2)
              have Hfin2 := Lib.hid hfin
              have HO4 := Lib.hid hO4
              obtain ⟨w5, hw5⟩ : ∃ w5, w5 = w3.setCell ⟨ib, q, none⟩ (.bool true) := ⟨_, rfl⟩
              rw [← hw5] at Hfin2 HO4
              have Hw5 := Lib.hid hw5
              clear hfin hO4 hO3 h2 hw5 hw3 huo HE hd0 hd1 hP0 hP1 hkq hfq hA0 hAP0 hAP1 hkqA hB0 hBP0 hBP1 hkqB hC0 hCP0 hCP1 hkqC hkfC hD0 hDP0 hDP1
              go_wp2
              go_region
              all_goals
                rw [← Hw5.out]
                have hfin2 := Hfin2.out.keep (w' := w5.drew) (Nat.le_refl _) (fun _ _ => rfl)
                have hO5 := HO4.out.drew
                have hfin3 : RD (More F w w5.drew) w5.drew b (S.crashTo cs (j + 1)) := hfin2
                clear Hw5 hfin2
                generalize w5.drew = w6 at *
                go_wp2
                go_roundw
                case rel => exact ⟨j + 1, by omega, by go_num, hfin3, hO5⟩
                case measure => simp [intOf]; omega
      · have Hnone := Lib.hid (show S.crashTo cs (j + 1) = S.crashTo cs j by
          rw [hnext, show cutAt cs j = 0 by
            unfold cutAt
            rw [show cs.getD j 0 = 0 by simp [List.getD, List.getElem?_eq_none (show cs.length ≤ j by rw [Hln.out]; omega)]]
            rfl]
          rfl)
        have hjI : ¬ (j : Int) < (n : Int) := by omega
        clear hnext  hq hqn hv hwt hp hp' hpn hw
        go_wp2
        rw [← Hwd.out]
        go_roundw
        case rel => exact ⟨j + 1, by omega, by go_num, by rw [Hnone.out]; exact Hrd.out, HOd.out⟩
        case measure => simp [intOf]; omega
    · obtain rfl : j = m := by omega
      have hf2 := h.head.frozen 2
      have hf4 := h.head.frozen 4
      have hf5 := h.head.frozen 5
      have hc4 := h.head.cell (i := 4) rfl
      have hc5 := h.head.cell (i := 5) rfl
      have h1 := h.upNone
      have h2 := h1.upHead 5 (.bool false) (S.crashTo cs j).cut false rfl
      have h3 := h2.upHead 4 (.int .i64 (-1)) (-1) false rfl
      have hbF : F b ∨ w.heap.size ≤ b := by
        rcases h.fb with hk | hk
        · exact Or.inl hk
        · exact Or.inr hk.1
      have hO3 := Lib.hid (((hO.set (a := ⟨b, 2, none⟩) hbF.symm (.slice none 0 0)).set (a := ⟨b, 5, none⟩) hbF.symm (.bool false)).set (a := ⟨b, 4, none⟩) hbF.symm (.int .i64 (-1)))
      have hfin := Lib.hid (show RD (More F w (((wr.setCell ⟨b, 2, none⟩ (.slice none 0 0)).setCell ⟨b, 5, none⟩ (.bool false)).setCell ⟨b, 4, none⟩ (.int .i64 (-1)))) (((wr.setCell ⟨b, 2, none⟩ (.slice none 0 0)).setCell ⟨b, 5, none⟩ (.bool false)).setCell ⟨b, 4, none⟩ (.int .i64 (-1))) b (S.crashed cs) by
        unfold DS.crashed
        rw [← Hm.out]
        refine (RD.of ((hwf.noWaits).cutOff (-1) false (by omega) (by omega)) h3).mono (fun k _ hf => by
          rcases hf with hf | hf
          · exact Or.inl hf
          · exact Or.inr ⟨hf.1, by rw [nblk_setCell, nblk_setCell, nblk_setCell]; exact hf.2⟩) (fun k hk => by
          rw [nblk_setCell, nblk_setCell, nblk_setCell]
          rcases hk with hk | hk
          · have := Hfin.out k hk; have := hO.size; omega
          · have := hk.2; rwa [nblk_setCell, nblk_setCell, nblk_setCell] at this))
      clear h1 h2 h3 hO
      go_wp2
      go_end0
      exact ⟨rfl, hfin.out, hO3.out⟩
end Go.Proofs.Ythdclncgmhgmfaa
