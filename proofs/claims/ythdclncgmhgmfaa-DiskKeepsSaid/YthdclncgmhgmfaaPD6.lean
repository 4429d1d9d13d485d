/- The program's disk: Write. -/
import Derived.Test.YthdclncgmhgmfaaPD5
namespace Go.Proofs.Ythdclncgmhgmfaa
open Go.RowKit Go.Deep
set_option linter.unusedSimpArgs false
set_option linter.unusedVariables false

theorem run_load_op {P : Program} {op : Oper} {a : Act} {w : World} (ty : TypeId) (x : Operand) (ho : op.op = .load ty x) (b o : Nat) (hx : a.eval x = .pointer (some ⟨b, o, none⟩)) (cs : List Value) (d : TypeDesc) (hS : w.rangeAt b o cs)
    (hu : P.underlying ty = some d) (hd : d.isRow = true) (hi : (P.info? ty).map (·.size) = some cs.length) : (execOp a.eval op).run P w = .ok (.value (.agg cs.toArray)) w := by
  unfold execOp
  simp only [ho, hx, Instr.loadAt, Instr.sureAddr, Sem.run_bind, Sem.run_pure, Result.andThen_ok, run_loadVar_mid w b o ty cs d hS hu hd hi]
theorem run_build_op {P : Program} {op : Oper} {a : Act} {w : World} (ty : TypeId) (parts : Array (Nat × Operand)) (ho : op.op = .build ty parts) (v : Value) (h : (Instr.build ty (parts.map fun (i, x) => (i, a.eval x))).run P w = .ok v w) : (execOp a.eval op).run P w = .ok (.value v) w := by
  unfold execOp
  simp only [ho, Sem.run_bind, Sem.run_pure, Result.andThen_ok, h]
theorem one_piece (p : Int × List Int) : ∀ u ∈ pieceCells p, u.oneCell' = true := by
  intro u hu
  rcases List.mem_cons.1 hu with rfl | hu
  · rfl
  · exact one_u8s _ u hu
/-- An array of 128 bytes, boxed. -/
theorem box_new (w : World) (bs : List Int) : Blk (w.alloc (.cells (u8s bs).toArray 52)) w.heap.size 52 (u8s bs) := Blk.new w 52 (u8s bs)

set_option maxHeartbeats 800000 in
theorem dwrite_err (F : Nat → Prop) (w : World) (b : Nat) (S : DS) (h : PD F w b S) (n er : Int) (bs : List Int) (hne : er ≠ 0) (hr : ∀ w', PD F w' b S → Calls Try.prog 41 #[.pointer (some ⟨b, 0, none⟩), .int .i64 n] w' fun e w2 => e = .returned (.int .i64 er) ∧ w2 = w') :
    Calls Try.prog 23 #[.pointer (some ⟨b, 0, none⟩), .int .i64 n, .agg (u8s bs).toArray] w fun e w' => e = .returned (.int .i64 er) ∧ Only Nothing w w' := by
  obtain ⟨w1, hw1⟩ : ∃ w1, w1 = w.alloc (.cells (u8s bs).toArray 52) := ⟨_, rfl⟩
  have hb1 : Below w.heap.size w w1 := by rw [hw1]; exact below_alloc _ _
  have h1 := h.only (Only.of_below (F := Nothing) hb1) (fun _ _ hk => hk)
  have hr1 := hr w1 h1
  have hd : (er != 0) = true := by simpa using hne
  have Hw1 := Lib.hid hw1
  clear hw1 h1 h hr hne
  go_enter Try.func23, Try.ntmps23
  go_wp2_with fail
  rw [← Hw1.out]
  clear Hw1
  refine hr1.mono ?_
  rintro e w2 ⟨rfl, hw⟩
  obtain rfl := hw.symm
  go_wp2
  go_ret
  exact ⟨rfl, Only.of_below hb1⟩

section
variable (F : Nat → Prop) (w : World) (b : Nat) (S : DS) (h : PD F w b S)
include h
theorem dwrite_off (n : Int) (bs : List Int) (hb : Byte128 bs) (ho : S.off = true) : Calls Try.prog 23 #[.pointer (some ⟨b, 0, none⟩), .int .i64 n, .agg (u8s bs).toArray] w fun e w' => e = .returned (.int .i64 50) ∧ Only Nothing w w' :=
  dwrite_err F w b S h n 50 bs (by omega) (fun w' h' => dreach_off F w' b S h' n ho)
theorem dwrite_out (n : Int) (bs : List Int) (hb : Byte128 bs) (ho : S.off = false) (hn : n < 0 ∨ (S.kept.length : Int) ≤ n) : Calls Try.prog 23 #[.pointer (some ⟨b, 0, none⟩), .int .i64 n, .agg (u8s bs).toArray] w fun e w' => e = .returned (.int .i64 51) ∧ Only Nothing w w' :=
  dwrite_err F w b S h n 51 bs (by omega) (fun w' h' => dreach_out F w' b S h' n ho hn)

set_option maxRecDepth 100000 in
set_option maxHeartbeats 1600000 in
theorem dwrite_full (n : Nat) (bs : List Int) (hb : Byte128 bs) (ho : S.off = false) (hn : n < S.kept.length) (hu : S.isUse n = false) (hf : S.room ≤ (S.used : Int)) : Calls Try.prog 23 #[.pointer (some ⟨b, 0, none⟩), .int .i64 (n : Int), .agg (u8s bs).toArray] w fun e w' => e = .returned (.int .i64 52) ∧ Only Nothing w w' := by
  obtain ⟨w1, hw1⟩ : ∃ w1, w1 = w.alloc (.cells (u8s bs).toArray 52) := ⟨_, rfl⟩
  have hb1 : Below w.heap.size w w1 := by rw [hw1]; exact below_alloc _ _
  have h1 := h.only (Only.of_below (F := Nothing) hb1) (fun _ _ hk => hk)
  have hr1 := dreach_in F w1 b S h1 n ho hn
  clear h
  obtain ⟨hwf, hFb, hfin, sb, mb, vs, vw, c, L, h⟩ := h1
  have hiu := dinuse_is F w1 b S sb mb vs vw c L hwf h n hn
  rw [hu] at hiu
  have hc0 := h.head.cell (i := 0) rfl
  have hc2 := h.head.cell (i := 2) rfl
  have huse := h.use
  obtain ⟨K, hK⟩ : ∃ K, K = S.kept.length := ⟨_, rfl⟩
  have hnK : (n : Int) < (K : Int) := by omega
  rw [← hK] at hc0
  obtain ⟨l, hl⟩ : ∃ l, l = S.room - (S.used : Int) := ⟨_, rfl⟩
  rw [← hl] at hc2
  have hl0 : l = 0 := by omega
  subst hl0
  have Hw1 := Lib.hid hw1
  clear hw1 h hwf hfin hu hf hl hK ho huse hn
  go_enter Try.func23, Try.ntmps23
  go_wp2_with fail
  rw [← Hw1.out]
  clear Hw1
  refine hr1.mono ?_
  rintro e w2 ⟨rfl, hw⟩
  obtain rfl := hw.symm
  go_wp2_with fail
  refine hiu.mono ?_
  rintro e w2 ⟨rfl, hw⟩
  obtain rfl := hw.symm
  go_wp2
  go_ret
  exact ⟨rfl, Only.of_below hb1⟩

set_option maxRecDepth 100000 in
set_option maxHeartbeats 6400000 in
theorem dwrite_in (n : Nat) (bs : List Int) (hb : Byte128 bs) (ho : S.off = false) (hn : n < S.kept.length) (hu : S.isUse n = true ∨ (S.used : Int) < S.room) (hmany : S.waits.length ≤ 1000000) : Calls Try.prog 23 #[.pointer (some ⟨b, 0, none⟩), .int .i64 (n : Int), .agg (u8s bs).toArray] w fun e w' => e = .returned (.int .i64 (goneErr ((S.put n bs).goes 1).2)) ∧ PD (More F w w') w' b ((S.put n bs).goes 1).1 ∧ Only F w w' := by
  obtain ⟨w1, hw1⟩ : ∃ w1, w1 = w.alloc (.cells (u8s bs).toArray 52) := ⟨_, rfl⟩
  have hbx : Blk w1 w.heap.size 52 (u8s bs) := by rw [hw1]; exact box_new w bs
  have hb1 : Below w.heap.size w w1 := by rw [hw1]; exact below_alloc _ _
  have hF0 : ∀ k, F k → k < w.heap.size := fun k hk => h.fin hk
  have h1 := h.only (Only.of_below (F := Nothing) hb1) (fun _ _ hk => hk)
  have hr1 := dreach_in F w1 b S h1 n ho hn
  clear h
  obtain ⟨hwf, hFb, hfin, sb, mb, vs, vw, c, L, h⟩ := h1
  have hiu := dinuse_is F w1 b S sb mb vs vw c L hwf h n hn
  have hc0 := h.head.cell (i := 0) rfl
  have hc2 := h.head.cell (i := 2) rfl
  have hf2 := h.head.frozen 2
  have huse := h.use
  have hpu := put_used S n bs hn
  have hwfr := hwf.room1
  obtain ⟨K, hK⟩ : ∃ K, K = S.kept.length := ⟨_, rfl⟩
  have hnK : (n : Int) < (K : Int) := by omega
  rw [← hK] at hc0
  obtain ⟨l, hl⟩ : ∃ l, l = S.room - (S.used : Int) := ⟨_, rfl⟩
  rw [← hl] at hc2
  have hl1 : bs.length = 128 := hb.1
  have hsizeL : (Try.prog.info? 52).map (·.size) = some (u8s bs).length := by rw [size_arr, List.length_map, hl1]
  have Hbuild := Lib.hid (fun w => piece_run w (n : Int) bs hl1)
  obtain ⟨A, cA, hvw, hmw, _⟩ := h.wait.form
  have Hvw := Lib.hid hvw
  have Ho := Lib.hid ho
  have Hl := Lib.hid hl
  have Hw1 := Lib.hid hw1
  have Hh := Lib.hid h
  have Hwf := Lib.hid hwf
  have Hfin := Lib.hid hfin
  have Hn := Lib.hid hn
  have Hb := Lib.hid hb
  have HK := Lib.hid hK
  obtain ⟨ip, hip, hzp, hsp, hbp⟩ := info_parts' info_pc
  cases hiuse : S.isUse (n : Int)
  case false =>
    rw [hiuse] at hiu hpu hu
    have hpu : (S.put n bs).used = S.used + 1 := hpu
    have hlt : 0 < l := by
      rcases hu with h1 | h1
      · cases h1
      · omega
    have hl4 : l ≤ 4096 := by omega
    obtain ⟨lf, hlf⟩ : ∃ lf, lf = l - 1 := ⟨_, rfl⟩
    have Hleft := Lib.hid (show lf = S.room - ((S.put n bs).used : Int) ∧ ((S.put n bs).used : Int) ≤ S.room by rw [hpu]; omega)
    have Hlf := Lib.hid hlf
    have hd : decide (l = 0) = false := decide_eq_false (by omega)
    have hlb : (l == 0) = false := by simp; omega
    clear hw1 h hwf hfin hu hl hK ho huse hn hpu hvw hiuse hlf
    go_enter Try.func23, Try.ntmps23
    go_wp2_with fail
    rw [← Hw1.out]
    clear Hw1
    refine hr1.mono ?_
    rintro e w2 ⟨rfl, hw⟩
    obtain rfl := hw.symm
    go_wp2_with fail
    refine hiu.mono ?_
    rintro e w2 ⟨rfl, hw⟩
    obtain rfl := hw.symm
    go_upto_region 9 with fail
    obtain ⟨wA, hwA⟩ : ∃ wA, wA = w1.setCell ⟨b, 2, none⟩ (.int .i64 (l - 1)) := ⟨_, rfl⟩
    have hA : Blk wA b 63 [.slice (some ⟨sb, 0, none⟩) S.kept.length S.kept.length, vw, .int .i64 lf, .int .i64 c, .bool S.off, .pointer (some ⟨mb, 0, none⟩)] := by rw [hwA, Hlf.out]; exact Hh.out.head.set 2 _
    have hOA : Only F w1 wA := by rw [hwA]; exact set_only hFb _
    have hsA : ∀ k, k < w1.heap.size → k ≠ b → wA.heap[k]? = w1.heap[k]? := by rw [hwA]; exact fun k _ hne => blk_setCell_other _ _ _ _ hne
    rw [← hwA]
    clear hwA hlt hl4 hd hlb Hlf
    have hc1A : wA.drew.cell? ⟨b, 1, none⟩ = some vw := hA.cell (i := 1) rfl
    have hc1B : ((wA.drew).alloc (.cells (pieceCells ((n : Int), bs)).toArray 87)).cell? ⟨b, 1, none⟩ = some vw := (hA.alloc _).cell (i := 1) rfl
    have hc1C : (wA.alloc (.cells (pieceCells ((n : Int), bs)).toArray 87)).cell? ⟨b, 1, none⟩ = some vw := (hA.alloc _).cell (i := 1) rfl
    have Hrb := Lib.hid (show wA.drew.rangeAt w.heap.size 0 (u8s bs) from fun j v hj => by
      rw [Nat.zero_add]
      exact (hbx.kept (hsA _ hbx.lt (fun e => by have := hF0 b hFb; omega))).cell hj)
    have Hwt := Lib.hid (show ((wA.drew).alloc (.cells (pieceCells ((n : Int), bs)).toArray 87)).ownsRow 0 87 129 vw S.waits.length (flatP S.waits) from
      (Hh.out.wait.kept (w' := (wA.drew).alloc (.cells (pieceCells ((n : Int), bs)).toArray 87)) (fun g hg hv => by
        obtain ⟨vs', hv⟩ := hv
        rw [blk_alloc_lt _ _ _ (show g < wA.drew.heap.size from Nat.lt_of_lt_of_le hv.lt hOA.size)]
        exact hsA g hv.lt (hv.ne Hh.out.head (by decide)))).own)
    have hbne : some b ≠ vw.ownBlock := fun e => by
      obtain ⟨_, vs', hv⟩ := Hh.out.wait.ownF e.symm
      exact (Hh.out.head.ne hv (by decide)) rfl
    have Hend := Lib.hid (fun (o : Obj) (w3 : World) (hg : ((wA.drew).alloc o).grownBy w3 vw.ownBlock) => show Blk w3 b 63 [.slice (some ⟨sb, 0, none⟩) S.kept.length S.kept.length, vw, .int .i64 lf, .int .i64 c, .bool S.off, .pointer (some ⟨mb, 0, none⟩)] from
      hA.kept (by rw [hg.block b (by rw [nblk_alloc]; exact Nat.lt_succ_of_lt hA.lt) hbne]; exact blk_alloc_lt wA.drew o b hA.lt))
    have HA := Lib.hid hA
    have HsA := Lib.hid hsA
    have HOA := Lib.hid hOA
    clear hA hsA hOA
    go_cut [] from 36 to 47 (fun wc => ∃ g2 cap2 w3 o, w3.ownsRow 0 87 129 (.slice (some ⟨g2, 0, none⟩) (S.waits.length + 1) cap2) (S.waits.length + 1) (flatP S.waits ++ pieceCells ((n : Int), bs)) ∧ ((wA.drew).alloc o).grownBy w3 vw.ownBlock ∧ (vw.ownBlock = some g2 ∨ g2 = ((wA.drew).alloc o).heap.size) ∧ wc = w3.setCell ⟨b, 1, none⟩ (.slice (some ⟨g2, 0, none⟩) (S.waits.length + 1) cap2))
    case first =>
      refine wp_region_any (by kernel_rfl) ?_
      try (change wpAny _ _ _ _ _ _ _ (World.drew _))
      refine wpAny_take (i := 0) (oi := ?oiy1) (v := ?vy1) ?hiy1 ?hay1 ?hby1 ?hcy1 ?hqy1 ?hyy1 ?resty1
      case hiy1 => (simp only [List.getElem?_toArray, List.getElem?_cons_zero, List.getElem?_cons_succ]; rfl)
      case hay1 => kernel_rfl
      case hby1 => kernel_rfl
      case hcy1 => kernel_rfl
      case hyy1 => exact Or.inl ⟨by rfl, by (intro w; go_simp; (try with_reducible rfl))⟩
      case hqy1 => exact fun _ _ _ h => h
      try simp only [Act.put, List.setIfInBounds_toArray, List.set_cons_zero, List.set_cons_succ]
      refine wpAny_take (i := 1) (oi := ?oiy2) (v := ?vy2) ?hiy2 ?hay2 ?hby2 ?hcy2 ?hqy2 ?hyy2 ?resty2
      case hiy2 => (simp only [List.getElem?_toArray, List.getElem?_cons_zero, List.getElem?_cons_succ]; rfl)
      case hay2 => kernel_rfl
      case hby2 => kernel_rfl
      case hcy2 => kernel_rfl
      case hyy2 => exact Or.inl ⟨by rfl, by (intro w; go_simp; (try with_reducible rfl))⟩
      case hqy2 => exact fun _ _ _ h => h
      try simp only [Act.put, List.setIfInBounds_toArray, List.set_cons_zero, List.set_cons_succ]
      refine wpAny_take (i := 2) (oi := ?oiy3) (v := ?vy3) ?hiy3 ?hay3 ?hby3 ?hcy3 ?hqy3 ?hyy3 ?resty3
      case hiy3 => (simp only [List.getElem?_toArray, List.getElem?_cons_zero, List.getElem?_cons_succ]; rfl)
      case hay3 => kernel_rfl
      case hby3 => kernel_rfl
      case hcy3 => kernel_rfl
      case hyy3 => exact Or.inl ⟨by rfl, by (intro w; go_simp; (try with_reducible rfl))⟩
      case hqy3 => exact fun _ _ _ h => h
      try simp only [Act.put, List.setIfInBounds_toArray, List.set_cons_zero, List.set_cons_succ]
      refine wpAny_take (i := 3) (oi := ?oiy4) (v := ?vy4) ?hiy4 ?hay4 ?hby4 ?hcy4 ?hqy4 ?hyy4 ?resty4
      case hiy4 => (simp only [List.getElem?_toArray, List.getElem?_cons_zero, List.getElem?_cons_succ]; rfl)
      case hay4 => kernel_rfl
      case hby4 => kernel_rfl
      case hcy4 => kernel_rfl
      case hyy4 => exact Or.inl ⟨by rfl, by (intro w; go_simp; (try with_reducible rfl))⟩
      case hqy4 => exact fun _ _ _ h => h
      try simp only [Act.put, List.setIfInBounds_toArray, List.set_cons_zero, List.set_cons_succ]
      refine wpAny_take (i := 5) (oi := ?oiy5) (v := ?vy5) ?hiy5 ?hay5 ?hby5 ?hcy5 ?hqy5 ?hyy5 ?resty5
      case hiy5 => (simp only [List.getElem?_toArray, List.getElem?_cons_zero, List.getElem?_cons_succ]; rfl)
      case hay5 => kernel_rfl
      case hby5 => kernel_rfl
      case hcy5 => kernel_rfl
      case hyy5 => exact Or.inl ⟨by rfl, by (intro w; go_simp; (try with_reducible rfl))⟩
      case hqy5 => exact fun _ _ _ h => h
      try simp only [Act.put, List.setIfInBounds_toArray, List.set_cons_zero, List.set_cons_succ]
      refine wpAny_ready (rs := [4, 6]) (by kernel_rfl) (by simp) ?_
      refine AllReady.cons (o := ?oiy6f0) ?hiy6f0 (fun K hK => ?stepy6f0) ?morey6f0
      case hiy6f0 => (simp only [List.getElem?_toArray, List.getElem?_cons_zero, List.getElem?_cons_succ]; rfl)
      case stepy6f0 =>
        go_simp
        refine hK _ _ ?_
        clear hK K
        try simp only [Act.put, List.setIfInBounds_toArray, List.set_cons_zero, List.set_cons_succ]
        refine wpAny_ready (rs := [6]) (by kernel_rfl) (by simp) ?_
        refine AllReady.cons (o := ?oiy7f0) ?hiy7f0 (fun K hK => ?stepy7f0) ?morey7f0
        case hiy7f0 => (simp only [List.getElem?_toArray, List.getElem?_cons_zero, List.getElem?_cons_succ]; rfl)
        case stepy7f0 =>
          rw [if_pos (by rfl)]
          refine wp_load_mid 52 (.tmp 5) rfl w.heap.size 0 rfl (u8s bs) _ Hrb.out Try.underlying52 rfl hsizeL ?_
          refine hK _ _ ?_
          clear hK K
          try simp only [Act.put, List.setIfInBounds_toArray, List.set_cons_zero, List.set_cons_succ]
          refine wpAny_take (i := 7) (oi := ?oiy8) (v := .agg (pieceCells ((n : Int), bs)).toArray) ?hiy8 ?hay8 ?hby8 ?hcy8 ?hqy8 ?hyy8 ?resty8
          case hiy8 => (simp only [List.getElem?_toArray, List.getElem?_cons_zero, List.getElem?_cons_succ]; rfl)
          case hay8 => kernel_rfl
          case hby8 => kernel_rfl
          case hcy8 => kernel_rfl
          case hyy8 => exact Or.inl ⟨by rfl, fun w' => run_build_op 87 _ rfl _ (by simp only [List.map_toArray, List.map_cons, List.map_nil]; exact Hbuild.out w')⟩
          case hqy8 => exact fun _ _ _ h => h
          try simp only [Act.put, List.setIfInBounds_toArray, List.set_cons_zero, List.set_cons_succ]
          refine wpAny_ready (rs := [8]) (by kernel_rfl) (by simp) ?_
          refine AllReady.cons (o := ?oiy9f0) ?hiy9f0 (fun K hK => ?stepy9f0) ?morey9f0
          case hiy9f0 => (simp only [List.getElem?_toArray, List.getElem?_cons_zero, List.getElem?_cons_succ]; rfl)
          case stepy9f0 =>
            rw [if_pos (by rfl)]
            refine wp_buildSlice 61 87 1 _ rfl (pieceCells ((n : Int), bs)).toArray ip (.agg zeroPiece) Try.underlying61 hip hzp (by rw [hsp]; decide) (by rw [hsp]; decide) (by simp only [List.map_toArray, List.map_cons, List.map_nil]; exact piece_slice ((n : Int), bs) hl1 ip (.agg zeroPiece) hsp zeroPiece_size) ?_
            refine hK _ _ ?_
            clear hK K
            try simp only [Act.put, List.setIfInBounds_toArray, List.set_cons_zero, List.set_cons_succ]
            refine wpAny_ready (rs := [9]) (by kernel_rfl) (by simp) ?_
            refine AllReady.cons (o := ?oiy10f0) ?hiy10f0 (fun K hK => ?stepy10f0) ?morey10f0
            case hiy10f0 => (simp only [List.getElem?_toArray, List.getElem?_cons_zero, List.getElem?_cons_succ]; rfl)
            case stepy10f0 =>
              refine step_append_lies _ rfl (.tmp 40) (.tmp 44) 61 rfl 0 87 ip (.agg zeroPiece) 129 136 Try.underlying61 hip hzp hsp hbp zeroPiece_size (by decide) vw S.waits.length (flatP S.waits) (by simp [Act.eval]) Hwt.out ⟨wA.heap.size, 0, none⟩ 1 1 (pieceCells ((n : Int), bs)) (by simp [Act.eval]) (pieceCells_len hl1) (World.news_of_block (heap_alloc_new wA _)) (one_piece _) (by omega) (by simp only [maxLen]; omega) (by omega) (Nat.zero_le _) _ rfl ?_
              intro g2 cap2 w3 hown2 hg2 hat2 hlt2
              have Hown2 := Lib.hid hown2
              have Hg2 := Lib.hid hg2
              have Hat2 := Lib.hid hat2
              have hcw3 : w3.cell? ⟨b, 1, none⟩ = some vw := (Hend.out _ _ hg2).cell (i := 1) rfl
              have hfw3 : w3.frozen? ⟨b, 1, none⟩ = false := (Hend.out _ _ hg2).frozen 1
              clear hown2 hg2 hat2 hlt2
              refine hK _ _ ?_
              clear hK K
              try simp only [Act.put, List.setIfInBounds_toArray, List.set_cons_zero, List.set_cons_succ]
              refine wpAny_take (i := 10) (oi := ?oiy11) (v := ?vy11) ?hiy11 ?hay11 ?hby11 ?hcy11 ?hqy11 ?hyy11 ?resty11
              case hiy11 => (simp only [List.getElem?_toArray, List.getElem?_cons_zero, List.getElem?_cons_succ]; rfl)
              case hay11 => kernel_rfl
              case hby11 => kernel_rfl
              case hcy11 => kernel_rfl
              case hyy11 => exact Or.inl ⟨by rfl, by (intro w; go_simp; (try with_reducible rfl))⟩
              case hqy11 => exact fun _ _ _ h => h
              try simp only [Act.put, List.setIfInBounds_toArray, List.set_cons_zero, List.set_cons_succ]
              refine wpAny_take (i := 11) (oi := ?oiy12) (v := ?vy12) ?hiy12 ?hay12 ?hby12 ?hcy12 ?hqy12 ?hyy12 ?resty12
              case hiy12 => (simp only [List.getElem?_toArray, List.getElem?_cons_zero, List.getElem?_cons_succ]; rfl)
              case hay12 => kernel_rfl
              case hby12 => kernel_rfl
              case hcy12 => kernel_rfl
              case hyy12 => exact Or.inl ⟨by rfl, by (intro w; go_simp; (try with_reducible rfl))⟩
              case hqy12 => exact fun _ _ _ h => h
              try simp only [Act.put, List.setIfInBounds_toArray, List.set_cons_zero, List.set_cons_succ]
              refine wpAny_ready (rs := [12]) (by kernel_rfl) (by simp) ?_
              refine AllReady.cons (o := ?oiy13f0) ?hiy13f0 (fun K hK => ?stepy13f0) ?morey13f0
              case hiy13f0 => (simp only [List.getElem?_toArray, List.getElem?_cons_zero, List.getElem?_cons_succ]; rfl)
              case stepy13f0 =>
                go_simp
                refine hK _ _ ?_
                clear hK K
                try simp only [Act.put, List.setIfInBounds_toArray, List.set_cons_zero, List.set_cons_succ]
                clear hcw3 hfw3
                refine wpAny_done (by kernel_rfl) ?_ _
                go_wp2_with fail
                go_meet
                exact ⟨g2, cap2, w3, _, Hown2.out, Hg2.out, Hat2.out, rfl⟩
              case morey13f0 => exact AllReady.nil
            case morey10f0 => exact AllReady.nil
          case morey9f0 => exact AllReady.nil
        case morey7f0 => exact AllReady.nil
      case morey6f0 =>
        refine AllReady.cons (o := ?oiy6f1) ?hiy6f1 (fun K hK => ?stepy6f1) ?morey6f1
        case hiy6f1 => (simp only [List.getElem?_toArray, List.getElem?_cons_zero, List.getElem?_cons_succ]; rfl)
        case stepy6f1 =>
          rw [if_pos (by rfl)]
          refine wp_load_mid 52 (.tmp 5) rfl w.heap.size 0 rfl (u8s bs) _ Hrb.out Try.underlying52 rfl hsizeL ?_
          refine hK _ _ ?_
          clear hK K
          try simp only [Act.put, List.setIfInBounds_toArray, List.set_cons_zero, List.set_cons_succ]
          refine wpAny_take (i := 7) (oi := ?oiy15) (v := .agg (pieceCells ((n : Int), bs)).toArray) ?hiy15 ?hay15 ?hby15 ?hcy15 ?hqy15 ?hyy15 ?resty15
          case hiy15 => (simp only [List.getElem?_toArray, List.getElem?_cons_zero, List.getElem?_cons_succ]; rfl)
          case hay15 => kernel_rfl
          case hby15 => kernel_rfl
          case hcy15 => kernel_rfl
          case hyy15 => exact Or.inl ⟨by rfl, fun w' => run_build_op 87 _ rfl _ (by simp only [List.map_toArray, List.map_cons, List.map_nil]; exact Hbuild.out w')⟩
          case hqy15 => exact fun _ _ _ h => h
          try simp only [Act.put, List.setIfInBounds_toArray, List.set_cons_zero, List.set_cons_succ]
          refine wpAny_ready (rs := [4, 8]) (by kernel_rfl) (by simp) ?_
          refine AllReady.cons (o := ?oiy16f0) ?hiy16f0 (fun K hK => ?stepy16f0) ?morey16f0
          case hiy16f0 => (simp only [List.getElem?_toArray, List.getElem?_cons_zero, List.getElem?_cons_succ]; rfl)
          case stepy16f0 =>
            go_simp
            refine hK _ _ ?_
            clear hK K
            try simp only [Act.put, List.setIfInBounds_toArray, List.set_cons_zero, List.set_cons_succ]
            refine wpAny_ready (rs := [8]) (by kernel_rfl) (by simp) ?_
            refine AllReady.cons (o := ?oiy17f0) ?hiy17f0 (fun K hK => ?stepy17f0) ?morey17f0
            case hiy17f0 => (simp only [List.getElem?_toArray, List.getElem?_cons_zero, List.getElem?_cons_succ]; rfl)
            case stepy17f0 =>
              rw [if_pos (by rfl)]
              refine wp_buildSlice 61 87 1 _ rfl (pieceCells ((n : Int), bs)).toArray ip (.agg zeroPiece) Try.underlying61 hip hzp (by rw [hsp]; decide) (by rw [hsp]; decide) (by simp only [List.map_toArray, List.map_cons, List.map_nil]; exact piece_slice ((n : Int), bs) hl1 ip (.agg zeroPiece) hsp zeroPiece_size) ?_
              refine hK _ _ ?_
              clear hK K
              try simp only [Act.put, List.setIfInBounds_toArray, List.set_cons_zero, List.set_cons_succ]
              refine wpAny_ready (rs := [9]) (by kernel_rfl) (by simp) ?_
              refine AllReady.cons (o := ?oiy18f0) ?hiy18f0 (fun K hK => ?stepy18f0) ?morey18f0
              case hiy18f0 => (simp only [List.getElem?_toArray, List.getElem?_cons_zero, List.getElem?_cons_succ]; rfl)
              case stepy18f0 =>
                refine step_append_lies _ rfl (.tmp 40) (.tmp 44) 61 rfl 0 87 ip (.agg zeroPiece) 129 136 Try.underlying61 hip hzp hsp hbp zeroPiece_size (by decide) vw S.waits.length (flatP S.waits) (by simp [Act.eval]) Hwt.out ⟨wA.heap.size, 0, none⟩ 1 1 (pieceCells ((n : Int), bs)) (by simp [Act.eval]) (pieceCells_len hl1) (World.news_of_block (heap_alloc_new wA _)) (one_piece _) (by omega) (by simp only [maxLen]; omega) (by omega) (Nat.zero_le _) _ rfl ?_
                intro g2 cap2 w3 hown2 hg2 hat2 hlt2
                have Hown2 := Lib.hid hown2
                have Hg2 := Lib.hid hg2
                have Hat2 := Lib.hid hat2
                have hcw3 : w3.cell? ⟨b, 1, none⟩ = some vw := (Hend.out _ _ hg2).cell (i := 1) rfl
                have hfw3 : w3.frozen? ⟨b, 1, none⟩ = false := (Hend.out _ _ hg2).frozen 1
                clear hown2 hg2 hat2 hlt2
                refine hK _ _ ?_
                clear hK K
                try simp only [Act.put, List.setIfInBounds_toArray, List.set_cons_zero, List.set_cons_succ]
                refine wpAny_take (i := 10) (oi := ?oiy19) (v := ?vy19) ?hiy19 ?hay19 ?hby19 ?hcy19 ?hqy19 ?hyy19 ?resty19
                case hiy19 => (simp only [List.getElem?_toArray, List.getElem?_cons_zero, List.getElem?_cons_succ]; rfl)
                case hay19 => kernel_rfl
                case hby19 => kernel_rfl
                case hcy19 => kernel_rfl
                case hyy19 => exact Or.inl ⟨by rfl, by (intro w; go_simp; (try with_reducible rfl))⟩
                case hqy19 => exact fun _ _ _ h => h
                try simp only [Act.put, List.setIfInBounds_toArray, List.set_cons_zero, List.set_cons_succ]
                refine wpAny_take (i := 11) (oi := ?oiy20) (v := ?vy20) ?hiy20 ?hay20 ?hby20 ?hcy20 ?hqy20 ?hyy20 ?resty20
                case hiy20 => (simp only [List.getElem?_toArray, List.getElem?_cons_zero, List.getElem?_cons_succ]; rfl)
                case hay20 => kernel_rfl
                case hby20 => kernel_rfl
                case hcy20 => kernel_rfl
                case hyy20 => exact Or.inl ⟨by rfl, by (intro w; go_simp; (try with_reducible rfl))⟩
                case hqy20 => exact fun _ _ _ h => h
                try simp only [Act.put, List.setIfInBounds_toArray, List.set_cons_zero, List.set_cons_succ]
                refine wpAny_ready (rs := [12]) (by kernel_rfl) (by simp) ?_
                refine AllReady.cons (o := ?oiy21f0) ?hiy21f0 (fun K hK => ?stepy21f0) ?morey21f0
                case hiy21f0 => (simp only [List.getElem?_toArray, List.getElem?_cons_zero, List.getElem?_cons_succ]; rfl)
                case stepy21f0 =>
                  go_simp
                  refine hK _ _ ?_
                  clear hK K
                  try simp only [Act.put, List.setIfInBounds_toArray, List.set_cons_zero, List.set_cons_succ]
                  clear hcw3 hfw3
                  refine wpAny_done (by kernel_rfl) ?_ _
                  go_wp2_with fail
                  go_meet
                  exact ⟨g2, cap2, w3, _, Hown2.out, Hg2.out, Hat2.out, rfl⟩
                case morey21f0 => exact AllReady.nil
              case morey18f0 => exact AllReady.nil
            case morey17f0 => exact AllReady.nil
          case morey16f0 =>
            refine AllReady.cons (o := ?oiy16f1) ?hiy16f1 (fun K hK => ?stepy16f1) ?morey16f1
            case hiy16f1 => (simp only [List.getElem?_toArray, List.getElem?_cons_zero, List.getElem?_cons_succ]; rfl)
            case stepy16f1 =>
              rw [if_pos (by rfl)]
              refine wp_buildSlice 61 87 1 _ rfl (pieceCells ((n : Int), bs)).toArray ip (.agg zeroPiece) Try.underlying61 hip hzp (by rw [hsp]; decide) (by rw [hsp]; decide) (by simp only [List.map_toArray, List.map_cons, List.map_nil]; exact piece_slice ((n : Int), bs) hl1 ip (.agg zeroPiece) hsp zeroPiece_size) ?_
              refine hK _ _ ?_
              clear hK K
              try simp only [Act.put, List.setIfInBounds_toArray, List.set_cons_zero, List.set_cons_succ]
              refine wpAny_ready (rs := [4]) (by kernel_rfl) (by simp) ?_
              refine AllReady.cons (o := ?oiy23f0) ?hiy23f0 (fun K hK => ?stepy23f0) ?morey23f0
              case hiy23f0 => (simp only [List.getElem?_toArray, List.getElem?_cons_zero, List.getElem?_cons_succ]; rfl)
              case stepy23f0 =>
                go_simp
                refine hK _ _ ?_
                clear hK K
                try simp only [Act.put, List.setIfInBounds_toArray, List.set_cons_zero, List.set_cons_succ]
                refine wpAny_ready (rs := [9]) (by kernel_rfl) (by simp) ?_
                refine AllReady.cons (o := ?oiy24f0) ?hiy24f0 (fun K hK => ?stepy24f0) ?morey24f0
                case hiy24f0 => (simp only [List.getElem?_toArray, List.getElem?_cons_zero, List.getElem?_cons_succ]; rfl)
                case stepy24f0 =>
                  refine step_append_lies _ rfl (.tmp 40) (.tmp 44) 61 rfl 0 87 ip (.agg zeroPiece) 129 136 Try.underlying61 hip hzp hsp hbp zeroPiece_size (by decide) vw S.waits.length (flatP S.waits) (by simp [Act.eval]) Hwt.out ⟨wA.heap.size, 0, none⟩ 1 1 (pieceCells ((n : Int), bs)) (by simp [Act.eval]) (pieceCells_len hl1) (World.news_of_block (heap_alloc_new wA _)) (one_piece _) (by omega) (by simp only [maxLen]; omega) (by omega) (Nat.zero_le _) _ rfl ?_
                  intro g2 cap2 w3 hown2 hg2 hat2 hlt2
                  have Hown2 := Lib.hid hown2
                  have Hg2 := Lib.hid hg2
                  have Hat2 := Lib.hid hat2
                  have hcw3 : w3.cell? ⟨b, 1, none⟩ = some vw := (Hend.out _ _ hg2).cell (i := 1) rfl
                  have hfw3 : w3.frozen? ⟨b, 1, none⟩ = false := (Hend.out _ _ hg2).frozen 1
                  clear hown2 hg2 hat2 hlt2
                  refine hK _ _ ?_
                  clear hK K
                  try simp only [Act.put, List.setIfInBounds_toArray, List.set_cons_zero, List.set_cons_succ]
                  refine wpAny_take (i := 10) (oi := ?oiy25) (v := ?vy25) ?hiy25 ?hay25 ?hby25 ?hcy25 ?hqy25 ?hyy25 ?resty25
                  case hiy25 => (simp only [List.getElem?_toArray, List.getElem?_cons_zero, List.getElem?_cons_succ]; rfl)
                  case hay25 => kernel_rfl
                  case hby25 => kernel_rfl
                  case hcy25 => kernel_rfl
                  case hyy25 => exact Or.inl ⟨by rfl, by (intro w; go_simp; (try with_reducible rfl))⟩
                  case hqy25 => exact fun _ _ _ h => h
                  try simp only [Act.put, List.setIfInBounds_toArray, List.set_cons_zero, List.set_cons_succ]
                  refine wpAny_take (i := 11) (oi := ?oiy26) (v := ?vy26) ?hiy26 ?hay26 ?hby26 ?hcy26 ?hqy26 ?hyy26 ?resty26
                  case hiy26 => (simp only [List.getElem?_toArray, List.getElem?_cons_zero, List.getElem?_cons_succ]; rfl)
                  case hay26 => kernel_rfl
                  case hby26 => kernel_rfl
                  case hcy26 => kernel_rfl
                  case hyy26 => exact Or.inl ⟨by rfl, by (intro w; go_simp; (try with_reducible rfl))⟩
                  case hqy26 => exact fun _ _ _ h => h
                  try simp only [Act.put, List.setIfInBounds_toArray, List.set_cons_zero, List.set_cons_succ]
                  refine wpAny_ready (rs := [12]) (by kernel_rfl) (by simp) ?_
                  refine AllReady.cons (o := ?oiy27f0) ?hiy27f0 (fun K hK => ?stepy27f0) ?morey27f0
                  case hiy27f0 => (simp only [List.getElem?_toArray, List.getElem?_cons_zero, List.getElem?_cons_succ]; rfl)
                  case stepy27f0 =>
                    go_simp
                    refine hK _ _ ?_
                    clear hK K
                    try simp only [Act.put, List.setIfInBounds_toArray, List.set_cons_zero, List.set_cons_succ]
                    clear hcw3 hfw3
                    refine wpAny_done (by kernel_rfl) ?_ _
                    go_wp2_with fail
                    go_meet
                    exact ⟨g2, cap2, w3, _, Hown2.out, Hg2.out, Hat2.out, rfl⟩
                  case morey27f0 => exact AllReady.nil
                case morey24f0 => exact AllReady.nil
              case morey23f0 => exact AllReady.nil
            case morey16f1 => exact AllReady.nil
        case morey6f1 => exact AllReady.nil
    case rest =>
      obtain ⟨g2, cap2, w3, o, hown2, hg2, hat2, rfl⟩ := hcut
      obtain ⟨hO3, hb3, hs3, hend⟩ := pput_end (left := lf) (o := o) (w3 := w3) Hwf.out Hn.out Hb.out Hh.out Hfin.out Hleft.out.1 Hleft.out.2 HA.out HOA.out HsA.out ⟨hg2.os, hg2.tape, hg2.output, hg2.size, hg2.block⟩ hown2 (fun k hk => by
        cases hk
        rcases hat2 with e | e
        · exact Or.inl e
        · right; rw [e, nblk_alloc]; exact Nat.le_succ_of_le HOA.out.size)
      have hsb : sb ≠ b := hs3.ne hb3 (by decide)
      obtain ⟨m, hm⟩ : ∃ m, m = S.waits.length := ⟨_, rfl⟩
      obtain ⟨w4, hw4⟩ : ∃ w4, w4 = w3.setCell ⟨b, 1, none⟩ (.slice (some ⟨g2, 0, none⟩) (S.waits.length + 1) cap2) := ⟨_, rfl⟩
      have hb4 := hb3.set 1 (.slice (some ⟨g2, 0, none⟩) (S.waits.length + 1) cap2)
      have hs4 := hs3.setOther (a := ⟨b, 1, none⟩) hsb (.slice (some ⟨g2, 0, none⟩) (S.waits.length + 1) cap2)
      rw [← hw4] at hb4 hs4 hend ⊢
      have hc41 : w4.cell? ⟨b, 1, none⟩ = some (.slice (some ⟨g2, 0, none⟩) (m + 1) cap2) := by rw [hm]; exact hb4.cell (i := 1) rfl
      have hcs := hs4.cell (Hh.out.secs.last n Hn.out)
      have hfs := hs4.frozen (n * 130 + 129)
      have hO4 : Only F w1 w4 := by rw [hw4]; exact hO3.set (Or.inr hFb) _
      have hz4 : w4.heap.size = w3.heap.size := by rw [hw4, nblk_setCell]
      rw [← hm] at hend hmany
      obtain ⟨w5, hw5⟩ : ∃ w5, w5 = w4.setCell ⟨sb, n * 130 + 129, none⟩ (.int .i64 ((m : Int) + 1)) := ⟨_, rfl⟩
      have hc55 : (w4.setCell ⟨sb, n * 130 + 129, none⟩ (.int .i64 ((m : Int) + 1))).cell? ⟨b, 5, none⟩ = some (.pointer (some ⟨mb, 0, none⟩)) := hend.head.cell (i := 5) rfl
      rw [← hw5] at hend
      have hO5 : Only F w1 w5 := by rw [hw5]; exact hO4.set (Or.inr Hh.out.fs) _
      have hz5 : w5.heap.size = w3.heap.size := by rw [hw5, nblk_setCell, hz4]
      have hwf5 := Hwf.out.put Hn.out Hb.out
      have Hw5 := Lib.hid hw5
      have hcnt := dcount_is (More F w1 w3) w5 b (S.put n bs) 0 (S.put n bs).waits sb mb _ _ c L hwf5 hend 1 (by omega) 2 rfl
      have Hcl := Lib.hid (show ∀ k, More F w1 w3 k → k < w5.heap.size by
        intro k hk
        rw [hz5]
        rcases hk with hk | hk
        · exact Nat.lt_of_lt_of_le (Hfin.out k hk) hO3.size
        · exact hk.2)
      have Hoff := Lib.hid (show ((S.put n bs).count 1).off = false from Ho.out)
      have Hz5 := Lib.hid hz5
      have Hwf5 := Lib.hid hwf5
      have Hm := Lib.hid hm
      have HO5 := Lib.hid hO5
      have Hend5 := Lib.hid hend
      clear hend hwf5 hw5 hz5 hw4 hz4 hO5 hO4 hm hb3 hs3 hb4 hs4 hown2 hg2 hat2 hc1A hc1B hc1C Hrb Hwt Hend HA HsA HOA hO3
      go_wp2_with fail
      rw [← Hw5.out]
      refine hcnt.mono ?_
      rintro e w6 ⟨rfl, ⟨L', h6⟩, hg6⟩
      obtain ⟨hp6, hO6⟩ := count_back Hwf5.out (Or.inl hFb) Hcl.out h6 hg6
      go_wp2_with fail
      refine (dspend_is _ _ _ _ hp6 Hoff.out).mono ?_
      rintro e w7 ⟨rfl, hp7, hO7⟩
      go_wp2
      go_ret
      refine ⟨rfl, hp7.mono' (fun k hk => ?_) (fun k hk => ?_), ?_⟩
      · rcases hk with hk | hk
        · exact Or.inl hk
        · refine Or.inr ⟨Nat.le_trans hb1.size hk.1, ?_⟩
          have := hO6.size; have := hO7.size; have := Hz5.out; omega
      · rcases hk with hk | hk
        · have := hF0 k hk; have := hb1.size; have := HO5.out.size; have := hO6.size; have := hO7.size; omega
        · exact hk.2
      · have e1 : Only F w w5 := (Only.of_below (F := F) hb1).trans HO5.out (fun _ _ h => h)
        have drop : ∀ k, k < w.heap.size → More F w1 w3 k → F k := fun k hk hm => by
          rcases hm with hm | hm
          · exact hm
          · have := hb1.size; omega
        exact (e1.trans hO6 drop).trans hO7 drop
  case true =>
    rw [hiuse] at hiu hpu
    have hpu : (S.put n bs).used = S.used := hpu
    obtain ⟨lf, hlf⟩ : ∃ lf, lf = l := ⟨_, rfl⟩
    have Hleft := Lib.hid (show lf = S.room - ((S.put n bs).used : Int) ∧ ((S.put n bs).used : Int) ≤ S.room by rw [hpu, hlf]; exact ⟨hl, huse⟩)
    have Hlf := Lib.hid hlf
    clear hw1 h hwf hfin hu hl hK ho huse hn hpu hvw hiuse hlf
    go_enter Try.func23, Try.ntmps23
    go_wp2_with fail
    rw [← Hw1.out]
    clear Hw1
    refine hr1.mono ?_
    rintro e w2 ⟨rfl, hw⟩
    obtain rfl := hw.symm
    go_wp2_with fail
    refine hiu.mono ?_
    rintro e w2 ⟨rfl, hw⟩
    obtain rfl := hw.symm
    go_upto_region 9 with fail
    obtain ⟨wA, hwA⟩ : ∃ wA, wA = w1 := ⟨_, rfl⟩
    have hA : Blk wA b 63 [.slice (some ⟨sb, 0, none⟩) S.kept.length S.kept.length, vw, .int .i64 lf, .int .i64 c, .bool S.off, .pointer (some ⟨mb, 0, none⟩)] := by rw [hwA, Hlf.out, Hl.out]; exact Hh.out.head
    have hOA : Only F w1 wA := by rw [hwA]; exact Only.refl _ _
    have hsA : ∀ k, k < w1.heap.size → k ≠ b → wA.heap[k]? = w1.heap[k]? := by rw [hwA]; exact fun _ _ _ => rfl
    rw [← hwA]
    clear hwA Hlf
    have hc1A : wA.drew.cell? ⟨b, 1, none⟩ = some vw := hA.cell (i := 1) rfl
    have hc1B : ((wA.drew).alloc (.cells (pieceCells ((n : Int), bs)).toArray 87)).cell? ⟨b, 1, none⟩ = some vw := (hA.alloc _).cell (i := 1) rfl
    have hc1C : (wA.alloc (.cells (pieceCells ((n : Int), bs)).toArray 87)).cell? ⟨b, 1, none⟩ = some vw := (hA.alloc _).cell (i := 1) rfl
    have Hrb := Lib.hid (show wA.drew.rangeAt w.heap.size 0 (u8s bs) from fun j v hj => by
      rw [Nat.zero_add]
      exact (hbx.kept (hsA _ hbx.lt (fun e => by have := hF0 b hFb; omega))).cell hj)
    have Hwt := Lib.hid (show ((wA.drew).alloc (.cells (pieceCells ((n : Int), bs)).toArray 87)).ownsRow 0 87 129 vw S.waits.length (flatP S.waits) from
      (Hh.out.wait.kept (w' := (wA.drew).alloc (.cells (pieceCells ((n : Int), bs)).toArray 87)) (fun g hg hv => by
        obtain ⟨vs', hv⟩ := hv
        rw [blk_alloc_lt _ _ _ (show g < wA.drew.heap.size from Nat.lt_of_lt_of_le hv.lt hOA.size)]
        exact hsA g hv.lt (hv.ne Hh.out.head (by decide)))).own)
    have hbne : some b ≠ vw.ownBlock := fun e => by
      obtain ⟨_, vs', hv⟩ := Hh.out.wait.ownF e.symm
      exact (Hh.out.head.ne hv (by decide)) rfl
    have Hend := Lib.hid (fun (o : Obj) (w3 : World) (hg : ((wA.drew).alloc o).grownBy w3 vw.ownBlock) => show Blk w3 b 63 [.slice (some ⟨sb, 0, none⟩) S.kept.length S.kept.length, vw, .int .i64 lf, .int .i64 c, .bool S.off, .pointer (some ⟨mb, 0, none⟩)] from
      hA.kept (by rw [hg.block b (by rw [nblk_alloc]; exact Nat.lt_succ_of_lt hA.lt) hbne]; exact blk_alloc_lt wA.drew o b hA.lt))
    have HA := Lib.hid hA
    have HsA := Lib.hid hsA
    have HOA := Lib.hid hOA
    clear hA hsA hOA
    go_cut [] from 36 to 47 (fun wc => ∃ g2 cap2 w3 o, w3.ownsRow 0 87 129 (.slice (some ⟨g2, 0, none⟩) (S.waits.length + 1) cap2) (S.waits.length + 1) (flatP S.waits ++ pieceCells ((n : Int), bs)) ∧ ((wA.drew).alloc o).grownBy w3 vw.ownBlock ∧ (vw.ownBlock = some g2 ∨ g2 = ((wA.drew).alloc o).heap.size) ∧ wc = w3.setCell ⟨b, 1, none⟩ (.slice (some ⟨g2, 0, none⟩) (S.waits.length + 1) cap2))
    case first =>
      refine wp_region_any (by kernel_rfl) ?_
      try (change wpAny _ _ _ _ _ _ _ (World.drew _))
      refine wpAny_take (i := 0) (oi := ?oiy29) (v := ?vy29) ?hiy29 ?hay29 ?hby29 ?hcy29 ?hqy29 ?hyy29 ?resty29
      case hiy29 => (simp only [List.getElem?_toArray, List.getElem?_cons_zero, List.getElem?_cons_succ]; rfl)
      case hay29 => kernel_rfl
      case hby29 => kernel_rfl
      case hcy29 => kernel_rfl
      case hyy29 => exact Or.inl ⟨by rfl, by (intro w; go_simp; (try with_reducible rfl))⟩
      case hqy29 => exact fun _ _ _ h => h
      try simp only [Act.put, List.setIfInBounds_toArray, List.set_cons_zero, List.set_cons_succ]
      refine wpAny_take (i := 1) (oi := ?oiy30) (v := ?vy30) ?hiy30 ?hay30 ?hby30 ?hcy30 ?hqy30 ?hyy30 ?resty30
      case hiy30 => (simp only [List.getElem?_toArray, List.getElem?_cons_zero, List.getElem?_cons_succ]; rfl)
      case hay30 => kernel_rfl
      case hby30 => kernel_rfl
      case hcy30 => kernel_rfl
      case hyy30 => exact Or.inl ⟨by rfl, by (intro w; go_simp; (try with_reducible rfl))⟩
      case hqy30 => exact fun _ _ _ h => h
      try simp only [Act.put, List.setIfInBounds_toArray, List.set_cons_zero, List.set_cons_succ]
      refine wpAny_take (i := 2) (oi := ?oiy31) (v := ?vy31) ?hiy31 ?hay31 ?hby31 ?hcy31 ?hqy31 ?hyy31 ?resty31
      case hiy31 => (simp only [List.getElem?_toArray, List.getElem?_cons_zero, List.getElem?_cons_succ]; rfl)
      case hay31 => kernel_rfl
      case hby31 => kernel_rfl
      case hcy31 => kernel_rfl
      case hyy31 => exact Or.inl ⟨by rfl, by (intro w; go_simp; (try with_reducible rfl))⟩
      case hqy31 => exact fun _ _ _ h => h
      try simp only [Act.put, List.setIfInBounds_toArray, List.set_cons_zero, List.set_cons_succ]
      refine wpAny_take (i := 3) (oi := ?oiy32) (v := ?vy32) ?hiy32 ?hay32 ?hby32 ?hcy32 ?hqy32 ?hyy32 ?resty32
      case hiy32 => (simp only [List.getElem?_toArray, List.getElem?_cons_zero, List.getElem?_cons_succ]; rfl)
      case hay32 => kernel_rfl
      case hby32 => kernel_rfl
      case hcy32 => kernel_rfl
      case hyy32 => exact Or.inl ⟨by rfl, by (intro w; go_simp; (try with_reducible rfl))⟩
      case hqy32 => exact fun _ _ _ h => h
      try simp only [Act.put, List.setIfInBounds_toArray, List.set_cons_zero, List.set_cons_succ]
      refine wpAny_take (i := 5) (oi := ?oiy33) (v := ?vy33) ?hiy33 ?hay33 ?hby33 ?hcy33 ?hqy33 ?hyy33 ?resty33
      case hiy33 => (simp only [List.getElem?_toArray, List.getElem?_cons_zero, List.getElem?_cons_succ]; rfl)
      case hay33 => kernel_rfl
      case hby33 => kernel_rfl
      case hcy33 => kernel_rfl
      case hyy33 => exact Or.inl ⟨by rfl, by (intro w; go_simp; (try with_reducible rfl))⟩
      case hqy33 => exact fun _ _ _ h => h
      try simp only [Act.put, List.setIfInBounds_toArray, List.set_cons_zero, List.set_cons_succ]
      refine wpAny_ready (rs := [4, 6]) (by kernel_rfl) (by simp) ?_
      refine AllReady.cons (o := ?oiy34f0) ?hiy34f0 (fun K hK => ?stepy34f0) ?morey34f0
      case hiy34f0 => (simp only [List.getElem?_toArray, List.getElem?_cons_zero, List.getElem?_cons_succ]; rfl)
      case stepy34f0 =>
        go_simp
        refine hK _ _ ?_
        clear hK K
        try simp only [Act.put, List.setIfInBounds_toArray, List.set_cons_zero, List.set_cons_succ]
        refine wpAny_ready (rs := [6]) (by kernel_rfl) (by simp) ?_
        refine AllReady.cons (o := ?oiy35f0) ?hiy35f0 (fun K hK => ?stepy35f0) ?morey35f0
        case hiy35f0 => (simp only [List.getElem?_toArray, List.getElem?_cons_zero, List.getElem?_cons_succ]; rfl)
        case stepy35f0 =>
          rw [if_pos (by rfl)]
          refine wp_load_mid 52 (.tmp 5) rfl w.heap.size 0 rfl (u8s bs) _ Hrb.out Try.underlying52 rfl hsizeL ?_
          refine hK _ _ ?_
          clear hK K
          try simp only [Act.put, List.setIfInBounds_toArray, List.set_cons_zero, List.set_cons_succ]
          refine wpAny_take (i := 7) (oi := ?oiy36) (v := .agg (pieceCells ((n : Int), bs)).toArray) ?hiy36 ?hay36 ?hby36 ?hcy36 ?hqy36 ?hyy36 ?resty36
          case hiy36 => (simp only [List.getElem?_toArray, List.getElem?_cons_zero, List.getElem?_cons_succ]; rfl)
          case hay36 => kernel_rfl
          case hby36 => kernel_rfl
          case hcy36 => kernel_rfl
          case hyy36 => exact Or.inl ⟨by rfl, fun w' => run_build_op 87 _ rfl _ (by simp only [List.map_toArray, List.map_cons, List.map_nil]; exact Hbuild.out w')⟩
          case hqy36 => exact fun _ _ _ h => h
          try simp only [Act.put, List.setIfInBounds_toArray, List.set_cons_zero, List.set_cons_succ]
          refine wpAny_ready (rs := [8]) (by kernel_rfl) (by simp) ?_
          refine AllReady.cons (o := ?oiy37f0) ?hiy37f0 (fun K hK => ?stepy37f0) ?morey37f0
          case hiy37f0 => (simp only [List.getElem?_toArray, List.getElem?_cons_zero, List.getElem?_cons_succ]; rfl)
          case stepy37f0 =>
            rw [if_pos (by rfl)]
            refine wp_buildSlice 61 87 1 _ rfl (pieceCells ((n : Int), bs)).toArray ip (.agg zeroPiece) Try.underlying61 hip hzp (by rw [hsp]; decide) (by rw [hsp]; decide) (by simp only [List.map_toArray, List.map_cons, List.map_nil]; exact piece_slice ((n : Int), bs) hl1 ip (.agg zeroPiece) hsp zeroPiece_size) ?_
            refine hK _ _ ?_
            clear hK K
            try simp only [Act.put, List.setIfInBounds_toArray, List.set_cons_zero, List.set_cons_succ]
            refine wpAny_ready (rs := [9]) (by kernel_rfl) (by simp) ?_
            refine AllReady.cons (o := ?oiy38f0) ?hiy38f0 (fun K hK => ?stepy38f0) ?morey38f0
            case hiy38f0 => (simp only [List.getElem?_toArray, List.getElem?_cons_zero, List.getElem?_cons_succ]; rfl)
            case stepy38f0 =>
              refine step_append_lies _ rfl (.tmp 40) (.tmp 44) 61 rfl 0 87 ip (.agg zeroPiece) 129 136 Try.underlying61 hip hzp hsp hbp zeroPiece_size (by decide) vw S.waits.length (flatP S.waits) (by simp [Act.eval]) Hwt.out ⟨wA.heap.size, 0, none⟩ 1 1 (pieceCells ((n : Int), bs)) (by simp [Act.eval]) (pieceCells_len hl1) (World.news_of_block (heap_alloc_new wA _)) (one_piece _) (by omega) (by simp only [maxLen]; omega) (by omega) (Nat.zero_le _) _ rfl ?_
              intro g2 cap2 w3 hown2 hg2 hat2 hlt2
              have Hown2 := Lib.hid hown2
              have Hg2 := Lib.hid hg2
              have Hat2 := Lib.hid hat2
              have hcw3 : w3.cell? ⟨b, 1, none⟩ = some vw := (Hend.out _ _ hg2).cell (i := 1) rfl
              have hfw3 : w3.frozen? ⟨b, 1, none⟩ = false := (Hend.out _ _ hg2).frozen 1
              clear hown2 hg2 hat2 hlt2
              refine hK _ _ ?_
              clear hK K
              try simp only [Act.put, List.setIfInBounds_toArray, List.set_cons_zero, List.set_cons_succ]
              refine wpAny_take (i := 10) (oi := ?oiy39) (v := ?vy39) ?hiy39 ?hay39 ?hby39 ?hcy39 ?hqy39 ?hyy39 ?resty39
              case hiy39 => (simp only [List.getElem?_toArray, List.getElem?_cons_zero, List.getElem?_cons_succ]; rfl)
              case hay39 => kernel_rfl
              case hby39 => kernel_rfl
              case hcy39 => kernel_rfl
              case hyy39 => exact Or.inl ⟨by rfl, by (intro w; go_simp; (try with_reducible rfl))⟩
              case hqy39 => exact fun _ _ _ h => h
              try simp only [Act.put, List.setIfInBounds_toArray, List.set_cons_zero, List.set_cons_succ]
              refine wpAny_take (i := 11) (oi := ?oiy40) (v := ?vy40) ?hiy40 ?hay40 ?hby40 ?hcy40 ?hqy40 ?hyy40 ?resty40
              case hiy40 => (simp only [List.getElem?_toArray, List.getElem?_cons_zero, List.getElem?_cons_succ]; rfl)
              case hay40 => kernel_rfl
              case hby40 => kernel_rfl
              case hcy40 => kernel_rfl
              case hyy40 => exact Or.inl ⟨by rfl, by (intro w; go_simp; (try with_reducible rfl))⟩
              case hqy40 => exact fun _ _ _ h => h
              try simp only [Act.put, List.setIfInBounds_toArray, List.set_cons_zero, List.set_cons_succ]
              refine wpAny_ready (rs := [12]) (by kernel_rfl) (by simp) ?_
              refine AllReady.cons (o := ?oiy41f0) ?hiy41f0 (fun K hK => ?stepy41f0) ?morey41f0
              case hiy41f0 => (simp only [List.getElem?_toArray, List.getElem?_cons_zero, List.getElem?_cons_succ]; rfl)
              case stepy41f0 =>
                go_simp
                refine hK _ _ ?_
                clear hK K
                try simp only [Act.put, List.setIfInBounds_toArray, List.set_cons_zero, List.set_cons_succ]
                clear hcw3 hfw3
                refine wpAny_done (by kernel_rfl) ?_ _
                go_wp2_with fail
                go_meet
                exact ⟨g2, cap2, w3, _, Hown2.out, Hg2.out, Hat2.out, rfl⟩
              case morey41f0 => exact AllReady.nil
            case morey38f0 => exact AllReady.nil
          case morey37f0 => exact AllReady.nil
        case morey35f0 => exact AllReady.nil
      case morey34f0 =>
        refine AllReady.cons (o := ?oiy34f1) ?hiy34f1 (fun K hK => ?stepy34f1) ?morey34f1
        case hiy34f1 => (simp only [List.getElem?_toArray, List.getElem?_cons_zero, List.getElem?_cons_succ]; rfl)
        case stepy34f1 =>
          rw [if_pos (by rfl)]
          refine wp_load_mid 52 (.tmp 5) rfl w.heap.size 0 rfl (u8s bs) _ Hrb.out Try.underlying52 rfl hsizeL ?_
          refine hK _ _ ?_
          clear hK K
          try simp only [Act.put, List.setIfInBounds_toArray, List.set_cons_zero, List.set_cons_succ]
          refine wpAny_take (i := 7) (oi := ?oiy43) (v := .agg (pieceCells ((n : Int), bs)).toArray) ?hiy43 ?hay43 ?hby43 ?hcy43 ?hqy43 ?hyy43 ?resty43
          case hiy43 => (simp only [List.getElem?_toArray, List.getElem?_cons_zero, List.getElem?_cons_succ]; rfl)
          case hay43 => kernel_rfl
          case hby43 => kernel_rfl
          case hcy43 => kernel_rfl
          case hyy43 => exact Or.inl ⟨by rfl, fun w' => run_build_op 87 _ rfl _ (by simp only [List.map_toArray, List.map_cons, List.map_nil]; exact Hbuild.out w')⟩
          case hqy43 => exact fun _ _ _ h => h
          try simp only [Act.put, List.setIfInBounds_toArray, List.set_cons_zero, List.set_cons_succ]
          refine wpAny_ready (rs := [4, 8]) (by kernel_rfl) (by simp) ?_
          refine AllReady.cons (o := ?oiy44f0) ?hiy44f0 (fun K hK => ?stepy44f0) ?morey44f0
          case hiy44f0 => (simp only [List.getElem?_toArray, List.getElem?_cons_zero, List.getElem?_cons_succ]; rfl)
          case stepy44f0 =>
            go_simp
            refine hK _ _ ?_
            clear hK K
            try simp only [Act.put, List.setIfInBounds_toArray, List.set_cons_zero, List.set_cons_succ]
            refine wpAny_ready (rs := [8]) (by kernel_rfl) (by simp) ?_
            refine AllReady.cons (o := ?oiy45f0) ?hiy45f0 (fun K hK => ?stepy45f0) ?morey45f0
            case hiy45f0 => (simp only [List.getElem?_toArray, List.getElem?_cons_zero, List.getElem?_cons_succ]; rfl)
            case stepy45f0 =>
              rw [if_pos (by rfl)]
              refine wp_buildSlice 61 87 1 _ rfl (pieceCells ((n : Int), bs)).toArray ip (.agg zeroPiece) Try.underlying61 hip hzp (by rw [hsp]; decide) (by rw [hsp]; decide) (by simp only [List.map_toArray, List.map_cons, List.map_nil]; exact piece_slice ((n : Int), bs) hl1 ip (.agg zeroPiece) hsp zeroPiece_size) ?_
              refine hK _ _ ?_
              clear hK K
              try simp only [Act.put, List.setIfInBounds_toArray, List.set_cons_zero, List.set_cons_succ]
              refine wpAny_ready (rs := [9]) (by kernel_rfl) (by simp) ?_
              refine AllReady.cons (o := ?oiy46f0) ?hiy46f0 (fun K hK => ?stepy46f0) ?morey46f0
              case hiy46f0 => (simp only [List.getElem?_toArray, List.getElem?_cons_zero, List.getElem?_cons_succ]; rfl)
              case stepy46f0 =>
                refine step_append_lies _ rfl (.tmp 40) (.tmp 44) 61 rfl 0 87 ip (.agg zeroPiece) 129 136 Try.underlying61 hip hzp hsp hbp zeroPiece_size (by decide) vw S.waits.length (flatP S.waits) (by simp [Act.eval]) Hwt.out ⟨wA.heap.size, 0, none⟩ 1 1 (pieceCells ((n : Int), bs)) (by simp [Act.eval]) (pieceCells_len hl1) (World.news_of_block (heap_alloc_new wA _)) (one_piece _) (by omega) (by simp only [maxLen]; omega) (by omega) (Nat.zero_le _) _ rfl ?_
                intro g2 cap2 w3 hown2 hg2 hat2 hlt2
                have Hown2 := Lib.hid hown2
                have Hg2 := Lib.hid hg2
                have Hat2 := Lib.hid hat2
                have hcw3 : w3.cell? ⟨b, 1, none⟩ = some vw := (Hend.out _ _ hg2).cell (i := 1) rfl
                have hfw3 : w3.frozen? ⟨b, 1, none⟩ = false := (Hend.out _ _ hg2).frozen 1
                clear hown2 hg2 hat2 hlt2
                refine hK _ _ ?_
                clear hK K
                try simp only [Act.put, List.setIfInBounds_toArray, List.set_cons_zero, List.set_cons_succ]
                refine wpAny_take (i := 10) (oi := ?oiy47) (v := ?vy47) ?hiy47 ?hay47 ?hby47 ?hcy47 ?hqy47 ?hyy47 ?resty47
                case hiy47 => (simp only [List.getElem?_toArray, List.getElem?_cons_zero, List.getElem?_cons_succ]; rfl)
                case hay47 => kernel_rfl
                case hby47 => kernel_rfl
                case hcy47 => kernel_rfl
                case hyy47 => exact Or.inl ⟨by rfl, by (intro w; go_simp; (try with_reducible rfl))⟩
                case hqy47 => exact fun _ _ _ h => h
                try simp only [Act.put, List.setIfInBounds_toArray, List.set_cons_zero, List.set_cons_succ]
                refine wpAny_take (i := 11) (oi := ?oiy48) (v := ?vy48) ?hiy48 ?hay48 ?hby48 ?hcy48 ?hqy48 ?hyy48 ?resty48
                case hiy48 => (simp only [List.getElem?_toArray, List.getElem?_cons_zero, List.getElem?_cons_succ]; rfl)
                case hay48 => kernel_rfl
                case hby48 => kernel_rfl
                case hcy48 => kernel_rfl
                case hyy48 => exact Or.inl ⟨by rfl, by (intro w; go_simp; (try with_reducible rfl))⟩
                case hqy48 => exact fun _ _ _ h => h
                try simp only [Act.put, List.setIfInBounds_toArray, List.set_cons_zero, List.set_cons_succ]
                refine wpAny_ready (rs := [12]) (by kernel_rfl) (by simp) ?_
                refine AllReady.cons (o := ?oiy49f0) ?hiy49f0 (fun K hK => ?stepy49f0) ?morey49f0
                case hiy49f0 => (simp only [List.getElem?_toArray, List.getElem?_cons_zero, List.getElem?_cons_succ]; rfl)
                case stepy49f0 =>
                  go_simp
                  refine hK _ _ ?_
                  clear hK K
                  try simp only [Act.put, List.setIfInBounds_toArray, List.set_cons_zero, List.set_cons_succ]
                  clear hcw3 hfw3
                  refine wpAny_done (by kernel_rfl) ?_ _
                  go_wp2_with fail
                  go_meet
                  exact ⟨g2, cap2, w3, _, Hown2.out, Hg2.out, Hat2.out, rfl⟩
                case morey49f0 => exact AllReady.nil
              case morey46f0 => exact AllReady.nil
            case morey45f0 => exact AllReady.nil
          case morey44f0 =>
            refine AllReady.cons (o := ?oiy44f1) ?hiy44f1 (fun K hK => ?stepy44f1) ?morey44f1
            case hiy44f1 => (simp only [List.getElem?_toArray, List.getElem?_cons_zero, List.getElem?_cons_succ]; rfl)
            case stepy44f1 =>
              rw [if_pos (by rfl)]
              refine wp_buildSlice 61 87 1 _ rfl (pieceCells ((n : Int), bs)).toArray ip (.agg zeroPiece) Try.underlying61 hip hzp (by rw [hsp]; decide) (by rw [hsp]; decide) (by simp only [List.map_toArray, List.map_cons, List.map_nil]; exact piece_slice ((n : Int), bs) hl1 ip (.agg zeroPiece) hsp zeroPiece_size) ?_
              refine hK _ _ ?_
              clear hK K
              try simp only [Act.put, List.setIfInBounds_toArray, List.set_cons_zero, List.set_cons_succ]
              refine wpAny_ready (rs := [4]) (by kernel_rfl) (by simp) ?_
              refine AllReady.cons (o := ?oiy51f0) ?hiy51f0 (fun K hK => ?stepy51f0) ?morey51f0
              case hiy51f0 => (simp only [List.getElem?_toArray, List.getElem?_cons_zero, List.getElem?_cons_succ]; rfl)
              case stepy51f0 =>
                go_simp
                refine hK _ _ ?_
                clear hK K
                try simp only [Act.put, List.setIfInBounds_toArray, List.set_cons_zero, List.set_cons_succ]
                refine wpAny_ready (rs := [9]) (by kernel_rfl) (by simp) ?_
                refine AllReady.cons (o := ?oiy52f0) ?hiy52f0 (fun K hK => ?stepy52f0) ?morey52f0
                case hiy52f0 => (simp only [List.getElem?_toArray, List.getElem?_cons_zero, List.getElem?_cons_succ]; rfl)
                case stepy52f0 =>
                  refine step_append_lies _ rfl (.tmp 40) (.tmp 44) 61 rfl 0 87 ip (.agg zeroPiece) 129 136 Try.underlying61 hip hzp hsp hbp zeroPiece_size (by decide) vw S.waits.length (flatP S.waits) (by simp [Act.eval]) Hwt.out ⟨wA.heap.size, 0, none⟩ 1 1 (pieceCells ((n : Int), bs)) (by simp [Act.eval]) (pieceCells_len hl1) (World.news_of_block (heap_alloc_new wA _)) (one_piece _) (by omega) (by simp only [maxLen]; omega) (by omega) (Nat.zero_le _) _ rfl ?_
                  intro g2 cap2 w3 hown2 hg2 hat2 hlt2
                  have Hown2 := Lib.hid hown2
                  have Hg2 := Lib.hid hg2
                  have Hat2 := Lib.hid hat2
                  have hcw3 : w3.cell? ⟨b, 1, none⟩ = some vw := (Hend.out _ _ hg2).cell (i := 1) rfl
                  have hfw3 : w3.frozen? ⟨b, 1, none⟩ = false := (Hend.out _ _ hg2).frozen 1
                  clear hown2 hg2 hat2 hlt2
                  refine hK _ _ ?_
                  clear hK K
                  try simp only [Act.put, List.setIfInBounds_toArray, List.set_cons_zero, List.set_cons_succ]
                  refine wpAny_take (i := 10) (oi := ?oiy53) (v := ?vy53) ?hiy53 ?hay53 ?hby53 ?hcy53 ?hqy53 ?hyy53 ?resty53
                  case hiy53 => (simp only [List.getElem?_toArray, List.getElem?_cons_zero, List.getElem?_cons_succ]; rfl)
                  case hay53 => kernel_rfl
                  case hby53 => kernel_rfl
                  case hcy53 => kernel_rfl
                  case hyy53 => exact Or.inl ⟨by rfl, by (intro w; go_simp; (try with_reducible rfl))⟩
                  case hqy53 => exact fun _ _ _ h => h
                  try simp only [Act.put, List.setIfInBounds_toArray, List.set_cons_zero, List.set_cons_succ]
                  refine wpAny_take (i := 11) (oi := ?oiy54) (v := ?vy54) ?hiy54 ?hay54 ?hby54 ?hcy54 ?hqy54 ?hyy54 ?resty54
                  case hiy54 => (simp only [List.getElem?_toArray, List.getElem?_cons_zero, List.getElem?_cons_succ]; rfl)
                  case hay54 => kernel_rfl
                  case hby54 => kernel_rfl
                  case hcy54 => kernel_rfl
                  case hyy54 => exact Or.inl ⟨by rfl, by (intro w; go_simp; (try with_reducible rfl))⟩
                  case hqy54 => exact fun _ _ _ h => h
                  try simp only [Act.put, List.setIfInBounds_toArray, List.set_cons_zero, List.set_cons_succ]
                  refine wpAny_ready (rs := [12]) (by kernel_rfl) (by simp) ?_
                  refine AllReady.cons (o := ?oiy55f0) ?hiy55f0 (fun K hK => ?stepy55f0) ?morey55f0
                  case hiy55f0 => (simp only [List.getElem?_toArray, List.getElem?_cons_zero, List.getElem?_cons_succ]; rfl)
                  case stepy55f0 =>
                    go_simp
                    refine hK _ _ ?_
                    clear hK K
                    try simp only [Act.put, List.setIfInBounds_toArray, List.set_cons_zero, List.set_cons_succ]
                    clear hcw3 hfw3
                    refine wpAny_done (by kernel_rfl) ?_ _
                    go_wp2_with fail
                    go_meet
                    exact ⟨g2, cap2, w3, _, Hown2.out, Hg2.out, Hat2.out, rfl⟩
                  case morey55f0 => exact AllReady.nil
                case morey52f0 => exact AllReady.nil
              case morey51f0 => exact AllReady.nil
            case morey44f1 => exact AllReady.nil
        case morey34f1 => exact AllReady.nil
    case rest =>
      obtain ⟨g2, cap2, w3, o, hown2, hg2, hat2, rfl⟩ := hcut
      obtain ⟨hO3, hb3, hs3, hend⟩ := pput_end (left := lf) (o := o) (w3 := w3) Hwf.out Hn.out Hb.out Hh.out Hfin.out Hleft.out.1 Hleft.out.2 HA.out HOA.out HsA.out ⟨hg2.os, hg2.tape, hg2.output, hg2.size, hg2.block⟩ hown2 (fun k hk => by
        cases hk
        rcases hat2 with e | e
        · exact Or.inl e
        · right; rw [e, nblk_alloc]; exact Nat.le_succ_of_le HOA.out.size)
      have hsb : sb ≠ b := hs3.ne hb3 (by decide)
      obtain ⟨m, hm⟩ : ∃ m, m = S.waits.length := ⟨_, rfl⟩
      obtain ⟨w4, hw4⟩ : ∃ w4, w4 = w3.setCell ⟨b, 1, none⟩ (.slice (some ⟨g2, 0, none⟩) (S.waits.length + 1) cap2) := ⟨_, rfl⟩
      have hb4 := hb3.set 1 (.slice (some ⟨g2, 0, none⟩) (S.waits.length + 1) cap2)
      have hs4 := hs3.setOther (a := ⟨b, 1, none⟩) hsb (.slice (some ⟨g2, 0, none⟩) (S.waits.length + 1) cap2)
      rw [← hw4] at hb4 hs4 hend ⊢
      have hc41 : w4.cell? ⟨b, 1, none⟩ = some (.slice (some ⟨g2, 0, none⟩) (m + 1) cap2) := by rw [hm]; exact hb4.cell (i := 1) rfl
      have hcs := hs4.cell (Hh.out.secs.last n Hn.out)
      have hfs := hs4.frozen (n * 130 + 129)
      have hO4 : Only F w1 w4 := by rw [hw4]; exact hO3.set (Or.inr hFb) _
      have hz4 : w4.heap.size = w3.heap.size := by rw [hw4, nblk_setCell]
      rw [← hm] at hend hmany
      obtain ⟨w5, hw5⟩ : ∃ w5, w5 = w4.setCell ⟨sb, n * 130 + 129, none⟩ (.int .i64 ((m : Int) + 1)) := ⟨_, rfl⟩
      have hc55 : (w4.setCell ⟨sb, n * 130 + 129, none⟩ (.int .i64 ((m : Int) + 1))).cell? ⟨b, 5, none⟩ = some (.pointer (some ⟨mb, 0, none⟩)) := hend.head.cell (i := 5) rfl
      rw [← hw5] at hend
      have hO5 : Only F w1 w5 := by rw [hw5]; exact hO4.set (Or.inr Hh.out.fs) _
      have hz5 : w5.heap.size = w3.heap.size := by rw [hw5, nblk_setCell, hz4]
      have hwf5 := Hwf.out.put Hn.out Hb.out
      have Hw5 := Lib.hid hw5
      have hcnt := dcount_is (More F w1 w3) w5 b (S.put n bs) 0 (S.put n bs).waits sb mb _ _ c L hwf5 hend 1 (by omega) 2 rfl
      have Hcl := Lib.hid (show ∀ k, More F w1 w3 k → k < w5.heap.size by
        intro k hk
        rw [hz5]
        rcases hk with hk | hk
        · exact Nat.lt_of_lt_of_le (Hfin.out k hk) hO3.size
        · exact hk.2)
      have Hoff := Lib.hid (show ((S.put n bs).count 1).off = false from Ho.out)
      have Hz5 := Lib.hid hz5
      have Hwf5 := Lib.hid hwf5
      have Hm := Lib.hid hm
      have HO5 := Lib.hid hO5
      have Hend5 := Lib.hid hend
      clear hend hwf5 hw5 hz5 hw4 hz4 hO5 hO4 hm hb3 hs3 hb4 hs4 hown2 hg2 hat2 hc1A hc1B hc1C Hrb Hwt Hend HA HsA HOA hO3
      go_wp2_with fail
      rw [← Hw5.out]
      refine hcnt.mono ?_
      rintro e w6 ⟨rfl, ⟨L', h6⟩, hg6⟩
      obtain ⟨hp6, hO6⟩ := count_back Hwf5.out (Or.inl hFb) Hcl.out h6 hg6
      go_wp2_with fail
      refine (dspend_is _ _ _ _ hp6 Hoff.out).mono ?_
      rintro e w7 ⟨rfl, hp7, hO7⟩
      go_wp2
      go_ret
      refine ⟨rfl, hp7.mono' (fun k hk => ?_) (fun k hk => ?_), ?_⟩
      · rcases hk with hk | hk
        · exact Or.inl hk
        · refine Or.inr ⟨Nat.le_trans hb1.size hk.1, ?_⟩
          have := hO6.size; have := hO7.size; have := Hz5.out; omega
      · rcases hk with hk | hk
        · have := hF0 k hk; have := hb1.size; have := HO5.out.size; have := hO6.size; have := hO7.size; omega
        · exact hk.2
      · have e1 : Only F w w5 := (Only.of_below (F := F) hb1).trans HO5.out (fun _ _ h => h)
        have drop : ∀ k, k < w.heap.size → More F w1 w3 k → F k := fun k hk hm => by
          rcases hm with hm | hm
          · exact hm
          · have := hb1.size; omega
        exact (e1.trans hO6 drop).trans hO7 drop
end
end Go.Proofs.Ythdclncgmhgmfaa
