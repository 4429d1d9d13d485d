/- The program's disk: New. -/
import Derived.Test.YthdclncgmhgmfaaPD10
import Derived.Laws.MakeOwn
namespace Go.Proofs.Ythdclncgmhgmfaa
open Go.RowKit Go.Deep
set_option linter.unusedSimpArgs false
set_option linter.unusedVariables false

theorem step_make {P : Program} {ops : Array Oper} {o : Oper} {a : Act} {w : World} {K : Act → World → Prop} {Q : Exit → Act → World → Prop} {E : Prop} (hgd : o.guard = none) (l c : Operand) (t : TypeId) (hop : o.op = Op.makeSlice t l c)
    (e : TypeId) (i : TypeInfo) (z : Value) (size : Nat) (h1 : P.underlying t = some (.slice e)) (h2 : P.info? e = some i) (h3 : i.zero = some z) (h4 : i.size = size)
    (n : Nat) (hl : a.eval l = .int .i64 (n : Int)) (hc : a.eval c = .int .i64 (n : Int)) (hb : (i.bytes : Int) * (n : Int) ≤ 281474976710656) (hn : n ≤ 1000000)
    (hK : K (a.put o.dst (.slice (some ⟨w.heap.size, 0, none⟩) n n)) (w.alloc (.cells (madeCells z.cells (n * size)) e))) : if Region.wanted o (yielded ops a.tmps) = true then Oper.wp P o a w K Q else E := by
  rw [if_pos (by simp [Region.wanted, hgd])]
  subst h4
  have hr := run_make (P := P) w t e i z h1 h2 h3 .i64 .i64 n n (by omega) (Int.le_refl _) hb (by omega)
  simp only [Int.toNat_natCast] at hr
  unfold Oper.wp
  simp [execOp, hop, hl, hc, hr, Result.andThen]
  exact hK

/-- The zero of a sector. -/
def zeroSec : Array Value := (u8s zeros128 ++ [Value.bool false, Value.int .i64 0]).toArray
theorem zeroSec_size : zeroSec.size = 130 := by kernel_rfl
theorem info_sec : (Try.prog.info? 70).map (fun i => (i.zero, i.size, i.bytes)) = some (some (.agg zeroSec), 130, 144) := by kernel_rfl
theorem zeroSec_at : (∀ j, j < 128 → zeroSec[j]? = some (.int .u8 0)) ∧ zeroSec[128]? = some (.bool false) ∧ zeroSec[129]? = some (.int .i64 0) := by
  refine ⟨fun j hj => ?_, by kernel_rfl, by kernel_rfl⟩
  unfold zeroSec
  rw [List.getElem?_toArray, List.getElem?_append_left (by simp [zeros128]; exact hj), List.getElem?_map]
  unfold zeros128
  rw [List.getElem?_replicate, if_pos hj]; rfl
theorem made_at (n i j : Nat) (hi : i < n) (hj : j < 130) : (madeCells zeroSec (n * 130)).toList[i * 130 + j]? = zeroSec[j]? := by
  have hlt : i * 130 + j < n * 130 := by omega
  have hj2 : j < zeroSec.size := by rw [zeroSec_size]; exact hj
  unfold madeCells
  rw [Array.getElem?_toList, Array.getElem?_map, Array.getElem?_range, if_pos hlt, Option.map_some, zeroSec_size, show (i * 130 + j) % 130 = j by omega]
  simp [hj2]
theorem new_secs (n : Nat) (room : Int) : SecsOf (madeCells zeroSec (n * 130)).toList (DS.new n room) 0 := by
  obtain ⟨z1, z2, z3⟩ := zeroSec_at
  refine ⟨by simp [DS.new, size_madeCells], ?_, ?_, ?_⟩
  · intro i r hi j u hj
    have hi2 : (List.replicate n zeros128)[i]? = some r := hi
    rw [List.getElem?_replicate] at hi2
    split at hi2
    · next h =>
      cases hi2
      unfold zeros128 at hj
      rw [List.getElem?_replicate] at hj
      split at hj
      · next h2 =>
        cases hj
        rw [made_at n i j h (by omega)]; exact z1 j h2
      · cases hj
    · cases hi2
  · intro i u hi
    have hi2 : (List.replicate n false)[i]? = some u := hi
    rw [List.getElem?_replicate] at hi2
    split at hi2
    · next h =>
      cases hi2
      rw [made_at n i 128 h (by omega)]; exact z2
    · cases hi2
  · intro i hi
    have hi2 : i < n := by simpa [DS.new] using hi
    rw [made_at n i 129 hi2 (by omega)]; exact z3
theorem new_used (n : Nat) (room : Int) : (DS.new n room).used = 0 := by
  unfold DS.used usedTo
  rw [List.countP_eq_zero]
  intro i hi
  have hi := List.mem_range.1 hi
  have hi2 : i < n := by simpa [DS.new] using hi
  unfold DS.isUse DS.waitsFor DS.new
  simp [List.getD, hi2]
theorem pd_new {w w' : World} {b sb mb n : Nat} {room : Nat} (h1 : 1 ≤ n) (h2 : n ≤ 4096) (h3 : room ≤ n)
    (hb : Blk w' b 63 [.slice (some ⟨sb, 0, none⟩) n n, .slice none 0 0, .int .i64 (room : Int), .int .i64 (-1), .bool false, .pointer (some ⟨mb, 0, none⟩)]) (hs : Blk w' sb 70 (madeCells zeroSec (n * 130)).toList) (hm : PMet w' mb [0, 0, 0, 0, 0, 0])
    (gb : w.heap.size ≤ b) (gs : w.heap.size ≤ sb) (gm : w.heap.size ≤ mb) : PD (fun k => w.heap.size ≤ k ∧ k < w'.heap.size) w' b (DS.new n (room : Int)) := by
  refine ⟨DWf.new h1 h2 (by omega) (by omega), ⟨gb, hb.lt⟩, fun k hk => hk.2, sb, mb, _, _, -1, _, ⟨⟨gb, hb.lt⟩, ⟨gs, hs.lt⟩, ⟨gm, hm.lt⟩, ?_, hs, new_secs n _, Or.inl ⟨rfl, rfl⟩, rfl, ?_, by omega, by omega, fun _ => rfl, hm, rfl⟩⟩
  · rw [new_used]
    have e : (DS.new n (room : Int)).room - ((0 : Nat) : Int) = (room : Int) := by show (room : Int) - 0 = _; omega
    rw [e, show (DS.new n (room : Int)).kept.length = n by simp [DS.new]]
    exact hb
  · rw [new_used]; show ((0 : Nat) : Int) ≤ (room : Int); omega

theorem dnew_bad (w : World) (s room : Int) (h : s < 1 ∨ 4096 < s ∨ room < 0 ∨ s < room) :
    Calls Try.prog 22 #[.int .i64 s, .int .i64 room] w fun e w' => e = .returned (.tuple #[.pointer none, .int .i64 2]) ∧ Only Nothing w w' := by
  by_cases c1 : s < 1
  · have d1 : decide (s < 1) = true := decide_eq_true c1
    go_enter Try.func22, Try.ntmps22
    go_wp2
    go_ret2
    exact ⟨rfl, Only.none_ _⟩
  · have d1 : decide (s < 1) = false := decide_eq_false c1
    by_cases c2 : 4096 < s
    · have d2 : decide (4096 < s) = true := decide_eq_true c2
      go_enter Try.func22, Try.ntmps22
      go_wp2
      go_ret2
      exact ⟨rfl, Only.none_ _⟩
    · have d2 : decide (4096 < s) = false := decide_eq_false c2
      by_cases c3 : room < 0
      · have d3 : decide (room < 0) = true := decide_eq_true c3
        go_enter Try.func22, Try.ntmps22
        go_wp2
        go_ret2
        exact ⟨rfl, Only.none_ _⟩
      · have d3 : decide (room < 0) = false := decide_eq_false c3
        have d4 : decide (s < room) = true := decide_eq_true (by omega)
        go_enter Try.func22, Try.ntmps22
        go_wp2
        go_ret2
        exact ⟨rfl, Only.none_ _⟩

set_option maxRecDepth 100000 in
set_option maxHeartbeats 3200000 in
theorem dnew_is (w : World) (s room : Nat) (h1 : 1 ≤ s) (h2 : s ≤ 4096) (h3 : room ≤ s) :
    Calls Try.prog 22 #[.int .i64 (s : Int), .int .i64 (room : Int)] w fun e w' => ∃ b, e = .returned (.tuple #[.pointer (some ⟨b, 0, none⟩), .int .i64 0]) ∧ PD (fun k => w.heap.size ≤ k ∧ k < w'.heap.size) w' b (DS.new s (room : Int)) ∧ Below w.heap.size w w' := by
  have d1 : decide ((s : Int) < 1) = false := decide_eq_false (by omega)
  have d2 : decide (4096 < (s : Int)) = false := decide_eq_false (by omega)
  have d3 : decide ((room : Int) < 0) = false := decide_eq_false (by omega)
  have d4 : decide ((s : Int) < (room : Int)) = false := decide_eq_false (by omega)
  obtain ⟨ip, hip, hzp, hsp, hbp⟩ := info_parts' info_sec
  go_enter Try.func22, Try.ntmps22
  go_upto_region 3 with fail
  refine wp_region_any (by kernel_rfl) ?_
  try (change wpAny _ _ _ _ _ _ _ (World.drew _))
  refine wpAny_take (i := 0) (oi := ?oiy1) (v := ?vy1) ?hiy1 ?hay1 ?hby1 ?hcy1 ?hqy1 ?hyy1 ?resty1
  case hiy1 => (simp only [List.getElem?_toArray, List.getElem?_cons_zero, List.getElem?_cons_succ]; rfl)
  case hay1 => kernel_rfl
  case hby1 => kernel_rfl
  case hcy1 => kernel_rfl
  case hyy1 => exact Or.inl ⟨by rfl, by (intro w; go_simp; (try with_reducible rfl))⟩
  case hqy1 => exact fun _ _ _ h => h
  try simp only [Act.put, List.setIfInBounds_toArray, List.set_cons_zero, List.set_cons_succ]
  refine wpAny_take (i := 2) (oi := ?oiy2) (v := ?vy2) ?hiy2 ?hay2 ?hby2 ?hcy2 ?hqy2 ?hyy2 ?resty2
  case hiy2 => (simp only [List.getElem?_toArray, List.getElem?_cons_zero, List.getElem?_cons_succ]; rfl)
  case hay2 => kernel_rfl
  case hby2 => kernel_rfl
  case hcy2 => kernel_rfl
  case hyy2 => exact Or.inl ⟨by rfl, by (intro w; go_simp; (try with_reducible rfl))⟩
  case hqy2 => exact fun _ _ _ h => h
  try simp only [Act.put, List.setIfInBounds_toArray, List.set_cons_zero, List.set_cons_succ]
  refine wpAny_ready (rs := [1, 3]) (by kernel_rfl) (by simp) ?_
  refine AllReady.cons (o := ?oiy3f0) ?hiy3f0 (fun K hK => ?stepy3f0) ?morey3f0
  case hiy3f0 => (simp only [List.getElem?_toArray, List.getElem?_cons_zero, List.getElem?_cons_succ]; rfl)
  case stepy3f0 =>
    refine step_make rfl (.tmp 21) (.tmp 21) 60 rfl 70 ip (.agg zeroSec) 130 Try.underlying60 hip hzp hsp s (by simp [Act.eval]) (by simp [Act.eval]) (by rw [hbp]; omega) (by omega) ?_
    refine hK _ _ ?_
    clear hK K
    try simp only [Act.put, List.setIfInBounds_toArray, List.set_cons_zero, List.set_cons_succ]
    refine wpAny_ready (rs := [3]) (by kernel_rfl) (by simp) ?_
    refine AllReady.cons (o := ?oiy4f0) ?hiy4f0 (fun K hK => ?stepy4f0) ?morey4f0
    case hiy4f0 => (simp only [List.getElem?_toArray, List.getElem?_cons_zero, List.getElem?_cons_succ]; rfl)
    case stepy4f0 =>
      go_simp
      refine (pnew_is _).mono ?_
      rintro e w2 ⟨mb, rfl, hmb, hm2, hb2⟩
      refine hK _ _ ?_
      clear hK K
      try simp only [Act.put, List.setIfInBounds_toArray, List.set_cons_zero, List.set_cons_succ]
      refine wpAny_take (i := 4) (oi := ?oiy5) (v := ?vy5) ?hiy5 ?hay5 ?hby5 ?hcy5 ?hqy5 ?hyy5 ?resty5
      case hiy5 => (simp only [List.getElem?_toArray, List.getElem?_cons_zero, List.getElem?_cons_succ]; rfl)
      case hay5 => kernel_rfl
      case hby5 => kernel_rfl
      case hcy5 => kernel_rfl
      case hyy5 => exact Or.inl ⟨by rfl, by (intro w; go_simp; (try with_reducible rfl))⟩
      case hqy5 => exact fun _ _ _ h => h
      try simp only [Act.put, List.setIfInBounds_toArray, List.set_cons_zero, List.set_cons_succ]
      refine wpAny_ready (rs := [5]) (by kernel_rfl) (by simp) ?_
      refine AllReady.cons (o := ?oiy6f0) ?hiy6f0 (fun K hK => ?stepy6f0) ?morey6f0
      case hiy6f0 => (simp only [List.getElem?_toArray, List.getElem?_cons_zero, List.getElem?_cons_succ]; rfl)
      case stepy6f0 =>
        go_simp
        refine hK _ _ ?_
        clear hK K
        try simp only [Act.put, List.setIfInBounds_toArray, List.set_cons_zero, List.set_cons_succ]
        refine wpAny_ready (rs := [6]) (by kernel_rfl) (by simp) ?_
        refine AllReady.cons (o := ?oiy7f0) ?hiy7f0 (fun K hK => ?stepy7f0) ?morey7f0
        case hiy7f0 => (simp only [List.getElem?_toArray, List.getElem?_cons_zero, List.getElem?_cons_succ]; rfl)
        case stepy7f0 =>
          go_simp
          refine hK _ _ ?_
          clear hK K
          try simp only [Act.put, List.setIfInBounds_toArray, List.set_cons_zero, List.set_cons_succ]
          refine wpAny_ready (rs := [7]) (by kernel_rfl) (by simp) ?_
          refine AllReady.cons (o := ?oiy8f0) ?hiy8f0 (fun K hK => ?stepy8f0) ?morey8f0
          case hiy8f0 => (simp only [List.getElem?_toArray, List.getElem?_cons_zero, List.getElem?_cons_succ]; rfl)
          case stepy8f0 =>
            go_simp
            refine hK _ _ ?_
            clear hK K
            try simp only [Act.put, List.setIfInBounds_toArray, List.set_cons_zero, List.set_cons_succ]
            refine wpAny_done (by kernel_rfl) ?_ _
            go_wp2
            go_ret2
            have hsz : (w.alloc (.cells (madeCells zeroSec (s * 130)) 70)).heap.size = w.heap.size + 1 := nblk_alloc _ _
            have hX : Blk (w.alloc (.cells (madeCells zeroSec (s * 130)) 70)).drew w.heap.size 70 (madeCells zeroSec (s * 130)).toList := Blk.new w 70 (madeCells zeroSec (s * 130)).toList
            have hmb' : w.heap.size + 1 ≤ mb := by rw [← hsz]; exact hmb
            have hw2s : w.heap.size + 1 ≤ w2.heap.size := by rw [← hsz]; exact hb2.size
            have hs2 : Blk w2 w.heap.size 70 (madeCells zeroSec (s * 130)).toList := hX.kept (hb2.block _ (show w.heap.size < (w.alloc (.cells (madeCells zeroSec (s * 130)) 70)).heap.size by rw [hsz]; omega))
            have hbel : Below w.heap.size w (w.alloc (.cells (madeCells zeroSec (s * 130)) 70)).drew := by
              have h0 := below_alloc w (.cells (madeCells zeroSec (s * 130)) 70)
              exact ⟨h0.os, h0.tape, h0.output, h0.size, h0.block⟩
            exact ⟨w2.heap.size, rfl, pd_new h1 h2 h3 (Blk.new w2 63 [.slice (some ⟨w.heap.size, 0, none⟩) s s, .slice none 0 0, .int .i64 (room : Int), .int .i64 (-1), .bool false, .pointer (some ⟨mb, 0, none⟩)]) (hs2.alloc _) (hm2.kept (blk_alloc_lt _ _ _ hm2.lt)) (by omega) (Nat.le_refl _) (by omega), (hbel.trans (hb2.mono (show w.heap.size ≤ (w.alloc (.cells (madeCells zeroSec (s * 130)) 70)).heap.size by rw [hsz]; omega))).trans ((below_alloc w2 _).mono (by omega))⟩
          case morey8f0 => exact AllReady.nil
        case morey7f0 => exact AllReady.nil
      case morey6f0 => exact AllReady.nil
    case morey4f0 => exact AllReady.nil
  case morey3f0 =>
    refine AllReady.cons (o := ?oiy3f1) ?hiy3f1 (fun K hK => ?stepy3f1) ?morey3f1
    case hiy3f1 => (simp only [List.getElem?_toArray, List.getElem?_cons_zero, List.getElem?_cons_succ]; rfl)
    case stepy3f1 =>
      go_simp
      refine (pnew_is _).mono ?_
      rintro e w2 ⟨mb, rfl, hmb, hm2, hb2⟩
      refine hK _ _ ?_
      clear hK K
      try simp only [Act.put, List.setIfInBounds_toArray, List.set_cons_zero, List.set_cons_succ]
      refine wpAny_ready (rs := [1]) (by kernel_rfl) (by simp) ?_
      refine AllReady.cons (o := ?oiy10f0) ?hiy10f0 (fun K hK => ?stepy10f0) ?morey10f0
      case hiy10f0 => (simp only [List.getElem?_toArray, List.getElem?_cons_zero, List.getElem?_cons_succ]; rfl)
      case stepy10f0 =>
        refine step_make rfl (.tmp 21) (.tmp 21) 60 rfl 70 ip (.agg zeroSec) 130 Try.underlying60 hip hzp hsp s (by simp [Act.eval]) (by simp [Act.eval]) (by rw [hbp]; omega) (by omega) ?_
        refine hK _ _ ?_
        clear hK K
        try simp only [Act.put, List.setIfInBounds_toArray, List.set_cons_zero, List.set_cons_succ]
        refine wpAny_take (i := 4) (oi := ?oiy11) (v := ?vy11) ?hiy11 ?hay11 ?hby11 ?hcy11 ?hqy11 ?hyy11 ?resty11
        case hiy11 => (simp only [List.getElem?_toArray, List.getElem?_cons_zero, List.getElem?_cons_succ]; rfl)
        case hay11 => kernel_rfl
        case hby11 => kernel_rfl
        case hcy11 => kernel_rfl
        case hyy11 => exact Or.inl ⟨by rfl, by (intro w; go_simp; (try with_reducible rfl))⟩
        case hqy11 => exact fun _ _ _ h => h
        try simp only [Act.put, List.setIfInBounds_toArray, List.set_cons_zero, List.set_cons_succ]
        refine wpAny_ready (rs := [5]) (by kernel_rfl) (by simp) ?_
        refine AllReady.cons (o := ?oiy12f0) ?hiy12f0 (fun K hK => ?stepy12f0) ?morey12f0
        case hiy12f0 => (simp only [List.getElem?_toArray, List.getElem?_cons_zero, List.getElem?_cons_succ]; rfl)
        case stepy12f0 =>
          go_simp
          refine hK _ _ ?_
          clear hK K
          try simp only [Act.put, List.setIfInBounds_toArray, List.set_cons_zero, List.set_cons_succ]
          refine wpAny_ready (rs := [6]) (by kernel_rfl) (by simp) ?_
          refine AllReady.cons (o := ?oiy13f0) ?hiy13f0 (fun K hK => ?stepy13f0) ?morey13f0
          case hiy13f0 => (simp only [List.getElem?_toArray, List.getElem?_cons_zero, List.getElem?_cons_succ]; rfl)
          case stepy13f0 =>
            go_simp
            refine hK _ _ ?_
            clear hK K
            try simp only [Act.put, List.setIfInBounds_toArray, List.set_cons_zero, List.set_cons_succ]
            refine wpAny_ready (rs := [7]) (by kernel_rfl) (by simp) ?_
            refine AllReady.cons (o := ?oiy14f0) ?hiy14f0 (fun K hK => ?stepy14f0) ?morey14f0
            case hiy14f0 => (simp only [List.getElem?_toArray, List.getElem?_cons_zero, List.getElem?_cons_succ]; rfl)
            case stepy14f0 =>
              go_simp
              refine hK _ _ ?_
              clear hK K
              try simp only [Act.put, List.setIfInBounds_toArray, List.set_cons_zero, List.set_cons_succ]
              refine wpAny_done (by kernel_rfl) ?_ _
              go_wp2
              go_ret2
              have hsz : (w2.alloc (.cells (madeCells zeroSec (s * 130)) 70)).heap.size = w2.heap.size + 1 := nblk_alloc _ _
              have hmb' : w.heap.size ≤ mb := hmb
              have hw2s : w.heap.size ≤ w2.heap.size := hb2.size
              have hs2 : Blk (w2.alloc (.cells (madeCells zeroSec (s * 130)) 70)) w2.heap.size 70 (madeCells zeroSec (s * 130)).toList := Blk.new w2 70 (madeCells zeroSec (s * 130)).toList
              have hm3 := hm2.kept (blk_alloc_lt _ (.cells (madeCells zeroSec (s * 130)) 70) _ hm2.lt)
              have hd3 : Blk ((w2.alloc (.cells (madeCells zeroSec (s * 130)) 70)).alloc (.cells #[.slice (some ⟨w2.heap.size, 0, none⟩) s s, .slice none 0 0, .int .i64 (room : Int), .int .i64 (-1), .bool false, .pointer (some ⟨mb, 0, none⟩)] 63)) (w2.heap.size + 1) 63 [.slice (some ⟨w2.heap.size, 0, none⟩) s s, .slice none 0 0, .int .i64 (room : Int), .int .i64 (-1), .bool false, .pointer (some ⟨mb, 0, none⟩)] := by
                have := Blk.new (w2.alloc (.cells (madeCells zeroSec (s * 130)) 70)) 63 [.slice (some ⟨w2.heap.size, 0, none⟩) s s, .slice none 0 0, .int .i64 (room : Int), .int .i64 (-1), .bool false, .pointer (some ⟨mb, 0, none⟩)]
                rw [hsz] at this; exact this
              have hbel : Below w.heap.size w w2 := ⟨hb2.os, hb2.tape, hb2.output, hb2.size, hb2.block⟩
              exact ⟨w2.heap.size + 1, rfl, pd_new h1 h2 h3 hd3 (hs2.alloc _) (hm3.kept (blk_alloc_lt _ _ _ hm3.lt)) (by omega) (by omega) (by omega), (hbel.trans ((below_alloc w2 _).mono (by omega))).trans ((below_alloc _ _).mono (by rw [hsz]; omega))⟩
            case morey14f0 => exact AllReady.nil
          case morey13f0 => exact AllReady.nil
        case morey12f0 => exact AllReady.nil
      case morey10f0 => exact AllReady.nil
    case morey3f1 => exact AllReady.nil
end Go.Proofs.Ythdclncgmhgmfaa
