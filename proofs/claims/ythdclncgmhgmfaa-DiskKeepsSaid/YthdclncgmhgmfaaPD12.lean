/- The program's disk: Load. -/
import Derived.Test.YthdclncgmhgmfaaPD11
import Derived.Test.YthdclncgmhgmfaaCut
namespace Go.Proofs.Ythdclncgmhgmfaa
open Go.RowKit Go.Deep
set_option linter.unusedSimpArgs false
set_option linter.unusedVariables false

theorem dload_bad (w : World) (A : Option Addr) (n c : Nat) (s room : Int) (hn : n ≤ 9223372036854775807) (hbad : s < 1 ∨ 4096 < s ∨ room < 0 ∨ s < room ∨ 128 * s < (n : Int)) :
    Calls Try.prog 9 #[.slice A n c, .int .i64 s, .int .i64 room] w fun e w' => e = .returned (.tuple #[.pointer none, .int .i64 2]) ∧ Below w.heap.size w w' := by
  by_cases hb : s < 1 ∨ 4096 < s ∨ room < 0 ∨ s < room
  · have hnew := dnew_bad w s room hb
    go_enter Try.func9, Try.ntmps9
    go_wp2_with fail
    refine hnew.mono ?_
    rintro e w1 ⟨rfl, hO⟩
    go_wp2
    go_ret2
    exact ⟨rfl, hO.below (Nat.le_refl _) (fun _ h => h.elim)⟩
  · obtain ⟨sn, rfl⟩ : ∃ sn : Nat, s = (sn : Int) := ⟨s.toNat, by omega⟩
    obtain ⟨rn, rfl⟩ : ∃ rn : Nat, room = (rn : Int) := ⟨room.toNat, by omega⟩
    have hnew := dnew_is w sn rn (by omega) (by omega) (by omega)
    have hmul : (sn : Int) * 128 < (n : Int) := by omega
    have hd : decide ((sn : Int) * 128 < (n : Int)) = true := decide_eq_true hmul
    have hs4 : (sn : Int) ≤ 4096 := by omega
    go_enter Try.func9, Try.ntmps9
    go_wp2_with fail
    refine hnew.mono ?_
    rintro e w1 ⟨b, rfl, hp, hbel⟩
    clear hp
    go_wp2
    go_ret2
    exact ⟨rfl, hbel⟩

theorem loaded_used (n : Nat) (room : Int) (xs : List Int) (h : xs.length ≤ 128 * n) : (DS.loaded n room xs).used = sectorsOf xs.length := by
  unfold DS.used usedTo
  have e1 : (DS.loaded n room xs).kept.length = n := by simp [DS.loaded]
  rw [e1]
  have e2 : ∀ i : Nat, i < n → (DS.loaded n room xs).isUse (i : Int) = decide (128 * i < xs.length) := by
    intro i hi
    unfold DS.isUse DS.waitsFor DS.loaded
    simp [List.getD, hi]
  have e3 : (List.range n).countP (fun (i : Nat) => (DS.loaded n room xs).isUse (i : Int)) = (List.range n).countP (fun (i : Nat) => decide (128 * i < xs.length)) :=
    List.countP_congr (fun i hi => by rw [e2 i (List.mem_range.1 hi)])
  rw [e3]
  have key : ∀ m : Nat, (List.range m).countP (fun (i : Nat) => decide (128 * i < xs.length)) = min m (sectorsOf xs.length) := by
    intro m
    induction m with
    | zero => simp
    | succ m ih =>
      rw [List.range_succ, List.countP_append, ih]
      simp only [List.countP_cons, List.countP_nil, Nat.zero_add]
      unfold sectorsOf
      by_cases hm : 128 * m < xs.length
      · rw [decide_eq_true hm, if_pos rfl]; omega
      · rw [decide_eq_false hm, if_neg (by simp)]; omega
  rw [key]
  unfold sectorsOf; omega

/-- A sector's first cells with new bytes. -/
def loadIn (vs : List Value) (k : Nat) (bs : List Int) : List Value := (vs.take (k * 130) ++ u8s bs ++ vs.drop (k * 130 + bs.length)).set (k * 130 + 128) (.bool true)
theorem loadIn_at {vs : List Value} {k : Nat} {bs : List Int} (h : k * 130 + 130 ≤ vs.length) (hb : bs.length ≤ 128) (x : Nat) :
    (loadIn vs k bs)[x]? = if x = k * 130 + 128 then some (.bool true) else if k * 130 ≤ x ∧ x < k * 130 + bs.length then (u8s bs)[x - k * 130]? else vs[x]? := by
  have hl : (u8s bs).length = bs.length := by rw [List.length_map]
  unfold loadIn
  rw [set_at _ _ _ _ (by rw [List.length_append, List.length_append, List.length_take, List.length_drop, hl]; omega)]
  have := put_at vs (u8s bs) (k * 130) x (by rw [hl]; omega)
  rw [hl] at this
  rw [this]
theorem loadIn_len {vs : List Value} {k : Nat} {bs : List Int} (h : k * 130 + 130 ≤ vs.length) (hb : bs.length ≤ 128) : (loadIn vs k bs).length = vs.length := by
  unfold loadIn
  rw [List.length_set, List.length_append, List.length_append, List.length_take, List.length_drop, List.length_map]
  omega
theorem loaded_secs {n : Nat} {room : Int} {xs : List Int} {vs : List Value} {k : Nat} (hk : 128 * k < xs.length) (hn : xs.length ≤ 128 * n) (h : SecsOf vs (DS.loaded n room (xs.take (128 * k))) 0) :
    SecsOf (loadIn vs k ((xs.drop (128 * k)).take 128)) (DS.loaded n room (xs.take (128 * (k + 1)))) 0 := by
  have hkn : k < n := by omega
  have e1 : ∀ ys : List Int, (DS.loaded n room ys).kept.length = n := fun ys => by simp [DS.loaded]
  have hlen := h.len
  rw [e1] at hlen
  have hv : k * 130 + 130 ≤ vs.length := by omega
  have hbl : ((xs.drop (128 * k)).take 128).length = min 128 (xs.length - 128 * k) := by rw [List.length_take, List.length_drop]
  refine ⟨by rw [loadIn_len hv (by omega), hlen, e1], ?_, ?_, ?_⟩
  · intro i r hi j u hj
    have hi2 : ((List.range n).map (rowOf (xs.take (128 * (k + 1)))))[i]? = some r := hi
    rw [List.getElem?_map] at hi2
    obtain ⟨i', hi3, rfl⟩ := Option.map_eq_some_iff.1 hi2
    have hin : i < n := by have := (List.getElem?_eq_some_iff.1 hi3).1; simpa using this
    rw [List.getElem?_range hin] at hi3
    cases hi3
    have hj128 : j < 128 := by have := (List.getElem?_eq_some_iff.1 hj).1; rw [rowOf_len] at this; exact this
    rw [loadIn_at hv (by omega), if_neg (by omega)]
    have hrow : ∀ ys : List Int, (rowOf ys i)[j]? = some (ys.getD (128 * i + j) 0) := fun ys => by simp [rowOf, hj128]
    rw [hrow] at hj
    have hju := Option.some.inj hj
    have hold := h.kept i (rowOf (xs.take (128 * k)) i) (by show ((List.range n).map (rowOf (xs.take (128 * k))))[i]? = _; simp [hin]) j _ (hrow _)
    by_cases hik : i = k
    · subst hik
      by_cases hjb : j < ((xs.drop (128 * i)).take 128).length
      · rw [if_pos (by omega), show i * 130 + j - i * 130 = j by omega, List.getElem?_map, List.getElem?_take, if_pos hj128, List.getElem?_drop]
        rw [← hju]
        simp only [List.getD]
        rw [List.getElem?_take, if_pos (by omega)]
        have : 128 * i + j < xs.length := by omega
        rw [List.getElem?_eq_getElem this]; rfl
      · rw [if_neg (by omega), hold, ← hju]
        simp only [List.getD]
        rw [List.getElem?_take, if_neg (by omega), List.getElem?_take]
        split
        · rw [List.getElem?_eq_none (by omega)]
        · rfl
    · rw [if_neg (by omega), hold, ← hju]
      simp only [List.getD]
      rw [List.getElem?_take, List.getElem?_take]
      by_cases hlt : i < k
      · rw [if_pos (by omega), if_pos (by omega)]
      · rw [if_neg (by omega), if_neg (by omega)]
  · intro i u hi
    have hi2 : ((List.range n).map (fun s => decide (128 * s < (xs.take (128 * (k + 1))).length)))[i]? = some u := hi
    rw [List.getElem?_map] at hi2
    obtain ⟨i', hi3, rfl⟩ := Option.map_eq_some_iff.1 hi2
    have hin : i < n := by have := (List.getElem?_eq_some_iff.1 hi3).1; simpa using this
    rw [List.getElem?_range hin] at hi3
    cases hi3
    rw [loadIn_at hv (by omega)]
    by_cases hik : i = k
    · subst hik
      rw [if_pos rfl, decide_eq_true (by rw [List.length_take]; omega)]
    · rw [if_neg (by omega), if_neg (by omega)]
      rw [h.used i (decide (128 * i < (xs.take (128 * k)).length)) (by show ((List.range n).map (fun s => decide (128 * s < (xs.take (128 * k)).length)))[i]? = _; simp [hin])]
      congr 2
      rw [List.length_take, List.length_take]
      by_cases h1 : 128 * i < min (128 * k) xs.length
      · rw [decide_eq_true h1, decide_eq_true (by omega)]
      · rw [decide_eq_false h1, decide_eq_false (by omega)]
  · intro i hi
    rw [e1] at hi
    rw [loadIn_at hv (by omega), if_neg (by omega), if_neg (by omega)]
    exact h.last i (by rw [e1]; exact hi)

theorem load_step {F : Nat → Prop} {wr w' : World} {b n : Nat} {room : Int} {xs : List Int} {k sb mb : Nat} {vs : List Value} {vw : Value} {c : Int} {L : List Int} (hk : 128 * k < xs.length) (hn : xs.length ≤ 128 * n) (hroom : (sectorsOf xs.length : Int) ≤ room)
    (h : PDAt F wr b (DS.loaded n room (xs.take (128 * k))) 0 [] sb mb vs vw c L) (hs : Blk w' sb 70 (loadIn vs k ((xs.drop (128 * k)).take 128)))
    (hb : Blk w' b 63 [.slice (some ⟨sb, 0, none⟩) n n, vw, .int .i64 (room - (k : Int) - 1), .int .i64 c, .bool false, .pointer (some ⟨mb, 0, none⟩)]) (hsame : ∀ j, j < wr.heap.size → j ≠ sb → j ≠ b → w'.heap[j]? = wr.heap[j]?) :
    PDAt F w' b (DS.loaded n room (xs.take (128 * (k + 1)))) 0 [] sb mb (loadIn vs k ((xs.drop (128 * k)).take 128)) vw c L := by
  have e1 : ∀ ys : List Int, (DS.loaded n room ys).kept.length = n := fun ys => by simp [DS.loaded]
  obtain ⟨vm, hvm⟩ := h.met.blk
  have hu : (DS.loaded n room (xs.take (128 * (k + 1)))).used = k + 1 := by
    rw [loaded_used _ _ _ (by rw [List.length_take]; omega), List.length_take]; unfold sectorsOf; omega
  have hk2 : k + 1 ≤ sectorsOf xs.length := by unfold sectorsOf; omega
  refine ⟨h.fb, h.fs, h.fm, ?_, hs, loaded_secs hk hn h.secs, h.wait.kept (fun g _ hv => ?_), rfl, ?_, h.cut0, h.cut1, fun ho => h.cut rfl, h.met.kept (hsame mb h.met.lt (hvm.ne h.sect (by decide)) (hvm.ne h.head (by decide))), h.ops⟩
  · rw [e1, hu]
    have e : (DS.loaded n room (xs.take (128 * (k + 1)))).room - ((k + 1 : Nat) : Int) = room - (k : Int) - 1 := by show room - ((k + 1 : Nat) : Int) = _; omega
    rw [e]; exact hb
  · obtain ⟨vs', hv⟩ := hv
    exact hsame g hv.lt (hv.ne h.sect (by decide)) (hv.ne h.head (by decide))
  · rw [hu]; show ((k + 1 : Nat) : Int) ≤ room; omega
end Go.Proofs.Ythdclncgmhgmfaa
