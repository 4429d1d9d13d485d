/- Pieces of an array written over: lists of bytes, cell by cell; what a copy into a piece does. -/
import Derived.Test.YtpmhjmbiiihfoaaDoorSeal0
import Derived.Laws.IdiomCopy
namespace Go.Proofs.YtpmhjmbiiihfoaaDoor
open Go.RowKit Go.Deep
set_option linter.unusedSimpArgs false
set_option linter.unusedVariables false

/-- ys over xs, from place o on. -/
def over (o : Nat) (ys xs : List Int) : List Int := xs.take o ++ ys ++ xs.drop (o + ys.length)
theorem over_len {o : Nat} {ys xs : List Int} (h : o + ys.length ≤ xs.length) : (over o ys xs).length = xs.length := by
  unfold over
  rw [List.length_append, List.length_append, List.length_take, List.length_drop]; omega
theorem over_at {o : Nat} {ys xs : List Int} (h : o + ys.length ≤ xs.length) (i : Nat) : (over o ys xs)[i]? = if o ≤ i ∧ i < o + ys.length then ys[i - o]? else xs[i]? := by
  unfold over
  by_cases h1 : i < o
  · rw [if_neg (by omega), List.append_assoc, List.getElem?_append_left (by rw [List.length_take]; omega), List.getElem?_take, if_pos h1]
  · by_cases h2 : i < o + ys.length
    · rw [if_pos ⟨by omega, h2⟩, List.getElem?_append_left (by rw [List.length_append, List.length_take]; omega), List.getElem?_append_right (by rw [List.length_take]; omega), List.length_take, Nat.min_eq_left (by omega)]
    · rw [if_neg (by omega), List.getElem?_append_right (by rw [List.length_append, List.length_take]; omega), List.length_append, List.length_take, List.getElem?_drop]
      congr 1
      omega
theorem set_at_int (xs : List Int) (o : Nat) (v : Int) (i : Nat) (ho : o < xs.length) : (xs.set o v)[i]? = if i = o then some v else xs[i]? := by
  by_cases h : i = o
  · subst h; rw [if_pos rfl, List.getElem?_set_self ho]
  · rw [if_neg h, List.getElem?_set_ne (fun e => h e.symm)]

/-- A sealed sector, place by place. -/
theorem sealed_at (kind n : Int) {load : List Int} (hl : load.length ≤ 113) (i : Nat) : (sealed kind n load)[i]? =
    if i = 0 then some kind else if i < 9 then (bytesOf n)[i - 1]? else if i = 9 then some (load.length : Int) else if i < 10 + load.length then load[i - 10]? else if i < 123 then some 0
    else if i < 127 then (four (sumOf (headOf kind n load)))[i - 123]? else if i = 127 then some 215 else none := by
  have hh := head_len kind n hl
  unfold sealed sealOf
  by_cases h123 : i < 123
  · rw [List.getElem?_append_left (by rw [hh]; exact h123)]
    unfold headOf
    rcases i with _ | i
    · rw [if_pos rfl]; rfl
    · rw [if_neg (by omega), List.getElem?_cons_succ]
      by_cases h9 : i < 8
      · rw [if_pos (by omega), List.getElem?_append_left (by rw [bytesOf_len]; exact h9)]; rfl
      · rw [if_neg (by omega), List.getElem?_append_right (by rw [bytesOf_len]; omega), bytesOf_len]
        by_cases h10 : i = 8
        · subst h10; rw [if_pos rfl]; rfl
        · rw [if_neg (by omega), show i - 8 = (i - 9) + 1 by omega, List.getElem?_cons_succ]
          by_cases hL : i - 9 < load.length
          · rw [if_pos (by omega), List.getElem?_append_left hL, show i + 1 - 10 = i - 9 by omega]
          · rw [if_neg (by omega), if_pos h123, List.getElem?_append_right (by omega), List.getElem?_replicate, if_pos (by omega)]
  · rw [if_neg (by omega), if_neg (by omega), if_neg (by omega), if_neg (by omega), if_neg h123, List.getElem?_append_right (by omega), hh]
    by_cases h127 : i < 127
    · rw [if_pos h127, List.getElem?_append_left (by rw [four_len]; omega)]
    · rw [if_neg h127, List.getElem?_append_right (by rw [four_len]; omega), four_len]
      by_cases he : i = 127
      · subst he; rfl
      · rw [if_neg he, List.getElem?_eq_none (by simp; omega)]

/-- What a copy into a piece of a row does, its source a slice, nil too. -/
theorem copy_into {w : World} {b : Nat} {t : TypeId} {xs ys : List Int} {A : Option Addr} {n c o m cap : Nat} (h : Blk w b t (u8s xs)) (hs : Sl w A n (u8s ys)) (hn : n ≤ m) (ho : o + m ≤ xs.length) :
    (Builtin.copy_ #[22, 22] 3 #[.slice (some ⟨b, o, none⟩) m cap, .slice A n c]).run Tryd.prog w = .ok (.int .i64 (n : Int)) (w.setCells b o (u8s ys)) ∧ Blk (w.setCells b o (u8s ys)) b t (u8s (over o ys xs)) := by
  have hyl : ys.length = n := by simpa using hs.1
  have hcl : (u8s ys).length = n := by rw [List.length_map, hyl]
  have hblk : Blk (w.setCells b o (u8s ys)) b t (u8s (over o ys xs)) := by
    have := setCells_blk (u8s ys) o w (u8s xs) h (by rw [hcl, List.length_map]; omega)
    unfold over u8s
    rw [List.map_append, List.map_append, List.map_take, List.map_drop]
    rw [hcl] at this
    rw [hyl]
    exact this
  refine ⟨?_, hblk⟩
  cases A with
  | none =>
    have hn0 : n = 0 := by
      rcases n with _ | n
      · rfl
      · obtain ⟨ad, u, e, _⟩ := hs.num (k := 0) (by omega)
        cases e
    subst hn0
    have : ys = [] := List.eq_nil_of_length_eq_zero hyl
    subst this
    exact run_copy_none w _ _ _ 5 _ _ _ _ _ _ Tryd.underlying22 (by kernel_rfl) (by show min 0 m = 0; omega)
  | some ad =>
    rw [show (Value.int .i64 (n : Int)) = goInt (u8s ys).length by rw [hcl]; rfl]
    refine run_copy_cells w _ _ _ 5 _ _ _ _ _ _ _ _ Tryd.underlying22 (by kernel_rfl) (by rw [hcl]; show n = min n m; omega) ?_ ?_ (fun j _ => h.frozen _) (one_u8s _)
    · intro j v hj
      obtain ⟨ad', e, hc⟩ := hs.2 j v hj
      cases e; exact hc
    · intro j hj
      rw [hcl] at hj
      rw [h.cell (List.getElem?_eq_getElem (show o + j < (u8s xs).length by rw [List.length_map]; omega))]; rfl
end Go.Proofs.YtpmhjmbiiihfoaaDoor
