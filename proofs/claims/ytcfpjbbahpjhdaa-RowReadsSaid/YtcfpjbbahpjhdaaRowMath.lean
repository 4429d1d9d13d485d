import Derived.Test.YtcfpjbbahpjhdaaRow
import Derived.Test.YtcfpjbbahpjhdaaBack
namespace Go.Proofs.Ytcfpjbbahpjhdaa
open Go.RowKit

def writeRow (ts l : List Int) : List Int × Int := if rightOf ts = true then (if fitsOf ts l = true then (rowBytes ts l, 0) else ([], 41)) else ([], 2)
theorem write_arg {ts l : List Int} (h : rightOf ts = false) : writeRow ts l = ([], 2) := by unfold writeRow; rw [if_neg (by rw [h]; decide)]
theorem write_row {ts l : List Int} (h : rightOf ts = true) (h2 : fitsOf ts l = false) : writeRow ts l = ([], 41) := by unfold writeRow; rw [if_pos h, if_neg (by rw [h2]; decide)]
theorem write_ok {ts l : List Int} (h : rightOf ts = true) (h2 : fitsOf ts l = true) : writeRow ts l = (rowBytes ts l, 0) := by unfold writeRow; rw [if_pos h, if_pos h2]
theorem fits_parts {ts l : List Int} (h : fitsOf ts l = true) : rightOf ts = true ∧ l.length = ts.length ∧ fitAll ts l = true := by
  unfold fitsOf at h
  simp only [Bool.and_eq_true, decide_eq_true_eq] at h
  exact h
theorem write_zero {ts l : List Int} (h : (writeRow ts l).2 = 0) : rightOf ts = true ∧ fitsOf ts l = true ∧ writeRow ts l = (rowBytes ts l, 0) := by
  cases h1 : rightOf ts with
  | false => rw [write_arg h1] at h; simp at h
  | true =>
    cases h2 : fitsOf ts l with
    | false => rw [write_row h1 h2] at h; simp at h
    | true => exact ⟨rfl, rfl, write_ok h1 h2⟩

abbrev I64 (l : List Int) : Prop := ∀ v ∈ l, -9223372036854775808 ≤ v ∧ v ≤ 9223372036854775807

theorem fit_cons {t v : Int} {ts vs : List Int} (h : fitAll (t :: ts) (v :: vs) = true) : (t = 2 → v = 0 ∨ v = 1) ∧ fitAll ts vs = true := by
  have h : ((!decide (t = 2) || (decide (v = 0) || decide (v = 1))) && fitAll ts vs) = true := h
  simp only [Bool.and_eq_true, Bool.or_eq_true, Bool.not_eq_true', decide_eq_true_eq, decide_eq_false_iff_not] at h
  exact ⟨fun ht => h.1.resolve_left (fun hn => hn ht), h.2⟩

/-- What is written is read. -/
theorem rd_back : ∀ (ts l : List Int), (∀ t ∈ ts, t = 1 ∨ t = 2) → l.length = ts.length → fitAll ts l = true → I64 l → rd ts (rowBytes ts l) = (l, 0)
  | [], [], _, _, _, _ => rfl
  | t :: ts, v :: vs, ht, hl, hf, hv => by
    obtain ⟨h1, h2⟩ := fit_cons hf
    have hi := rd_back ts vs (fun x hx => ht x (List.mem_cons_of_mem _ hx)) (by simpa using hl) h2 (fun x hx => hv x (List.mem_cons_of_mem _ hx))
    have hv0 := hv v List.mem_cons_self
    have ht0 := ht t List.mem_cons_self
    by_cases h : t = 1
    · subst h
      have e : rowBytes (1 :: ts) (v :: vs) = sh 10 (turned v) ++ rowBytes ts vs := by show (if (1 : Int) = 2 then _ else _) ++ _ = _; rw [if_neg (by omega)]
      obtain ⟨r1, r2⟩ := turned_range hv0.1 hv0.2
      obtain ⟨z1, z2, z3⟩ := zag_fore (turned v) (rowBytes ts vs) r1 r2
      rw [e]
      have := join_int (L := []) (ts := ts) z1
      rw [z2, z3, back_turned, List.drop_left, hi, join_nil _ (rd_err _ _)] at this
      rw [this]; simp [joinRd]
    · have h2' : t = 2 := ht0.resolve_left h
      subst h2'
      have e : rowBytes (2 :: ts) (v :: vs) = v % 256 :: rowBytes ts vs := by show (if (2 : Int) = 2 then _ else _) ++ _ = _; rw [if_pos rfl]; rfl
      have hm : v % 256 = v := by rcases h1 rfl with rfl | rfl <;> rfl
      have hb : ¬ 1 < v := by rcases h1 rfl with rfl | rfl <;> omega
      rw [e, hm]
      have := join_bool (L := []) (ts := ts) (b := rowBytes ts vs) h hb
      rw [hi, join_nil _ (rd_err _ _)] at this
      rw [this]; simp [joinRd]

theorem bytes_step' (t v : Int) (ts vs : List Int) : rowBytes (t :: ts) (v :: vs) = (if t = 2 then [v % 256] else sh 10 (turned v)) ++ rowBytes ts vs := rfl
theorem size_le : ∀ (ts l : List Int), (∀ t ∈ ts, t = 1 ∨ t = 2) → l.length = ts.length → ((rowBytes ts l).length : Int) ≤ sizeSum ts
  | [], [], _, _ => by simp [rowBytes, sizeSum]
  | t :: ts, v :: vs, ht, hl => by
    have hi := size_le ts vs (fun x hx => ht x (List.mem_cons_of_mem _ hx)) (by simpa using hl)
    have ht0 := ht t List.mem_cons_self
    rw [bytes_step', List.length_append]
    unfold sizeSum
    by_cases h : t = 2
    · subst h
      rw [if_pos rfl, if_neg (by omega)]
      simp
      omega
    · rw [if_neg h]
      have h1 := sh_len 10 (turned v)
      rw [if_pos (ht0.resolve_right h)]
      simp; omega

/-- Whatever is read fits, and has just the bytes that it was read of. -/
theorem rd_fore : ∀ (ts b y : List Int), (∀ t ∈ ts, t = 1 ∨ t = 2) → (∀ x ∈ b, 0 ≤ x ∧ x < 256) → rd ts b = (y, 0) → y.length = ts.length ∧ fitAll ts y = true ∧ rowBytes ts y = b ∧ I64 y
  | [], b, y, _, _, h => by
    unfold rd at h
    split at h
    · rename_i hb
      simp only [Prod.mk.injEq] at h
      obtain ⟨rfl, _⟩ := h
      exact ⟨rfl, rfl, by rw [hb]; rfl, fun x hx => nomatch hx⟩
    · simp at h
  | t :: ts, b, y, ht, hb, h => by
    have ht0 := ht t List.mem_cons_self
    have htr : ∀ t ∈ ts, t = 1 ∨ t = 2 := fun x hx => ht x (List.mem_cons_of_mem _ hx)
    by_cases h1 : t = 1
    · subst h1
      unfold rd at h
      rw [if_pos rfl] at h
      by_cases hz : zErr b = 0
      · rw [if_pos hz] at h
        simp only at h
        split at h
        · rename_i hr
          simp only [Prod.mk.injEq] at h
          obtain ⟨rfl, _⟩ := h
          have hi := rd_fore ts (b.drop (zSize b)) (rd ts (b.drop (zSize b))).1 htr (fun x hx => hb x (List.mem_of_mem_drop hx)) (by rw [← hr])
          have hzb := zag_back hb hz
          have hzr := zTurned_range hb
          refine ⟨by simp [hi.1], ?_, ?_, ?_⟩
          · rw [fit_step (.inl (by omega))]; exact hi.2.1
          · rw [bytes_step', if_neg (by omega), hi.2.2.1, turned_back hzr.1, hzb, List.take_append_drop]
          · intro v hv
            simp only [List.mem_cons] at hv
            rcases hv with rfl | hv
            · exact back_range hzr.1 hzr.2
            · exact hi.2.2.2 v hv
        · rename_i hr
          simp only [Prod.mk.injEq] at h
          exact absurd h.2 hr
      · rw [if_neg hz] at h
        simp only [Prod.mk.injEq] at h
        exact absurd h.2 hz
    · have h2 : t = 2 := ht0.resolve_left h1
      subst h2
      unfold rd at h
      rw [if_neg h1] at h
      match b, hb, h with
      | [], hb, h => simp at h
      | x :: b', hb, h =>
        have hx := hb x List.mem_cons_self
        simp only at h
        split at h
        · simp at h
        · rename_i hx1
          split at h
          · rename_i hr
            simp only [Prod.mk.injEq] at h
            obtain ⟨rfl, _⟩ := h
            have hi := rd_fore ts b' (rd ts b').1 htr (fun z hz => hb z (List.mem_cons_of_mem _ hz)) (by rw [← hr])
            refine ⟨by simp [hi.1], ?_, ?_, ?_⟩
            · rw [fit_step (.inr (by omega))]; exact hi.2.1
            · rw [bytes_step', if_pos rfl, hi.2.2.1, show x % 256 = x by omega]; rfl
            · intro v hv
              simp only [List.mem_cons] at hv
              rcases hv with rfl | hv
              · omega
              · exact hi.2.2.2 v hv
          · rename_i hr
            simp only [Prod.mk.injEq] at h
            exact absurd h.2 hr
end Go.Proofs.Ytcfpjbbahpjhdaa
