/- The document's rows: plain lists; no function of the program is named here but what reads a number (zErr, zSize, zTurned, back). -/
import Derived.Test.YtcfpjbbahpjhdaaRZag2
import Derived.Test.YtcfpjbbahpjhdaaRZig
namespace Go.Proofs.Ytcfpjbbahpjhdaa
open Go.RowKit

def rightOf (ts : List Int) : Bool := decide (∀ x ∈ ts, x = 1 ∨ x = 2) && (decide (0 < ts.length) && decide (ts.length < 9))
theorem right_bad {ts : List Int} {x : Int} (h : x ∈ ts) (h1 : x ≠ 1) (h2 : x ≠ 2) : rightOf ts = false := by
  unfold rightOf
  rw [decide_eq_false (fun hall => by rcases hall x h with e | e; exact h1 e; exact h2 e)]; rfl
theorem right_good {ts : List Int} (h : ∀ x ∈ ts, x = 1 ∨ x = 2) : rightOf ts = (decide (0 < ts.length) && decide (ts.length < 9)) := by
  unfold rightOf; rw [decide_eq_true h]; rfl
theorem right_is {ts : List Int} (h : rightOf ts = true) : (∀ x ∈ ts, x = 1 ∨ x = 2) ∧ 0 < ts.length ∧ ts.length < 9 := by
  unfold rightOf at h
  simp only [Bool.and_eq_true, decide_eq_true_eq] at h
  exact h

def fitAll : List Int → List Int → Bool
  | t :: ts, v :: vs => (!decide (t = 2) || (decide (v = 0) || decide (v = 1))) && fitAll ts vs
  | _, _ => true
def fitsOf (ts l : List Int) : Bool := rightOf ts && (decide (l.length = ts.length) && fitAll ts l)
theorem fit_step {t v : Int} {ts vs : List Int} (h : t ≠ 2 ∨ v = 0 ∨ v = 1) : fitAll (t :: ts) (v :: vs) = fitAll ts vs := by
  show ((!decide (t = 2) || (decide (v = 0) || decide (v = 1))) && fitAll ts vs) = fitAll ts vs
  rcases h with h | rfl | rfl
  · rw [decide_eq_false h]; simp
  · simp
  · simp
theorem fit_bad {t v : Int} {ts vs : List Int} (h : t = 2) (h0 : v ≠ 0) (h1 : v ≠ 1) : fitAll (t :: ts) (v :: vs) = false := by
  show ((!decide (t = 2) || (decide (v = 0) || decide (v = 1))) && fitAll ts vs) = false
  rw [decide_eq_true h, decide_eq_false h0, decide_eq_false h1]; rfl

def sizeSum : List Int → Int
  | [] => 0
  | t :: ts => (if t = 1 then 10 else 1) + sizeSum ts
def sizeRow (ts : List Int) : Int := if rightOf ts = true then sizeSum ts else 0

def rowBytes : List Int → List Int → List Int
  | t :: ts, v :: vs => (if t = 2 then [v % 256] else sh 10 (turned v)) ++ rowBytes ts vs
  | _, _ => []

/-- The rest of a row, of bytes: its values, and the error. -/
def rd : List Int → List Int → List Int × Int
  | [], b => if b = [] then ([], 0) else ([], 12)
  | t :: ts, b =>
    if t = 1 then
      if zErr b = 0 then
        let r := rd ts (b.drop (zSize b))
        if r.2 = 0 then (back (zTurned b) :: r.1, 0) else ([], r.2)
      else ([], zErr b)
    else match b with
      | [] => ([], 10)
      | x :: b' =>
        if 1 < x then ([], 11)
        else
          let r := rd ts b'
          if r.2 = 0 then (x :: r.1, 0) else ([], r.2)
def readRow (ts b : List Int) : List Int × Int := if rightOf ts = true then rd ts b else ([], 2)
/-- What is read so far, with the rest. -/
def joinRd (L : List Int) (r : List Int × Int) : List Int × Int := if r.2 = 0 then (L ++ r.1, 0) else ([], r.2)
theorem join_nil (r : List Int × Int) (h : r.2 ≠ 0 → r.1 = []) : joinRd [] r = r := by
  unfold joinRd
  split
  · rename_i h0; cases r; simp at h0 ⊢; exact h0.symm
  · rename_i h0; cases r; simp at h0 h ⊢; exact h h0
theorem rd_err : ∀ (ts b : List Int), (rd ts b).2 ≠ 0 → (rd ts b).1 = []
  | [], b => by unfold rd; split <;> simp
  | t :: ts, b => by
    unfold rd
    split
    · split
      · simp only
        split
        · simp
        · simp
      · simp
    · split
      · simp
      · split
        · simp
        · simp only
          split
          · simp
          · simp
theorem join_int {L ts b : List Int} (h : zErr b = 0) : joinRd L (rd (1 :: ts) b) = joinRd (L ++ [back (zTurned b)]) (rd ts (b.drop (zSize b))) := by
  conv => lhs; unfold rd
  rw [if_pos rfl, if_pos h]
  unfold joinRd
  simp only
  split
  · simp
  · rename_i h0; simp [h0]
theorem join_int_bad {L ts b : List Int} (h : zErr b ≠ 0) : joinRd L (rd (1 :: ts) b) = ([], zErr b) := by
  unfold rd joinRd
  rw [if_pos rfl, if_neg h]
  simp [h]
theorem join_bool {L ts b : List Int} {t x : Int} (ht : t ≠ 1) (h : ¬ 1 < x) : joinRd L (rd (t :: ts) (x :: b)) = joinRd (L ++ [x]) (rd ts b) := by
  conv => lhs; unfold rd
  rw [if_neg ht]
  unfold joinRd
  simp only [if_neg h]
  split
  · simp
  · rename_i h0; simp [h0]
theorem join_bool_big {L ts b : List Int} {t x : Int} (ht : t ≠ 1) (h : 1 < x) : joinRd L (rd (t :: ts) (x :: b)) = ([], 11) := by
  unfold rd joinRd
  rw [if_neg ht]
  simp [h]
theorem join_bool_end {L ts : List Int} {t : Int} (ht : t ≠ 1) : joinRd L (rd (t :: ts) []) = ([], 10) := by
  unfold rd joinRd
  rw [if_neg ht]
  simp
theorem join_done {L : List Int} : joinRd L (rd [] []) = (L, 0) := by simp [rd, joinRd]
theorem join_more {L b : List Int} (h : b ≠ []) : joinRd L (rd [] b) = ([], 12) := by simp [rd, joinRd, h]
end Go.Proofs.Ytcfpjbbahpjhdaa
