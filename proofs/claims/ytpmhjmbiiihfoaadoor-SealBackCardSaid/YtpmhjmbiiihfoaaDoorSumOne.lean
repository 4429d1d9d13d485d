import Derived.Test.YtpmhjmbiiihfoaaDoorSum
namespace Go.Proofs.YtpmhjmbiiihfoaaDoor
open Go.RowKit

/-- One slice alone, as the parts of a call. -/
theorem parts_one (w : World) (p : Part) (e : TypeId) (hp : p.fits w) :
    Sl (w.alloc (.cells #[p.val] e)) (some ⟨w.heap.size, 0, none⟩) 1 ([p].map Part.val) ∧ ∀ q ∈ [p], q.fits (w.alloc (.cells #[p.val] e)) :=
  ⟨Sl.new_ w e [p.val] 1 rfl, fun q hq => by simp at hq; subst hq; exact hp.below (below_alloc _ _)⟩
theorem parts_two (w : World) (p q : Part) (e : TypeId) (hp : p.fits w) (hq : q.fits w) :
    Sl (w.alloc (.cells #[p.val, q.val] e)) (some ⟨w.heap.size, 0, none⟩) 2 ([p, q].map Part.val) ∧ ∀ r ∈ [p, q], r.fits (w.alloc (.cells #[p.val, q.val] e)) :=
  ⟨Sl.new_ w e [p.val, q.val] 2 rfl, fun r hr => by simp at hr; rcases hr with rfl | rfl; exact hp.below (below_alloc _ _); exact hq.below (below_alloc _ _)⟩

/-- The call with one part that lies in memory. -/
theorem sum_one (A : Option Addr) (n c : Nat) (xs : List Int) (w : World) (e : TypeId) (ht : Tabs w) (hx : Sl w A n (u8s xs)) (hb : Bytes xs) (hn : n ≤ 9223372036854775807) :
    Calls Tryd.prog 17 #[.slice (some ⟨w.heap.size, 0, none⟩) 1 1] (w.alloc (.cells #[.slice A n c] e)) fun r w' => r = .returned (.int .u32 ((sumOf xs : Nat) : Int)) ∧ Below w.heap.size w w' := by
  have h := parts_one w ⟨A, n, c, xs⟩ e ⟨hx, hb, hn⟩
  refine (sum_any _ 1 1 _ _ (ht.below (below_alloc _ _)) h.1 h.2 (by omega)).mono ?_
  rintro r w' ⟨rfl, q, rfl⟩
  exact ⟨by simp, below_drewN (below_alloc _ _) q⟩
theorem sum_two (A B : Option Addr) (n c m d : Nat) (xs ys : List Int) (w : World) (e : TypeId) (ht : Tabs w) (hx : Sl w A n (u8s xs)) (hb : Bytes xs) (hn : n ≤ 9223372036854775807) (hy : Sl w B m (u8s ys)) (hb2 : Bytes ys) (hm : m ≤ 9223372036854775807) :
    Calls Tryd.prog 17 #[.slice (some ⟨w.heap.size, 0, none⟩) 2 2] (w.alloc (.cells #[.slice A n c, .slice B m d] e)) fun r w' => r = .returned (.int .u32 ((sumOf (xs ++ ys) : Nat) : Int)) ∧ Below w.heap.size w w' := by
  have h := parts_two w ⟨A, n, c, xs⟩ ⟨B, m, d, ys⟩ e ⟨hx, hb, hn⟩ ⟨hy, hb2, hm⟩
  refine (sum_any _ 2 2 _ _ (ht.below (below_alloc _ _)) h.1 h.2 (by omega)).mono ?_
  rintro r w' ⟨rfl, q, rfl⟩
  exact ⟨by simp, below_drewN (below_alloc _ _) q⟩
theorem sum_none (w : World) (ht : Tabs w) :
    Calls Tryd.prog 17 #[.slice none 0 0] w fun r w' => r = .returned (.int .u32 0) ∧ Below w.heap.size w w' := by
  refine (sum_any none 0 0 [] w ht (Sl.nil_ _ _) (by simp) (by omega)).mono ?_
  rintro r w' ⟨rfl, q, rfl⟩
  exact ⟨by simp [sumOf, more_nil], below_drewN (Below.refl _ _) q⟩

/-- The same, with the answer under a name. -/
theorem sum_one_is (r : Nat) (A : Option Addr) (n c : Nat) (xs : List Int) (w : World) (e : TypeId) (ht : Tabs w) (hx : Sl w A n (u8s xs)) (hb : Bytes xs) (hn : n ≤ 9223372036854775807) (hr : r = sumOf xs) :
    Calls Tryd.prog 17 #[.slice (some ⟨w.heap.size, 0, none⟩) 1 1] (w.alloc (.cells #[.slice A n c] e)) fun x w' => x = .returned (.int .u32 (r : Int)) ∧ Below w.heap.size w w' := by
  rw [hr]; exact sum_one A n c xs w e ht hx hb hn
theorem sum_two_is (r : Nat) (A B : Option Addr) (n c m d : Nat) (xs ys : List Int) (w : World) (e : TypeId) (ht : Tabs w) (hx : Sl w A n (u8s xs)) (hb : Bytes xs) (hn : n ≤ 9223372036854775807) (hy : Sl w B m (u8s ys)) (hb2 : Bytes ys) (hm : m ≤ 9223372036854775807) (hr : r = sumOf (xs ++ ys)) :
    Calls Tryd.prog 17 #[.slice (some ⟨w.heap.size, 0, none⟩) 2 2] (w.alloc (.cells #[.slice A n c, .slice B m d] e)) fun x w' => x = .returned (.int .u32 (r : Int)) ∧ Below w.heap.size w w' := by
  rw [hr]; exact sum_two A B n c m d xs ys w e ht hx hb hn hy hb2 hm
theorem more_is (r s : Nat) (hs : s < 4294967296) (A : Option Addr) (n c : Nat) (xs : List Int) (w : World) (ht : Tabs w) (hx : Sl w A n (u8s xs)) (hb : Bytes xs) (hn : n ≤ 9223372036854775807) (hr : r = moreOf s xs) :
    Calls Tryd.prog 21 #[.int .u32 s, .slice A n c] w fun x w' => x = .returned (.int .u32 (r : Int)) ∧ Below w.heap.size w w' := by
  rw [hr]
  exact (more_any s hs A n c xs w ht hx hb hn).mono fun x w' ⟨h, q, hq⟩ => ⟨h, by rw [hq]; exact below_drewN (Below.refl _ _) q⟩
end Go.Proofs.YtpmhjmbiiihfoaaDoor
