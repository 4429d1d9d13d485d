import Derived.Test.YteefjmbgibbboaaDoorCAwake
import Derived.StillTailTactics
import Derived.Deep.CutBlock
namespace Go.Proofs.YteefjmbgibbboaaDoor
open Go.RowKit

/-- A text, turned by two others, byte by byte. -/
def mix3 : List Int → List Int → List Int → List Int
  | x :: xs, y :: ys, z :: zs => (((x.toNat ^^^ y.toNat) ^^^ z.toNat : Nat) : Int) :: mix3 xs ys zs
  | _, _, _ => []
theorem mix3_length : ∀ {n : Nat} {xs ys zs : List Int}, xs.length = n → ys.length = n → zs.length = n → (mix3 xs ys zs).length = n
  | 0, [], [], [], _, _, _ => rfl
  | n + 1, x :: xs, y :: ys, z :: zs, h1, h2, h3 => by
    simp only [mix3, List.length_cons]
    rw [mix3_length (n := n) (by simpa using h1) (by simpa using h2) (by simpa using h3)]
theorem mix3_at : ∀ {k : Nat} {xs ys zs : List Int} {x y z : Int}, xs[k]? = some x → ys[k]? = some y → zs[k]? = some z → (mix3 xs ys zs)[k]? = some ((((x.toNat ^^^ y.toNat) ^^^ z.toNat : Nat) : Int))
  | 0, _ :: _, _ :: _, _ :: _, _, _, _, h1, h2, h3 => by simp at h1 h2 h3; simp [mix3, h1, h2, h3]
  | k + 1, _ :: _, _ :: _, _ :: _, _, _, _, h1, h2, h3 => by
    simp only [mix3, List.getElem?_cons_succ] at *
    exact mix3_at h1 h2 h3
theorem mix3_bytes : ∀ {n : Nat} {xs ys zs : List Int}, xs.length = n → ys.length = n → zs.length = n → Bytes xs → Bytes ys → Bytes zs → Bytes (mix3 xs ys zs)
  | 0, [], [], [], _, _, _, _, _, _ => by simp [mix3, Bytes]
  | n + 1, x :: xs, y :: ys, z :: zs, h1, h2, h3, b1, b2, b3 => by
    intro u hu
    simp only [mix3, List.mem_cons] at hu
    rcases hu with rfl | hu
    · have q1 := b1 x List.mem_cons_self; have q2 := b2 y List.mem_cons_self; have q3 := b3 z List.mem_cons_self
      have : (x.toNat ^^^ y.toNat) ^^^ z.toNat < 2 ^ 8 := Nat.xor_lt_two_pow (Nat.xor_lt_two_pow (by omega) (by omega)) (by omega)
      omega
    · exact mix3_bytes (n := n) (by simpa using h1) (by simpa using h2) (by simpa using h3) (fun v hv => b1 v (List.mem_cons_of_mem _ hv)) (fun v hv => b2 v (List.mem_cons_of_mem _ hv)) (fun v hv => b3 v (List.mem_cons_of_mem _ hv)) u hu
theorem xor_six (a b c x y z : Nat) : ((a ^^^ b) ^^^ c) ^^^ ((x ^^^ y) ^^^ z) = ((a ^^^ x) ^^^ (b ^^^ y)) ^^^ (c ^^^ z) := by
  rw [xor_swap (a ^^^ b) c (x ^^^ y) z, xor_swap a b x y]
theorem reg_mix : ∀ {n : Nat} {xs ys zs : List Int} (a b c : Nat), xs.length = n → ys.length = n → zs.length = n → reg ((a ^^^ b) ^^^ c) (mix3 xs ys zs) = (reg a xs ^^^ reg b ys) ^^^ reg c zs
  | 0, [], [], [], a, b, c, _, _, _ => rfl
  | n + 1, x :: xs, y :: ys, z :: zs, a, b, c, h1, h2, h3 => by
    simp only [mix3, reg_cons, Int.toNat_natCast]
    rw [xor_six, half8_xor, half8_xor]
    exact reg_mix (n := n) _ _ _ (by simpa using h1) (by simpa using h2) (by simpa using h3)
theorem sum_mix {n : Nat} {xs ys zs : List Int} (h1 : xs.length = n) (h2 : ys.length = n) (h3 : zs.length = n) : sumOf (mix3 xs ys zs) = (sumOf xs ^^^ sumOf ys) ^^^ sumOf zs := by
  unfold sumOf moreOf
  have := reg_mix (ones ^^^ 0) (ones ^^^ 0) (ones ^^^ 0) h1 h2 h3
  rw [Nat.xor_self, Nat.zero_xor] at this
  rw [this]
  generalize reg (ones ^^^ 0) xs = p
  generalize reg (ones ^^^ 0) ys = q
  generalize reg (ones ^^^ 0) zs = r
  rw [xor_swap ones p ones q, Nat.xor_self, Nat.zero_xor, ← Nat.xor_assoc, Nat.xor_comm ones, Nat.xor_assoc]

set_option maxHeartbeats 1600000 in
theorem mixed_any (A B C : Option Addr) (n c d e : Nat) (xs ys zs : List Int) (w : World) (hx : Sl w A n (u8s xs)) (hy : Sl w B n (u8s ys)) (hz : Sl w C n (u8s zs)) (hxb : Bytes xs) (hyb : Bytes ys) (hzb : Bytes zs) (hn : n ≤ 300) :
    Calls Tryd.prog 12 #[.slice A n c, .slice B n d, .slice C n e] w fun r w' => ∃ v, r = .returned v ∧ w'.ownsRow w.heap.size 5 1 v n (u8s (mix3 xs ys zs)) ∧ Below w.heap.size w w' := by
  have hlx : xs.length = n := by simpa using hx.1
  have hly : ys.length = n := by simpa using hy.1
  have hlz : zs.length = n := by simpa using hz.1
  have Hl := Lib.hid (mix3_length hlx hly hlz)
  have Hxb := Lib.hid hxb; have Hyb := Lib.hid hyb; have Hzb := Lib.hid hzb
  clear hlx hly hlz hxb hyb hzb
  obtain ⟨i0, hi0, hz0, hz1, hz2⟩ := info_parts info_u8
  go_enter Tryd.func12, Tryd.ntmps12
  go_wp2
  go_loopw [7, 11] (fun v i wr => ∃ k : Nat, k ≤ n ∧ i = .int .i64 k ∧ wr.ownsRow w.heap.size 5 1 v k (u8s ((mix3 xs ys zs).take k)) ∧ Below w.heap.size w wr) (fun _ i _ => n - (intOf i).toNat)
  case atStart => exact ⟨0, by omega, rfl, World.ownsRow_nil _ _ _ _, Below.refl _ _⟩
  case round =>
    obtain ⟨k, hk, rfl, hown, hbl⟩ := hrel
    by_cases hlt : k < n
    · have hsz := hbl.size
      obtain ⟨a1, x, rfl, hcx, hux⟩ := (hx.below hbl).num hlt
      obtain ⟨a2, y, rfl, hcy, huy⟩ := (hy.below hbl).num hlt
      obtain ⟨a3, z, rfl, hcz, huz⟩ := (hz.below hbl).num hlt
      have hx1 := Hxb.out x (List.mem_of_getElem? hux)
      have hy1 := Hyb.out y (List.mem_of_getElem? huy)
      have hz1' := Hzb.out z (List.mem_of_getElem? huz)
      obtain ⟨x, rfl⟩ := Int.eq_ofNat_of_zero_le hx1.1
      obtain ⟨y, rfl⟩ := Int.eq_ofNat_of_zero_le hy1.1
      obtain ⟨z, rfl⟩ := Int.eq_ofNat_of_zero_le hz1'.1
      have Hm := Lib.hid (mix3_at hux huy huz)
      simp only [Int.toNat_natCast] at Hm
      obtain ⟨p, hp, hp1⟩ : ∃ p : Nat, p = x ^^^ y ∧ p < 256 := ⟨_, rfl, Nat.xor_lt_two_pow (n := 8) (by omega) (by omega)⟩
      have hpx : bits .xor .u8 (x : Int) (y : Int) = (p : Int) := by rw [u8_xor_nat _ _ (by omega) (by omega), hp]
      rw [← hp] at Hm
      obtain ⟨q, hq, hq1⟩ : ∃ q : Nat, q = p ^^^ z ∧ q < 256 := ⟨_, rfl, Nat.xor_lt_two_pow (n := 8) (by omega) (by omega)⟩
      have hqx : bits .xor .u8 (p : Int) (z : Int) = (q : Int) := by rw [u8_xor_nat _ _ (by omega) (by omega), hq]
      rw [← hq] at Hm
      clear hux huy huz hp hq
      have hd : decide ((k : Int) < (n : Int)) = true := decide_eq_true (by omega)
      go_upto_block 1 with fail
      go_cut [7] from 13 to 40 (fun s7 wc => wc.ownsRow w.heap.size 5 1 s7 (k + 1) (u8s ((mix3 xs ys zs).take k) ++ [.int .u8 (q : Int)]) ∧ Below w.heap.size w wc)
      case first =>
        go_wp2
        go_region_law (refine step_push (.tmp 24) (.tmp 39) 22 5 i0 _ (.int .u8 (q : Int)) 1 rfl rfl Tryd.underlying22 hi0 hz0 hz1 hz2 rfl w.heap.size _ _ _ (show (World.drew _).ownsRow _ _ _ _ _ _ from hown) (by simp [Act.eval, Act.put]) (by simp [Act.eval, Act.put]) rfl (by omega) (by omega) hsz ?_; intro v1 w1 hown1 hb1 hs1)
        all_goals
          go_wp2_with fail
          go_meet
          exact ⟨hown1, hbl.drew.trans hb1⟩
      case rest =>
        obtain ⟨hown1, hb1⟩ := hcut
        go_wp2
        go_roundw
        case rel => exact ⟨k + 1, by omega, by go_num, by rw [take_snoc _ _ _ Hm.out]; simpa [u8s] using hown1, hb1⟩
        case measure => simp [intOf]; omega
    · obtain rfl : k = n := by omega
      have hd : decide ((k : Int) < (k : Int)) = false := decide_eq_false (by omega)
      rw [List.take_of_length_le (by rw [Hl.out]; omega)] at hown
      go_wp2
      go_ret
      exact ⟨_, rfl, hown, hbl⟩
end Go.Proofs.YteefjmbgibbboaaDoor
