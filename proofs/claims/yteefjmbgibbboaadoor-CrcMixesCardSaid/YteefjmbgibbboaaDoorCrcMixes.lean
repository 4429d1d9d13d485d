import Derived.Test.YteefjmbgibbboaaDoorMix
namespace Go.Proofs.YteefjmbgibbboaaDoor
open Go.RowKit

theorem run_min_four {P : Program} {w : World} (ts : Array TypeId) (t : TypeId) (a b c : Nat) (r : Nat) (hr : r = min (min (min a b) c) 300) :
    (Builtin.min_ ts t #[.int .i64 (a : Int), .int .i64 (b : Int), .int .i64 (c : Int), .int .i64 300]).run P w = .ok (.int .i64 (r : Int)) w := by
  subst hr
  simp [Builtin.min_, Builtin.min2]
  repeat' split
  all_goals omega

set_option maxHeartbeats 800000 in
theorem crcMixes_walk (w : World) (ht : Tabs w) (A : Option Addr) (n c : Nat) (xs : List Int) (hx : Sl w A n (u8s xs)) (hxb : Bytes xs) (hn : n ≤ 9223372036854775807) (hnc : n ≤ c)
    (B : Option Addr) (m d : Nat) (ys : List Int) (hy : Sl w B m (u8s ys)) (hyb : Bytes ys) (hm : m ≤ 9223372036854775807) (hmd : m ≤ d)
    (C : Option Addr) (p e : Nat) (zs : List Int) (hz : Sl w C p (u8s zs)) (hzb : Bytes zs) (hp : p ≤ 9223372036854775807) (hpe : p ≤ e) :
    Calls Tryd.prog 5 #[.slice A n c, .slice B m d, .slice C p e] w fun e w' => e = .returned (.bool true) ∧ Below w.heap.size w w' := by
  have Hxb := Lib.hid hxb; have Hyb := Lib.hid hyb; have Hzb := Lib.hid hzb
  clear hxb hyb hzb
  go_enter Tryd.func5, Tryd.ntmps5
  go_wp2_with fail
  refine (awake_any w ht).mono ?_
  rintro e w1 ⟨rfl, hb1⟩
  have Ht1 := Lib.hid (ht.below hb1)
  have hx1 := hx.below hb1
  have hy1 := hy.below hb1
  have hz1 := hz.below hb1
  have hsz1 := hb1.size
  clear ht hx hy hz
  obtain ⟨N, hN⟩ : ∃ N : Nat, N = min (min (min n m) p) 300 := ⟨_, rfl⟩
  have hmin := run_min_four (P := Tryd.prog) (w := w1) #[3, 3, 3, 3] 3 n m p N hN
  have hN1 : N ≤ n := by omega
  have hN2 : N ≤ m := by omega
  have hN3 : N ≤ p := by omega
  have hN4 : N ≤ 300 := by omega
  have hNc : N ≤ c := by omega
  have hNd : N ≤ d := by omega
  have hNe : N ≤ e := by omega
  clear hN
  go_wp2_with fail
  go_quiet (fail)
  have hbz : Below w.heap.size w (w1.drewN nq) := below_drewN hb1 nq
  have Htz := Lib.hid (Ht1.out.below (below_drewN (Below.refl w1.heap.size w1) nq))
  have hxz : Sl (w1.drewN nq) A N (u8s (xs.take N)) := by have := (hx1.take hN1).drewN nq; simpa [u8s] using this
  have hyz : Sl (w1.drewN nq) B N (u8s (ys.take N)) := by have := (hy1.take hN2).drewN nq; simpa [u8s] using this
  have hzz : Sl (w1.drewN nq) C N (u8s (zs.take N)) := by have := (hz1.take hN3).drewN nq; simpa [u8s] using this
  have hxl : (xs.take N).length = N := by have := hxz.1; simpa [u8s] using this
  have hyl : (ys.take N).length = N := by have := hyz.1; simpa [u8s] using this
  have hzl : (zs.take N).length = N := by have := hzz.1; simpa [u8s] using this
  have Hx := Lib.hid (show Bytes (xs.take N) from fun x hx => Hxb.out x (List.mem_of_mem_take hx))
  have Hy := Lib.hid (show Bytes (ys.take N) from fun x hx => Hyb.out x (List.mem_of_mem_take hx))
  have Hz := Lib.hid (show Bytes (zs.take N) from fun x hx => Hzb.out x (List.mem_of_mem_take hx))
  clear hx1 hy1 hz1 Ht1 hb1 hsz1 hmin
  generalize w1.drewN nq = wz at *
  generalize xs.take N = xs' at *
  generalize ys.take N = ys' at *
  generalize zs.take N = zs' at *
  go_wp2_with fail
  refine (mixed_any A B C N c d e xs' ys' zs' wz hxz hyz hzz Hx.out Hy.out Hz.out hN4).mono ?_
  rintro r w4 ⟨v4, rfl, hown4, hb4⟩
  obtain ⟨A4, c4, rfl, hs4⟩ := own_form hown4
  clear hown4
  have hx4 := hxz.below hb4
  have hy4 := hyz.below hb4
  have hz4 := hzz.below hb4
  have Ht4 := Lib.hid (Htz.out.below hb4)
  have hbw := hbz.trans (hb4.mono hbz.size)
  have hsz4 := hbw.size
  clear hxz hyz hzz Htz hb4 hbz
  have Hm := Lib.hid (mix3_bytes hxl hyl hzl Hx.out Hy.out Hz.out)
  have hsum := sum_mix hxl hyl hzl
  obtain ⟨ra, hra, hra2⟩ : ∃ r, r = sumOf xs' ∧ r < 4294967296 := ⟨_, rfl, sum_lt Hx.out⟩
  obtain ⟨rb, hrb, hrb2⟩ : ∃ r, r = sumOf ys' ∧ r < 4294967296 := ⟨_, rfl, sum_lt Hy.out⟩
  obtain ⟨rc, hrc, hrc2⟩ : ∃ r, r = sumOf zs' ∧ r < 4294967296 := ⟨_, rfl, sum_lt Hz.out⟩
  obtain ⟨rm, hrm, hrm2⟩ : ∃ r, r = sumOf (mix3 xs' ys' zs') ∧ r < 4294967296 := ⟨_, rfl, sum_lt Hm.out⟩
  obtain ⟨rd, hrd, hrd2⟩ : ∃ r, r = ra ^^^ rb ∧ r < 4294967296 := ⟨_, rfl, Nat.xor_lt_two_pow (n := 32) hra2 hrb2⟩
  have hxa : bits .xor .u32 (ra : Int) (rb : Int) = (rd : Int) := by rw [u32_xor_nat _ _ hra2 hrb2, hrd]
  have hxc : bits .xor .u32 (rd : Int) (rc : Int) = (rm : Int) := by rw [u32_xor_nat _ _ hrd2 hrc2, hrd, hrm, hsum, hra, hrb, hrc]
  have Hra := Lib.hid hra; have Hrb := Lib.hid hrb; have Hrc := Lib.hid hrc; have Hrm := Lib.hid hrm
  clear hra hrb hrc hrm hrd hsum hxl hyl hzl
  go_wp2_with fail
  refine (sum_one_is rm A4 N c4 (mix3 xs' ys' zs') w4 _ Ht4.out hs4 Hm.out (by omega) Hrm.out).mono ?_
  rintro r w5 ⟨rfl, hb5⟩
  go_wp2_with fail
  refine (sum_one_is ra A N c xs' w5 _ (Ht4.out.below hb5) (hx4.below hb5) Hx.out (by omega) Hra.out).mono ?_
  rintro r w6 ⟨rfl, hn6⟩
  have hb6 := hb5.trans (hn6.mono hb5.size)
  clear hn6
  go_wp2_with fail
  refine (sum_one_is rb B N d ys' w6 _ (Ht4.out.below hb6) (hy4.below hb6) Hy.out (by omega) Hrb.out).mono ?_
  rintro r w7 ⟨rfl, hn7⟩
  have hb7 := hb6.trans (hn7.mono hb6.size)
  clear hn7
  go_wp2_with fail
  refine (sum_one_is rc C N e zs' w7 _ (Ht4.out.below hb7) (hz4.below hb7) Hz.out (by omega) Hrc.out).mono ?_
  rintro r w8 ⟨rfl, hn8⟩
  have hb8 := hb7.trans (hn8.mono hb7.size)
  clear hn8
  go_wp2_with fail
  go_ret
  exact ⟨rfl, hbw.trans (hb8.mono hsz4)⟩
end Go.Proofs.YteefjmbgibbboaaDoor
