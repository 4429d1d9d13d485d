/- Package row's Right and each: what is handed on to a function that was handed in. -/
import Derived.Test.YtcfpjbbahpjhdaaRowMath
import Derived.Test.YtcfpjbbahpjhdaaRRow2
import Derived.Test.YtcfpjbbahpjhdaaInts
import Derived.Test.YtcfpjbbahpjhdaaSame
namespace Go.Proofs.Ytcfpjbbahpjhdaa
open Go.RowKit

theorem ent_of {f : FuncId} {fn : Func} {c : Code} (hf : Try.prog.funcs[f]? = some fn) (hname : (fn.name == "runtime.NumGoroutine") = false) (hb : fn.body = some c) (args : Array Value) (w : World) :
    (callFunc f args).run Try.prog w = .ok (.enter f args) w := by
  have h1 : fn.name ≠ "runtime.NumGoroutine" := by simpa using hname
  simp [callFunc, hf, h1, hb]

set_option maxHeartbeats 1600000 in
theorem rowright_any (A : Option Addr) (n c : Nat) (ts : List Int) (w : World) (hx : Sl w A n (i64s ts)) (hn : n ≤ 9223372036854775807) :
    Calls Try.prog 8 #[.slice A n c] w fun e w' => e = .returned (.bool (rightOf ts)) ∧ w' = w := by
  have hlen : ts.length = n := by simpa using hx.1
  have Hlen := Lib.hid hlen
  clear hlen
  by_cases h0 : n < 1
  · have hf := Lib.hid (show rightOf ts = false by unfold rightOf; rw [Hlen.out, decide_eq_false (show ¬ 0 < n by omega)]; simp)
    have h0' : decide ((n : Int) < 1) = true := decide_eq_true (by omega)
    go_enter Try.func8, Try.ntmps8
    go_wp2
    go_ret
    exact ⟨ret_bool hf.out.symm, rfl⟩
  · have h0' : decide ((n : Int) < 1) = false := decide_eq_false (by omega)
    by_cases h9 : 8 < n
    · have hf := Lib.hid (show rightOf ts = false by unfold rightOf; rw [Hlen.out, decide_eq_false (show ¬ n < 9 by omega)]; simp)
      have h9' : decide (8 < (n : Int)) = true := decide_eq_true (by omega)
      go_enter Try.func8, Try.ntmps8
      go_wp2
      go_ret
      exact ⟨ret_bool hf.out.symm, rfl⟩
    · have h9' : decide (8 < (n : Int)) = false := decide_eq_false (by omega)
      go_enter Try.func8, Try.ntmps8
      go_wp2
      go_loop [15] (fun i => ∃ k : Nat, k ≤ n ∧ i = .int .i64 k ∧ ∀ x ∈ ts.take k, x = 1 ∨ x = 2) (fun i => n - (intOf i).toNat)
      case atStart => exact ⟨0, by omega, rfl, by simp⟩
      case round =>
        obtain ⟨k, hk, rfl, hall⟩ := hrel
        have Hall := Lib.hid hall
        clear hall
        by_cases hlt : k < n
        · obtain ⟨ad, x, rfl, hc, hu⟩ := hx.num hlt
          have Hu := Lib.hid hu
          clear hu
          by_cases h1 : x = 1
          · have hnext := Lib.hid (show ∀ y ∈ ts.take (k + 1), y = 1 ∨ y = 2 by
              rw [take_snoc _ _ _ Hu.out]; intro y hy; rcases List.mem_append.1 hy with h | h
              · exact Hall.out y h
              · simp at h; exact .inl (h.trans h1))
            have hx1 : (x != 1) = false := by simpa using h1
            clear h1
            go_wp2
            go_round
            case rel => exact ⟨k + 1, by omega, by go_num, hnext.out⟩
            case measure => simp [intOf]; omega
          · have hx1 : (x != 1) = true := by simpa using h1
            by_cases h2 : x = 2
            · have hnext := Lib.hid (show ∀ y ∈ ts.take (k + 1), y = 1 ∨ y = 2 by
                rw [take_snoc _ _ _ Hu.out]; intro y hy; rcases List.mem_append.1 hy with h | h
                · exact Hall.out y h
                · simp at h; exact .inr (h.trans h2))
              have hx2 : (x != 2) = false := by simpa using h2
              clear h1 h2
              go_wp2
              go_round
              case rel => exact ⟨k + 1, by omega, by go_num, hnext.out⟩
              case measure => simp [intOf]; omega
            · have hx2 : (x != 2) = true := by simpa using h2
              have Hbad := Lib.hid (right_bad (List.mem_of_getElem? Hu.out) h1 h2)
              clear h1 h2
              go_wp2
              go_ret
              exact ⟨ret_bool Hbad.out.symm, rfl⟩
        · have hg := right_good (ts := ts) (by have := Hall.out; rwa [List.take_of_length_le (by rw [Hlen.out]; omega)] at this)
          rw [Hlen.out, decide_eq_true (show 0 < n by omega), decide_eq_true (show n < 9 by omega)] at hg
          have Hg := Lib.hid hg
          clear hg
          go_wp2
          go_ret
          exact ⟨ret_bool (by rw [Hg.out]; rfl), rfl⟩

theorem rowright_is (q : Bool) (A : Option Addr) (n c : Nat) (ts : List Int) (w : World) (hx : Sl w A n (i64s ts)) (hn : n ≤ 9223372036854775807) (hq : q = rightOf ts) :
    Calls Try.prog 8 #[.slice A n c] w fun e w' => e = .returned (.bool q) ∧ w' = w := by
  rw [hq]; exact rowright_any A n c ts w hx hn

theorem each_not (f : Value) (A : Option Addr) (n c : Nat) (ts : List Int) (w : World) (hx : Sl w A n (i64s ts)) (hn : n ≤ 9223372036854775807) (hr : false = rightOf ts) :
    Calls Try.prog 20 #[.slice A n c, f] w fun e w' => e = .returned (.int .i64 2) ∧ w' = w := by
  have Hr := Lib.hid hr
  clear hr
  go_enter Try.func20, Try.ntmps20
  go_wp2_with fail
  refine (rowright_is false A n c ts w hx hn Hr.out).mono ?_
  rintro e w1 ⟨rfl, hw⟩
  obtain rfl := hw.symm
  go_wp2_with fail
  go_ret
  exact ⟨rfl, rfl⟩

set_option maxHeartbeats 1600000 in
theorem each_any (g : Nat) (cap : Array Value) (hent : ∀ (args : Array Value) (w : World), (callFunc g args).run Try.prog w = .ok (.enter g args) w) (A : Option Addr) (n c : Nat) (ts : List Int) (w : World) (hx : Sl w A n (i64s ts)) (hn : n ≤ 1000) (hr : true = rightOf ts)
    (Inv : Nat → World → Prop) (Bad : Int → World → Prop) (h0 : Inv 0 w) (hsl : ∀ k wr, Inv k wr → Sl wr A n (i64s ts))
    (hstep : ∀ (k : Nat) (t : Int) wr, k < n → ts[k]? = some t → Inv k wr → Calls Try.prog g (#[.int .i64 k, .int .i64 t] ++ cap) wr fun e w' => ∃ er, e = .returned (.int .i64 er) ∧ ((er = 0 ∧ Inv (k + 1) w') ∨ (er ≠ 0 ∧ Bad er w'))) :
    Calls Try.prog 20 #[.slice A n c, .func (.func g) #[] cap] w fun e w' => ∃ er, e = .returned (.int .i64 er) ∧ ((er = 0 ∧ Inv n w') ∨ (er ≠ 0 ∧ Bad er w')) := by
  have Hsl := Lib.hid hsl; have Hstep := Lib.hid hstep; have H0 := Lib.hid h0; have Hr := Lib.hid hr
  clear hsl hstep h0 hr
  go_enter Try.func20, Try.ntmps20
  go_wp2_with fail
  refine (rowright_is true A n c ts w hx (by omega) Hr.out).mono ?_
  rintro e w1 ⟨rfl, hw⟩
  obtain rfl := hw.symm
  go_wp2_with fail
  go_loopw [13] (fun i wr => ∃ k : Nat, k ≤ n ∧ i = .int .i64 k ∧ Hid (Inv k wr)) (fun i _ => n - (intOf i).toNat)
  case atStart => exact ⟨0, by omega, rfl, H0⟩
  case round =>
    obtain ⟨k, hk, rfl, hinv⟩ := hrel
    by_cases hlt : k < n
    · obtain ⟨ad, t, rfl, hc, hu⟩ := (Hsl.out k wr hinv.out).num hlt
      have Hs := Lib.hid (Hstep.out k t wr hlt hu hinv.out)
      clear hu
      go_wp2_with fail
      refine Hs.out.mono ?_
      rintro e w2 ⟨er, rfl, hor⟩
      by_cases he : er = 0
      · subst he
        have hnext := Lib.hid (show Inv (k + 1) w2 by
          rcases hor with ⟨_, h⟩ | ⟨h, _⟩
          · exact h
          · exact absurd rfl h)
        clear hor
        go_wp2
        go_roundw
        case rel => exact ⟨k + 1, by omega, by go_num, hnext⟩
        case measure => simp [intOf]; omega
      · have hbad := Lib.hid (show er ≠ 0 ∧ Bad er w2 by
          rcases hor with ⟨h, _⟩ | h
          · exact absurd h he
          · exact h)
        have heb : (er != 0) = true := by simpa using he
        clear hor he
        go_wp2
        go_ret
        exact ⟨er, rfl, .inr hbad.out⟩
    · have hkn : k = n := by omega
      have hend := Lib.hid (show Inv n wr by rw [← hkn]; exact hinv.out)
      clear hkn
      go_wp2
      go_ret
      exact ⟨0, rfl, .inl ⟨rfl, hend.out⟩⟩
end Go.Proofs.Ytcfpjbbahpjhdaa
