/- The program's disk: how a piece is made. -/
import Derived.Test.YthdclncgmhgmfaaPD4
import Derived.Great.BuildSlice
namespace Go.Proofs.Ythdclncgmhgmfaa
open Go.RowKit Go.Deep
set_option linter.unusedSimpArgs false
set_option linter.unusedVariables false

theorem foldl_put (off : Nat) : ∀ (cs : List Value) (k : Nat) (A : Array Value), off + k + cs.length ≤ A.size →
    ((cs.zipIdx k).foldl (fun (A : Array Value) (x : Value × Nat) => A.setIfInBounds (off + x.2) x.1) A).toList = A.toList.take (off + k) ++ cs ++ A.toList.drop (off + k + cs.length)
  | [], k, A, _ => by simp
  | v :: r, k, A, h => by
    have hl : off + k + (r.length + 1) ≤ A.size := h
    rw [List.zipIdx_cons, List.foldl_cons, foldl_put off r (k + 1) _ (by rw [Array.size_setIfInBounds]; omega)]
    have e : (A.setIfInBounds (off + k) v).toList = A.toList.set (off + k) v := by simp
    show List.take (off + (k + 1)) (A.setIfInBounds (off + k) v).toList ++ r ++ _ = _
    rw [e]
    exact set_parts A.toList r (off + k) v (by rw [Array.length_toList]; omega)
theorem fill_part {place : Nat → Option (Nat × Nat)} {A : Array Value} {i off size : Nat} {v : Value} {cs : List Value} {rest : List (Nat × Value)} (hp : place i = some (off, size)) (hv : v.cells = cs.toArray) (hs : cs.length = size) (hA : off + size ≤ A.size) :
    Instr.fill place A ((i, v) :: rest) = Instr.fill place (A.toList.take off ++ cs ++ A.toList.drop (off + size)).toArray rest := by
  unfold Instr.fill
  simp only [hp, hv]
  have h1 : cs.toArray.size = size := by simp [hs]
  have h2 : ¬ (cs.toArray.size ≠ size) := by omega
  rw [if_neg (by simp [h1]; omega)]
  have e : (cs.toArray.zipIdx.foldl (fun (A : Array Value) (x : Value × Nat) => A.setIfInBounds (off + x.2) x.1) A) = (A.toList.take off ++ cs ++ A.toList.drop (off + size)).toArray := by
    apply Array.toList_inj.1
    have := foldl_put off cs 0 A (by omega)
    rw [Nat.add_zero, hs] at this
    rw [← this]
    rw [← Array.foldl_toList]
    simp
  rw [show (cs.toArray.zipIdx.foldl (fun A x => match x with | (c, j) => A.setIfInBounds (off + j) c) A) = _ from e]
  cases rest with
  | nil => rfl
  | cons q r => rfl

/-- The zero of a piece. -/
def zeroPiece : Array Value := (.int .i64 0 :: u8s zeros128).toArray
theorem zeroPiece_size : zeroPiece.size = 129 := by kernel_rfl
theorem info_pc : (Try.prog.info? 87).map (fun i => (i.zero, i.size, i.bytes)) = some (some (.agg zeroPiece), 129, 136) := by kernel_rfl
theorem zeroPiece_ne : ¬ zeroPiece = #[] := by intro h; have := zeroPiece_size; rw [h] at this; simp at this
theorem zeroPiece_val (w : World) : (zeroValue 87).run Try.prog w = .ok (.agg zeroPiece) w := by kernel_rfl
theorem zeroPiece_one : zeroPiece.all (·.oneCell') = true := by kernel_rfl
theorem size_pc : (Try.prog.info? 87).map (·.size) = some 129 := by kernel_rfl
theorem built_pc (L : List (Nat × Value)) : Try.prog.built 87 L = Instr.fill ((#[(0, 1), (1, 128)] : Array (Nat × Nat))[·]?) zeroPiece L := by kernel_rfl

theorem piece_built (n : Int) (bs : List Int) (h : bs.length = 128) : Try.prog.built 87 [(0, .int .i64 n), (1, .agg (u8s bs).toArray)] = some (pieceCells (n, bs)).toArray := by
  rw [built_pc, fill_part (off := 0) (size := 1) (cs := [.int .i64 n]) rfl rfl rfl (by rw [zeroPiece_size]; omega), fill_part (off := 1) (size := 128) (cs := u8s bs) rfl rfl (by simp [h]) (by simp [zeroPiece, zeros128])]
  unfold Instr.fill
  simp [zeroPiece, pieceCells, zeros128]
theorem piece_run (w : World) (n : Int) (bs : List Int) (h : bs.length = 128) : (Instr.build 87 #[(0, .int .i64 n), (1, .agg (u8s bs).toArray)]).run Try.prog w = .ok (.agg (pieceCells (n, bs)).toArray) w :=
  run_build w _ _ _ (piece_built n bs h)
/-- One piece as a new slice. -/
theorem piece_slice (p : Int × List Int) (h : p.2.length = 128) (ie : TypeInfo) (z : Value) (hs : ie.size = 129) (hz : z.cells.size = 129) :
    Instr.fill (fun i => some (i * ie.size, ie.size)) ((Array.range (1 * ie.size)).map (z.cells[· % z.cells.size]!)) [(0, .agg (pieceCells p).toArray)] = some (pieceCells p).toArray := by
  rw [fill_part (off := 0) (size := 129) (cs := pieceCells p) (by rw [hs]) rfl (pieceCells_len h) (by simp [hs])]
  unfold Instr.fill
  simp [hs]

theorem count_at {K i : Nat} {f g : Nat → Bool} (hi : i < K) (h : ∀ j, j < K → j ≠ i → f j = g j) : (List.range K).countP f + (if g i then 1 else 0) = (List.range K).countP g + (if f i then 1 else 0) := by
  induction K with
  | zero => omega
  | succ K ih =>
    rw [List.range_succ, List.countP_append, List.countP_append]
    simp only [List.countP_cons, List.countP_nil, Nat.zero_add]
    by_cases hK : i = K
    · subst hK
      have e : (List.range i).countP f = (List.range i).countP g := List.countP_congr (fun j hj => by
        have := List.mem_range.1 hj
        rw [h j (by omega) (by omega)])
      rw [e]; omega
    · have := ih (by omega) (fun j hj => h j (by omega))
      rw [h K (by omega) (fun e => hK e.symm)]; omega
theorem used_at {S T : DS} {i : Nat} (hl : T.kept.length = S.kept.length) (hi : i < S.kept.length) (h : ∀ j : Nat, j < S.kept.length → j ≠ i → T.isUse (j : Int) = S.isUse (j : Int)) :
    T.used + (if S.isUse (i : Int) then 1 else 0) = S.used + (if T.isUse (i : Int) then 1 else 0) := by
  unfold DS.used usedTo
  rw [hl]
  exact count_at (f := fun (j : Nat) => T.isUse (j : Int)) (g := fun (j : Nat) => S.isUse (j : Int)) hi h
theorem put_used (S : DS) (n : Nat) (bs : List Int) (hn : n < S.kept.length) : (S.put n bs).used = if S.isUse (n : Int) then S.used else S.used + 1 := by
  have h1 : (S.put n bs).isUse (n : Int) = true := by
    unfold DS.isUse DS.waitsFor DS.put
    simp
  have := used_at (S := S) (T := S.put n bs) rfl hn (fun j _ hj => by
    unfold DS.isUse DS.waitsFor DS.put
    have : ((n : Int) == (j : Int)) = false := by simpa using (show ¬ (n : Int) = (j : Int) by omega)
    simp [this])
  rw [h1] at this
  cases e : S.isUse (n : Int)
  · rw [e] at this; simpa using this
  · rw [e] at this; simpa using this

theorem PRow.ownF {F : Nat → Prop} {w : World} {v : Value} {ps : List (Int × List Int)} (h : PRow F w v ps) {k : Nat} (hk : v.ownBlock = some k) : F k ∧ ∃ vs, Blk w k 87 vs := by
  rcases h with ⟨rfl, _⟩ | ⟨g, cap, sp, rfl, h2, _, _, h5, _⟩
  · cases hk
  · cases hk; exact ⟨h2, _, h5⟩

/-- Behind Write's append and its two stores: the disk with the piece that waits. -/
theorem pput_end {F : Nat → Prop} {w1 wA w3 : World} {b : Nat} {S : DS} {sb mb : Nat} {vs : List Value} {vw v2 : Value} {c : Int} {L : List Int} {n : Nat} {bs : List Int} {left : Int} {o : Obj} (hwf : DWf S) (hn : n < S.kept.length) (hbs : Byte128 bs)
    (h : PDAt F w1 b S 0 S.waits sb mb vs vw c L) (hfin : ∀ k, F k → k < w1.heap.size)
    (hleft : left = S.room - ((S.put n bs).used : Int)) (huse : ((S.put n bs).used : Int) ≤ S.room)
    (hA : Blk wA b 63 [.slice (some ⟨sb, 0, none⟩) S.kept.length S.kept.length, vw, .int .i64 left, .int .i64 c, .bool S.off, .pointer (some ⟨mb, 0, none⟩)])
    (hO : Only F w1 wA) (hsA : ∀ k, k < w1.heap.size → k ≠ b → wA.heap[k]? = w1.heap[k]?)
    (hg : (wA.alloc o).grownBy w3 vw.ownBlock) (hown : w3.ownsRow 0 87 129 v2 (S.waits.length + 1) (flatP S.waits ++ pieceCells ((n : Int), bs))) (hat : ∀ k, v2.ownBlock = some k → (vw.ownBlock = some k ∨ w1.heap.size ≤ k)) :
    Only F w1 w3 ∧ Blk w3 b 63 [.slice (some ⟨sb, 0, none⟩) S.kept.length S.kept.length, vw, .int .i64 left, .int .i64 c, .bool S.off, .pointer (some ⟨mb, 0, none⟩)] ∧ Blk w3 sb 70 vs ∧
    PDAt (More F w1 w3) ((w3.setCell ⟨b, 1, none⟩ v2).setCell ⟨sb, n * 130 + 129, none⟩ (.int .i64 ((S.waits.length : Int) + 1))) b (S.put n bs) 0 (S.put n bs).waits sb mb (vs.set (n * 130 + 129) (.int .i64 ((S.waits.length : Int) + 1))) v2 c L := by
  have hgo : ∀ k, k < w1.heap.size → k ≠ b → some k ≠ vw.ownBlock → w3.heap[k]? = w1.heap[k]? := by
    intro k hk hne hno
    have hkA : k < wA.heap.size := Nat.lt_of_lt_of_le hk hO.size
    rw [hg.block k (by rw [nblk_alloc]; omega) hno, blk_alloc_lt _ _ _ hkA]
    exact hsA k hk hne
  have hwn : ∀ {k : Nat} {t : TypeId} {ws : List Value}, Blk w1 k t ws → t ≠ 87 → some k ≠ vw.ownBlock := by
    intro k t ws hb ht e
    obtain ⟨_, vs', hv⟩ := h.wait.ownF e.symm
    exact hb.ne hv ht rfl
  have hb3 := hA.kept (w' := w3) (by
    rw [hg.block b (by rw [nblk_alloc]; have := hA.lt; omega) (hwn h.head (by decide)), blk_alloc_lt _ _ _ hA.lt])
  have hsb : sb ≠ b := h.sect.ne h.head (by decide)
  obtain ⟨vm, hvm⟩ := h.met.blk
  have hmb : mb ≠ b := hvm.ne h.head (by decide)
  have hms : mb ≠ sb := hvm.ne h.sect (by decide)
  have hs3 := h.sect.kept (w' := w3) (hgo sb h.sect.lt hsb (hwn h.sect (by decide)))
  have hsz : w1.heap.size ≤ w3.heap.size := by have := hg.size; rw [nblk_alloc] at this; have := hO.size; omega
  have hO3 : Only F w1 w3 := ⟨hg.os.trans hO.os, hg.tape.trans hO.tape, hg.output.trans hO.output, hsz, fun k hk hF => by
    by_cases hkb : k = b
    · exact absurd (hkb ▸ h.fb) hF
    · refine hgo k hk hkb (fun e => hF (h.wait.ownF e.symm).1)⟩
  refine ⟨hO3, hb3, hs3, ?_⟩
  have hlen := h.secs.len
  have hlt : n * 130 + 129 < vs.length := by rw [hlen]; omega
  have hm3 : PMet w3 mb L := h.met.kept (hgo mb h.met.lt hmb (hwn hvm (by decide)))
  refine ⟨Or.inl h.fb, Or.inl h.fs, Or.inl h.fm, ?_, ?_, ?_, ?_, rfl, huse, h.cut0, h.cut1, h.cut, ?_, h.ops⟩
  · have h1 := (hb3.set 1 v2).setOther (a := ⟨sb, n * 130 + 129, none⟩) (fun e => hsb e.symm) (.int .i64 ((S.waits.length : Int) + 1))
    rw [hleft] at h1; exact h1
  · exact (hs3.setOther (a := ⟨b, 1, none⟩) hsb v2).set (n * 130 + 129) (.int .i64 ((S.waits.length : Int) + 1))
  · refine ⟨by rw [List.length_set]; exact hlen, ?_, ?_, ?_⟩
    · intro i r hi j u hj
      have hr := (hwf.rows r (List.mem_of_getElem? hi)).1
      have hj1 := (List.getElem?_eq_some_iff.1 hj).1
      rw [set_at _ _ _ _ hlt, if_neg (by omega)]
      exact h.secs.kept i r hi j u hj
    · intro i u hi
      rw [set_at _ _ _ _ hlt, if_neg (by omega)]
      exact h.secs.used i u hi
    · intro i hi
      rw [set_at _ _ _ _ hlt]
      show _ = some (Value.int .i64 ((lastOf (S.waits ++ [((n : Int), bs)]) 0 i : Nat) : Int))
      rw [lastOf_snoc]
      by_cases e : i = n
      · subst e
        rw [if_pos rfl, if_pos rfl, Nat.zero_add]; rfl
      · rw [if_neg (by omega), if_neg (by show ¬ (n : Int) = (i : Int); omega)]
        exact h.secs.last i hi
  · have h1 : PRow (More F w1 w3) w3 v2 (S.put n bs).waits := by
      refine PRow.of_own (n := S.waits.length + 1) (by show w3.ownsRow 0 _ 129 v2 _ (flatP (S.waits ++ [((n : Int), bs)])); rw [flatP_snoc]; exact hown) ?_ ?_
      · intro p hp
        rcases List.mem_append.1 hp with hp | hp
        · exact (hwf.wts p hp).2.2.1
        · simp at hp; subst hp; exact hbs.1
      · intro k hk
        rcases hat k hk with h1 | h1
        · exact Or.inl (h.wait.ownF h1).1
        · exact Or.inr ⟨h1, (hown.lt k hk).2⟩
    refine h1.kept (fun g _ hv => ?_)
    obtain ⟨vs', hv⟩ := hv
    rw [blk_setCell_other _ _ _ _ (show g ≠ sb from fun e => (hv.ne hs3 (by decide)) e), blk_setCell_other _ _ _ _ (show g ≠ b from fun e => (hv.ne hb3 (by decide)) e)]
  · refine hm3.kept ?_
    rw [blk_setCell_other _ _ _ _ (show mb ≠ sb from hms), blk_setCell_other _ _ _ _ (show mb ≠ b from hmb)]
attribute [simp] zeroPiece_val zeroPiece_ne
attribute [irreducible] zeroPiece
end Go.Proofs.Ythdclncgmhgmfaa
