/-
  The library's slices.Chunk, gathered by slices.Collect.
-/
import Derived.Test.YtoghgliijjfppabLb
namespace Go.Proofs.Ytoghgliijjfppab
open Go.RowKit Go.Shelf
namespace Lb
open Il Sl Fo Cm Cs Pc
attribute [local go_sem] Oper.semAt_some

/-- A slice, as its cell holds it. -/
abbrev Sv := Option Addr × Nat × Nat
def Sv.v (x : Sv) : Value := .slice x.1 x.2.1 x.2.2
abbrev encC (x : Sv) : Array Value := #[.slice x.1 x.2.1 x.2.2]
def chunkAt (b off n j : Nat) : Sv := (some ⟨b, off + 3 * j, none⟩, min 3 (n - 3 * j), min 3 (n - 3 * j))
def chunks (b off n k : Nat) : List Sv := (List.range k).map (chunkAt b off n)
theorem chunks_len (b off n k : Nat) : (chunks b off n k).length = k := by simp [chunks]
theorem chunks_succ (b off n k : Nat) : chunks b off n (k + 1) = chunks b off n k ++ [chunkAt b off n k] := by simp [chunks, List.range_succ]
def cntC (n : Nat) : Nat := (n + 2) / 3

theorem grown_drew (w : World) : w.grownBy w.drew none := ⟨rfl, rfl, rfl, Nat.le_refl _, fun _ _ _ => rfl⟩
set_option maxRecDepth 100000 in
set_option maxHeartbeats 2000000 in
theorem chunk1 (m : Nat) (hm : 1 ≤ m) (B1 B2 b off n c : Nat) (w : World) (hB1 : B1 < w.heap.size) (hB2 : B2 < w.heap.size) (h1 : w.cell? ⟨B1, 0, none⟩ = some (.slice (some ⟨b, off, none⟩) n c)) (h2 : w.cell? ⟨B2, 0, none⟩ = some (.int .i64 3)) (hn : n ≤ 1000) (hnc : n ≤ c) (hc : c ≤ maxLen) :
    SeqStopsK Fence.wide m Try.prog 54 #[.pointer (some ⟨B1, 0, none⟩), .pointer (some ⟨B2, 0, none⟩)] encC (Below w.heap.size) (fun ss => ss = chunks b off n (cntC n)) (fun _ => True) 1000 w := fun l J Jx W hW hJ _ hY h0 => by
  have h1' := (hW.cell (p := ⟨B1, 0, none⟩) hB1).trans h1
  have h2' := (hW.cell (p := ⟨B2, 0, none⟩) hB2).trans h2
  have HB0 := Lib.hid hW
  clear h1 h2 hW
  unfold maxLen at hc
  refine callsIn_of_wp Try.func54 rfl trivial ?_ rfl
  simp only [Try.ntmps54, List.size_toArray, List.length_cons, List.length_nil, Nat.reduceAdd, Nat.reduceSub, Array.replicate_succ, Array.replicate_zero, List.push_toArray, List.append_toArray, List.nil_append, List.cons_append]
  gi_wp2
  gi_loopw [4] (fun i wr => ∃ j : Nat, i = .int .i64 ((3 * j : Nat) : Int) ∧ 3 * j < n + 3 ∧ Hid (J (chunks b off n j) wr ∧ wr.cell? ⟨B1, 0, none⟩ = some (.slice (some ⟨b, off, none⟩) n c) ∧ wr.cell? ⟨B2, 0, none⟩ = some (.int .i64 3)))
    (fun i _ => n + 3 - (intOf i).toNat)
  case atStart => exact ⟨0, rfl, by omega, h0, h1', h2'⟩
  case round =>
    obtain ⟨j, rfl, hjn, hR⟩ := hrel
    clear h1' h2' HB0
    obtain ⟨hJ0, h1', h2'⟩ := hR.out
    by_cases hlt : 3 * j < n
    · have hlen : (chunks b off n j).length < 1000 := by rw [chunks_len]; omega
      have HCS := Lib.hid (chunks_succ b off n j)
      have HCA : Hid (chunkAt b off n j = (some ⟨b, off + 3 * j, none⟩, min 3 (n - 3 * j), min 3 (n - 3 * j))) := rfl
      generalize chunks b off n j = pre at *
      generalize hi : 3 * j = i at *
      have HI := Lib.hid hi
      clear hi
      have hi3 : i ≤ 9223372036854775807 := by omega
      gi_wp2
      gi_region
      have hJd := hJ pre wr wr.drew none hJ0 (grown_drew wr) (fun r e => by cases e)
      have h1d : wr.drew.cell? ⟨B1, 0, none⟩ = some (.slice (some ⟨b, off, none⟩) n c) := h1'
      have h2d : wr.drew.cell? ⟨B2, 0, none⟩ = some (.int .i64 3) := h2'
      have hmn : min 3 (((n - i : Nat)) : Int) = ((min 3 (n - i) : Nat) : Int) := by omega
      rw [hmn]
      have he1 : min 3 (n - i) ≤ 3 := by omega
      have he3 : 1 ≤ min 3 (n - i) := by omega
      have he2 : i + min 3 (n - i) ≤ n := by omega
      have HE3 : Hid (i + 3 < n + 3) := by show _ < _; omega
      clear h1' h2' hR hJ0 hmn
      generalize wr.drew = w1 at *
      generalize min 3 (n - i) = e at *
      have hw1 : IntKind.i64.wrap ((i : Int) + (e : Int)) = (i : Int) + (e : Int) := IntWalk.i64_in _ (by omega)
      have hw2 : IntKind.i64.wrap ((i : Int) + 3) = (i : Int) + 3 := IntWalk.i64_in _ (by omega)
      obtain ⟨fn, tmps, assign, body, hy, hRr⟩ := hY pre (chunkAt b off n j) w1 hJd hlen
      simp only [encC, HCA.out] at hy hRr
      have he0 : ¬ e = 0 := by omega
      have hci : ¬ c = i := by omega
      have hce : ¬ c - i = 0 := by omega
      gi_wp2
      refine hRr.mono ?_
      rintro e' W3 (⟨rfl, hJ3, hk3⟩ | ⟨rfl, hJx3⟩)
      · have HN : Hid (J (chunks b off n (j + 1)) W3 ∧ W3.cell? ⟨B1, 0, none⟩ = some (.slice (some ⟨b, off, none⟩) n c) ∧ W3.cell? ⟨B2, 0, none⟩ = some (.int .i64 3)) := by
          refine ⟨?_, (hk3.cell (p := ⟨B1, 0, none⟩) hB1).trans h1d, (hk3.cell (p := ⟨B2, 0, none⟩) hB2).trans h2d⟩
          rw [HCS.out, HCA.out]
          exact hJ3
        have z1 := (hk3.cell (p := ⟨B1, 0, none⟩) hB1).trans h1d
        have z2 := (hk3.cell (p := ⟨B2, 0, none⟩) hB2).trans h2d
        clear hk3 hJ3 h1d h2d hJd
        gi_wp2
        go_roundw
        case rel => exact ⟨j + 1, congrArg (Value.int .i64) (by have := HI.out; omega), by have := HI.out; have := HE3.out; omega, HN.out⟩
        case measure => simp only [intOf]; simp; omega
      · gi_wp2
        refine bodyPost_ret (results_none rfl _ _ _) rfl ?_
        exact ⟨⟨_, rfl⟩, .inr ⟨_, trivial, hJx3⟩⟩
    · have hlt' : ¬ (3 * (j : Int)) < (n : Int) := by omega
      have HJ : Hid (J (chunks b off n (cntC n)) wr) := by
        have e : cntC n = j := by unfold cntC; omega
        rw [e]
        exact hJ0
      clear hJ0 hR hlt
      gi_wp2
      go_end0
      exact ⟨⟨_, rfl⟩, .inl HJ.out⟩

/-- The iterator over the chunks of a slice: its variables are boxed. -/
def ChunkP (b off n c : Nat) (w : World) (e : Ending) (w' : World) : Prop :=
  ∃ B1 B2, e = .returned (.func (.func 54) #[] #[.pointer (some ⟨B1, 0, none⟩), .pointer (some ⟨B2, 0, none⟩)]) ∧ w'.cell? ⟨B1, 0, none⟩ = some (.slice (some ⟨b, off, none⟩) n c) ∧ w'.cell? ⟨B2, 0, none⟩ = some (.int .i64 3) ∧
    B1 < w'.heap.size ∧ B2 < w'.heap.size ∧ Below w.heap.size w w'
theorem chunk (b off n c : Nat) (w : World) : Calls Try.prog 36 #[.slice (some ⟨b, off, none⟩) n c, .int .i64 3] w (ChunkP b off n c w) := by
  obtain ⟨q1, q2, q3, q4⟩ := Ck.two_blocks w #[.slice (some ⟨b, off, none⟩) n c] #[.int .i64 3] 22 3
  have HP : Hid (ChunkP b off n c w (.returned (.func (.func 54) #[] #[.pointer (some ⟨w.heap.size, 0, none⟩), .pointer (some ⟨w.heap.size + 1, 0, none⟩)])) ((w.alloc (.cells #[.slice (some ⟨b, off, none⟩) n c] 22)).alloc (.cells #[.int .i64 3] 3))) :=
    ⟨_, _, rfl, by rw [cell_of_row _ _ _ _ _ _ q1]; rfl, by rw [cell_of_row _ _ _ _ _ _ q2]; rfl, by omega, by omega, q4⟩
  clear q1 q2 q3 q4
  go_enter Try.func36, Try.ntmps36
  go_wp2
  go_ret
  exact HP.out

theorem infoSI : (Try.prog.info? 22).map (fun i => (i.zero, i.size, i.bytes)) = some (some (.slice none 0 0), 1, 24) := by kernel_rfl
theorem infoSI_parts : ∃ i0, Try.prog.info? 22 = some i0 ∧ i0.zero = some (.slice none 0 0) ∧ i0.size = 1 ∧ i0.bytes = 24 := by
  have hi := infoSI
  cases hq : Try.prog.info? 22 with
  | none => rw [hq] at hi; simp at hi
  | some i0 =>
    rw [hq] at hi
    simp only [Option.map_some, Option.some.injEq, Prod.mk.injEq] at hi
    exact ⟨i0, rfl, hi.1, hi.2.1, hi.2.2⟩
/-- What the loop of AppendSeq has gathered. -/
def AInv (w : World) (pre : List Sv) (W : World) : Prop :=
  (∃ v, Boxed W w.heap.size 23 v ∧ W.ownsRow w.heap.size 22 1 v pre.length (pre.map Sv.v) ∧ True) ∧ Below w.heap.size w W
theorem ainv_own (w : World) (B : Nat) (hB : w.heap.size ≤ B) : OwnFrom B (AInv w) :=
  OwnFrom.and (Own.from (holdsRow_own w.heap.size w.heap.size 23 22 1 (fun pre : List Sv => pre.length) (fun pre => pre.map Sv.v) (fun _ _ => True)) B) (ownFrom_below (Nat.le_refl _) hB)
/-- The chunks in a new slice. -/
def CollP (b off n : Nat) (w : World) (e : Ending) (w' : World) : Prop :=
  ∃ v, e = .returned v ∧ w'.ownsRow w.heap.size 22 1 v (cntC n) ((chunks b off n (cntC n)).map Sv.v) ∧ Below w.heap.size w w'
set_option maxRecDepth 100000 in
set_option maxHeartbeats 4000000 in
theorem appendSeq (B1 B2 b off n c : Nat) (w : World) (hB1 : B1 < w.heap.size) (hB2 : B2 < w.heap.size) (hc1 : w.cell? ⟨B1, 0, none⟩ = some (.slice (some ⟨b, off, none⟩) n c)) (hc2 : w.cell? ⟨B2, 0, none⟩ = some (.int .i64 3)) (hn : n ≤ 1000) (hnc : n ≤ c) (hc : c ≤ maxLen) :
    Calls Try.prog 53 #[.slice none 0 0, .func (.func 54) #[] #[.pointer (some ⟨B1, 0, none⟩), .pointer (some ⟨B2, 0, none⟩)]] w (CollP b off n w) := by
  refine (callsIn_wide (n := 5)).1 ?_
  refine callsIn_of_wp_marks Try.func53 rfl trivial ?_ rfl
  simp only [Try.ntmps53, List.size_toArray, List.length_cons, List.length_nil, Nat.reduceAdd, Nat.reduceSub, Array.replicate_succ, Array.replicate_zero, List.push_toArray, List.append_toArray, List.nil_append, List.cons_append]
  gi_wp2
  have hB0 : Below w.heap.size w (w.alloc (.cells #[.slice none 0 0] 23)) := (Below.refl _ w).alloc (Nat.le_refl _) _
  have b0 := Boxed.new w 23 (.slice none 0 0)
  have hs1 : (w.alloc (.cells #[.slice none 0 0] 23)).heap.size = w.heap.size + 1 := by simp
  generalize w.alloc (.cells #[.slice none 0 0] 23) = W0 at hB0 b0 hs1 ⊢
  obtain ⟨i0, hi, hz0, hz1, hz2⟩ := infoSI_parts
  refine wpIn_rangeFunc_ownG rfl (by omega) (gf := 54) (lb := #[.pointer (some ⟨B1, 0, none⟩), .pointer (some ⟨B2, 0, none⟩)]) rfl trivial (enters_of Try.func54 (by kernel_rfl) rfl)
    (chunk1 4 (by omega) B1 B2 b off n c w hB1 hB2 hc1 hc2 hn hnc hc) belowK_t (belowK_b (by omega)) hB0 (fun _ => rfl)
    (AInv w) (fun _ _ _ => False) (ainv_own w _ (by omega)) (fun _ _ _ _ _ hs _ _ => hs)
    ⟨⟨_, b0, ⟨rfl, .inl ⟨rfl, rfl⟩⟩, trivial⟩, hB0⟩
    ?a1 ?assign ?body ?done ?stop
  case assign =>
    intro l x W K hK
    gi_wp2
    exact hK
  case body =>
    rintro l pre x W ⟨⟨v, hb, hr, _⟩, hB⟩ hlen
    obtain ⟨x1, x2, x3⟩ := x
    have hcb := hb.cell
    have hBs := hB.size
    gi_wp2_with (gi_at_builtin; refine wpListIn_append_own _ rfl _ _ 23 rfl w.heap.size 22 i0 (.slice none 0 0) 1 24 Try.underlying23 hi hz0 hz1 hz2 rfl (by decide) v pre.length (pre.map Sv.v) rfl (hr.alloc _) ⟨W.heap.size, 0, none⟩ 1 1 [.slice x1 x2 x3] rfl rfl ?_ ?_ (by unfold maxLen; omega) (by omega) (by simp; omega) ?_)
    · intro q u hq
      have hq1 := (List.getElem?_eq_some_iff.1 hq).1
      obtain rfl : q = 0 := by simp at hq1; exact hq1
      simp only [List.getElem?_cons_zero, Option.some.injEq] at hq
      subst hq
      rw [Addr.add_mid, cell_of_row _ _ _ _ _ _ (heap_alloc_new W _)]
      rfl
    · intro u hu
      simp only [List.mem_cons, List.not_mem_nil, or_false] at hu
      subst hu
      rfl
    intro v' w' ho hg _
    obtain ⟨g', cap', rfl⟩ := ownsRow_succ ho
    obtain ⟨h1, h2, h3, h4, h5⟩ := hb.appended (t := 23) (e := 22) (by decide) hr hBs (Nat.le_refl _) ho hg
    have hcb1 := h1.cell
    have hfb1 := h1.frozen
    clear hg
    gi_wp2
    exact ⟨h4.from _, h5, ⟨_, h2, by rw [List.length_append, List.length_singleton, List.map_append]; exact h3, trivial⟩, hB.trans h5⟩
  case done =>
    rintro D ss W hD hS ⟨⟨v, hb, hr, _⟩, hB⟩ hK
    have hcb := hb.cell
    gi_wp2
    refine ⟨by simp, .inl ⟨_, _, rfl, run_takeDeferred hK, ?_⟩⟩
    subst hS
    rw [chunks_len] at hr
    exact ⟨_, results_tmp rfl _ _ _, v, rfl, ownsRow_putObj hr _ hK rfl, hB.trans (belowK_b (w := w) (Nat.le_refl _) W D _ _ (by omega) hK rfl rfl)⟩
  case stop =>
    rintro D c pre W _ _ h _
    exact h.elim

set_option maxRecDepth 20000 in
theorem collect (B1 B2 b off n c : Nat) (w : World) (hB1 : B1 < w.heap.size) (hB2 : B2 < w.heap.size) (hc1 : w.cell? ⟨B1, 0, none⟩ = some (.slice (some ⟨b, off, none⟩) n c)) (hc2 : w.cell? ⟨B2, 0, none⟩ = some (.int .i64 3)) (hn : n ≤ 1000) (hnc : n ≤ c) (hc : c ≤ maxLen) :
    Calls Try.prog 35 #[.func (.func 54) #[] #[.pointer (some ⟨B1, 0, none⟩), .pointer (some ⟨B2, 0, none⟩)]] w (CollP b off n w) := by
  have H := Lib.hid (appendSeq B1 B2 b off n c w hB1 hB2 hc1 hc2 hn hnc hc)
  clear hc1 hc2
  go_enter Try.func35, Try.ntmps35
  go_wp2_with fail
  ((with_reducible refine (H.out).mono ?_); rintro e w1 ⟨v, rfl, hr, hb⟩)
  have HP : Hid (CollP b off n w (.returned v) w1) := ⟨v, rfl, hr, hb⟩
  clear hr hb H
  go_wp2
  go_ret
  exact HP.out

end Lb
end Go.Proofs.Ytoghgliijjfppab
