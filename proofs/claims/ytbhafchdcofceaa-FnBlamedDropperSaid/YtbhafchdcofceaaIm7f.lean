/-
  Contracts of the program's chapter 12: the keys of a map, gathered.
-/
import Derived.Test.YtbhafchdcofceaaIm7e
import Derived.Test.YtbhafchdcofceaaMr
import Derived.BigQuiet
import Derived.Deep.RegionLaw
import Derived.RangeFuncNested
import Derived.RangeFuncBound
import Derived.RangeFuncCalls
import Derived.RangeFuncLeaves
import Derived.Shelf.Abstract
import Derived.Shelf.RegionOpen
import Derived.WalkKit
import Derived.OwnWalkIn
import Derived.TacticsInMore
import Derived.LoopNIn
import Derived.LoopIn
namespace Go.Proofs.Ytbhafchdcofceaa
open Go.RowKit Go.Shelf
namespace Im7
open Il Sl Lc Sp2 Nm Sp7 Mp
attribute [local go_sem] Oper.semAt_some

/-- The two cells of a link. -/
def c2 (p : Int × Int) : List Value := [.int .i64 p.1, .int .i64 p.2]
theorem c2_len (p : Int × Int) : (c2 p).length = 2 := rfl
theorem c2_one (p : Int × Int) : ∀ u ∈ c2 p, u.oneCell' = true := by
  intro u hu
  simp only [c2, List.mem_cons, List.not_mem_nil, or_false] at hu
  rcases hu with rfl | rfl <;> rfl
abbrev encL (p : Int × Int) : Array Value := #[.agg #[.int .i64 p.1, .int .i64 p.2]]
/-- The keys of G, each once. -/
def KeysOf (G : Int × Int → Option (Int × Int)) (ss : List (Int × Int)) : Prop := ss.Nodup ∧ ∀ a, a ∈ ss ↔ ∃ v, G a = some v

set_option maxRecDepth 100000 in
set_option maxHeartbeats 2000000 in
theorem keys1 (m : Nat) (hm : 1 ≤ m) (Bm b n : Nat) (G : Int × Int → Option (Int × Int)) (w : World) (hBm : Bm < w.heap.size) (hc : w.cell? ⟨Bm, 0, none⟩ = some (.map (some b))) (hM : MapL w b n G) :
    SeqStopsK Fence.wide m Try.prog 56 #[.pointer (some ⟨Bm, 0, none⟩)] encL KeepsWalks (fun ss => KeysOf G ss ∧ ss.length ≤ n) (fun _ => True) n w := fun l J Jx W hW hJ _ hY h0 => by
  have hc' := (hW.cell (p := ⟨Bm, 0, none⟩) hBm).trans hc
  have hM' := hM.below' hW
  clear hc hM hW hBm
  refine callsIn_of_wp Try.func56 rfl trivial ?_ rfl
  simp only [Try.ntmps56, List.size_toArray, List.length_cons, List.length_nil, Nat.reduceAdd, Nat.reduceSub, Array.replicate_succ, Array.replicate_zero, List.push_toArray, List.append_toArray, List.nil_append, List.cons_append]
  gi_wp2_with (first
    | (gi_at_range; refine wpListIn_rangeG _ rfl _ 54 rfl Try.underlying54 b n G rfl hM' ?_; intro w0 left0 hrg0 hg0 hs0)
    | gi_in)
  go_frame
  gi_loopw [3] (fun _ wr => ∃ (left : Nat) (ss : List (Int × Int)), RngG Try.prog 57 mk2 mk2 wr b W.heap.size n G ss left ∧ J ss wr)
    (fun _ wr => wr.rangeLeft b W.heap.size)
  case atStart =>
    exact ⟨_, [], hrg0, hJ [] W w0 none h0 hg0 (fun r e => by cases e)⟩
  case round =>
    obtain ⟨left, ss, hrg, hJs⟩ := hrel
    have HL := Lib.hid hrg.left_eq
    clear hM' hrg0 hg0 hs0
    gi_wp2_with (first
      | (gi_at_next; refine wpListIn_nextG _ rfl _ rfl mk2_inj b W.heap.size n G ss left rfl hrg ?_ ?_)
      | gi_in)
    · intro h0 hall
      have HK : Hid (KeysOf G ss ∧ ss.length ≤ n) := by
        refine ⟨?_, by have := hrg.len; omega⟩
        obtain ⟨es, clock, since, seen, c0, _, _, _, _, _, _, _, _, _, _, _, hnd, _⟩ := hrg
        exact ⟨hnd, fun ⟨a1, a2⟩ => (hall a1 a2).trans ⟨fun ⟨v1, v2, e⟩ => ⟨(v1, v2), e⟩, fun ⟨⟨v1, v2⟩, e⟩ => ⟨v1, v2, e⟩⟩⟩
      clear hall h0
      gi_wp2
      go_end0
      exact ⟨⟨_, rfl⟩, .inl ⟨ss, HK.out, hJs⟩⟩
    · intro x1 x2 v1 v2 w2 left2 hGx hnew hrg2 hlt hg2 hs2 hen0
      have hJ2 : J ss w2 := hJ ss wr w2 (some W.heap.size) hJs hg2 (fun r e => by cases e; exact ⟨Nat.le_refl _, hrg.iter⟩)
      have hJ3 : J ss (w2.alloc (.cells #[.int .i64 x1, .int .i64 x2] 57)) := hJ ss w2 _ none hJ2 (World.grownBy_alloc w2 _ none) (fun r e => by cases e)
      obtain ⟨fn, tmps, assign, body, hy, hR⟩ := hY ss (x1, x2) _ hJ3 (by have := hrg2.len; simp at this; omega)
      have HR2 := Lib.hid (hrg2.alloc (.cells #[.int .i64 x1, .int .i64 x2] 57))
      have HLT := Lib.hid hlt
      have hen : (Instr.entry (.pointer (some ⟨W.heap.size, 0, none⟩))).run Try.prog w2 = .ok (.tuple #[.agg #[.int .i64 x1, .int .i64 x2], mk2 (v1, v2)]) w2 := hen0
      clear hen0 hg2 hs2 hrg hJs hJ2 hlt hrg2 hGx hnew
      gi_wp2
      refine hR.mono ?_
      rintro e W3 (⟨rfl, hJ3, hk3⟩ | ⟨rfl, hJx3⟩)
      · have HR3 := Lib.hid (HR2.out.walks hk3)
        gi_wp2
        go_roundw
        case rel => exact ⟨left2, ss ++ [(x1, x2)], HR3.out, hJ3⟩
        case measure => rw [HR3.out.left_eq, HL.out]; exact HLT.out
      · gi_wp2
        refine bodyPost_ret (results_none rfl _ _ _) rfl ?_
        exact ⟨⟨_, rfl⟩, .inr ⟨_, trivial, hJx3⟩⟩

theorem keys (mb : Option Nat) (w : World) :
    Calls Try.prog 45 #[.map mb] w fun e w' => e = .returned (.func (.func 56) #[] #[.pointer (some ⟨w.heap.size, 0, none⟩)]) ∧ w' = w.alloc (.cells #[.map mb] 54) := by
  go_enter Try.func45, Try.ntmps45
  go_wp2
  go_ret
  exact ⟨rfl, rfl⟩

/-- What the loop of AppendSeq has gathered. -/
def AInv (w : World) (pre : List (Int × Int)) (W : World) : Prop :=
  (∃ v, Boxed W w.heap.size 74 v ∧ W.ownsRow w.heap.size 57 2 v pre.length (pre.flatMap c2) ∧ True) ∧ Below w.heap.size w W
theorem ainv_own (w : World) (B : Nat) (hB : w.heap.size ≤ B) : OwnFrom B (AInv w) :=
  OwnFrom.and (Own.from (holdsRow_own w.heap.size w.heap.size 74 57 2 (fun pre : List (Int × Int) => pre.length) (fun pre => pre.flatMap c2) (fun _ _ => True)) B) (ownFrom_below (Nat.le_refl _) hB)
/-- The keys of G in a new slice. -/
def KeysPost (G : Int × Int → Option (Int × Int)) (w : World) (e : Ending) (w' : World) : Prop :=
  ∃ v ss, e = .returned v ∧ (KeysOf G ss ∧ ss.length ≤ 1000000) ∧ w'.ownsRow w.heap.size 57 2 v ss.length (ss.flatMap c2) ∧ Below w.heap.size w w'
theorem c2_snoc (pre : List (Int × Int)) (x : Int × Int) : (pre ++ [x]).flatMap c2 = pre.flatMap c2 ++ [.int .i64 x.1, .int .i64 x.2] := by simp [c2]
theorem infoL : (Try.prog.info? 57).map (fun i => (i.zero, i.size, i.bytes)) = some (some (mk2 (0, 0)), 2, 16) := by kernel_rfl
theorem infoL_parts : ∃ i0, Try.prog.info? 57 = some i0 ∧ i0.zero = some (mk2 (0, 0)) ∧ i0.size = 2 ∧ i0.bytes = 16 := by
  have hi := infoL
  cases hq : Try.prog.info? 57 with
  | none => rw [hq] at hi; simp at hi
  | some i0 =>
    rw [hq] at hi
    simp only [Option.map_some, Option.some.injEq, Prod.mk.injEq] at hi
    exact ⟨i0, rfl, hi.1, hi.2.1, hi.2.2⟩
set_option maxRecDepth 100000 in
set_option maxHeartbeats 4000000 in
theorem appendSeq (Bm b n : Nat) (G : Int × Int → Option (Int × Int)) (w : World) (hBm : Bm < w.heap.size) (hc : w.cell? ⟨Bm, 0, none⟩ = some (.map (some b))) (hM : MapL w b n G) (hn : n ≤ 1000000) :
    Calls Try.prog 58 #[.slice none 0 0, .func (.func 56) #[] #[.pointer (some ⟨Bm, 0, none⟩)]] w (KeysPost G w) := by
  refine (callsIn_wide (n := 5)).1 ?_
  refine callsIn_of_wp_marks Try.func58 rfl trivial ?_ rfl
  simp only [Try.ntmps58, List.size_toArray, List.length_cons, List.length_nil, Nat.reduceAdd, Nat.reduceSub, Array.replicate_succ, Array.replicate_zero, List.push_toArray, List.append_toArray, List.nil_append, List.cons_append]
  gi_wp2
  have hB0 : Below w.heap.size w (w.alloc (.cells #[.slice none 0 0] 74)) := (Below.refl _ w).alloc (Nat.le_refl _) _
  have b0 := Boxed.new w 74 (.slice none 0 0)
  have hc1 := (hB0.cell (p := ⟨Bm, 0, none⟩) hBm).trans hc
  have hM1 := hM.below' hB0
  have hs1 : (w.alloc (.cells #[.slice none 0 0] 74)).heap.size = w.heap.size + 1 := by simp
  generalize w.alloc (.cells #[.slice none 0 0] 74) = W0 at hB0 b0 hc1 hM1 hs1 ⊢
  clear hc hM
  obtain ⟨i0, hi, hz0, hz1, hz2⟩ := infoL_parts
  refine wpIn_rangeFunc_ownH rfl (by omega) (gf := 56) (lb := #[.pointer (some ⟨Bm, 0, none⟩)]) rfl trivial (enters_of Try.func56 (by kernel_rfl) rfl)
    (keys1 4 (by omega) Bm b n G W0 (by omega) hc1 hM1) walksK_t walksK_b (Below.refl _ _) (fun _ => rfl)
    (AInv w) (fun _ _ _ => False) (ainv_own w _ (by omega)) (fun _ _ _ _ _ hs _ _ => hs)
    ⟨⟨_, b0, ⟨rfl, .inl ⟨rfl, rfl⟩⟩, trivial⟩, hB0⟩
    (fun x a' W => ∃ q, w.heap.size < q ∧ W.heap[q]? = some (.cells #[.int .i64 x.1, .int .i64 x.2] 57 (0, 0)) ∧ a' = { tmps := #[.slice none 0 0, .func (.func 56) #[] #[.pointer (some ⟨Bm, 0, none⟩)], .pointer (some ⟨w.heap.size, 0, none⟩), undef, .slice none 0 0, .pointer (some ⟨q, 0, none⟩), .func (.func 56) #[] #[.pointer (some ⟨Bm, 0, none⟩)], .agg #[.int .i64 x.1, .int .i64 x.2], undef, undef, undef, undef, undef], defers := [] })
    (fun x a' _ X Y row hs hg hr => by
      obtain ⟨q, h1, h2, h3⟩ := hs
      refine ⟨q, h1, (hg.block q (Array.getElem?_eq_some_iff.1 h2).1 (fun e => ?_)).trans h2, h3⟩
      obtain ⟨o, ho, hc⟩ := (hr q e.symm).2
      rw [h2] at ho; cases ho; cases hc)
    ?assign ?body ?done ?stop
  case assign =>
    rintro l pre x W K hI hK
    have hBs := hI.2.size
    obtain ⟨v, hb, hr, _⟩ := hI.1
    have hlt := hb.lt
    gi_wp2
    refine hK _ _ ((KeepsOthers.alloc _ _).from _) (KeepsWalks.alloc _ _) ?_ ⟨W.heap.size, hlt, heap_alloc_new _ _, rfl⟩
    exact (ainv_own w w.heap.size (Nat.le_refl _)).alloc _ hI
  case body =>
    rintro l pre x a' W _ _ ⟨⟨v, hb, hr, _⟩, hB⟩ ⟨q, hq1, hq2, rfl⟩ hlen
    obtain ⟨x1, x2⟩ := x
    have hcb := hb.cell
    have hql := (Array.getElem?_eq_some_iff.1 hq2).1
    have hx0 : W.cell? ⟨q, 0, none⟩ = some (.int .i64 x1) := by rw [cell_of_row _ _ _ _ _ _ hq2]; rfl
    have hx1 : W.cell? ⟨q, 1, none⟩ = some (.int .i64 x2) := by rw [cell_of_row _ _ _ _ _ _ hq2]; rfl
    have hBs := hB.size
    gi_wp2_with (gi_at_builtin; refine wpListIn_append_own _ rfl _ _ 74 rfl w.heap.size 57 i0 (mk2 (0, 0)) 2 16 Try.underlying74 hi hz0 hz1 hz2 rfl (by decide) v pre.length (pre.flatMap c2) rfl (hr.alloc _) ⟨W.heap.size, 0, none⟩ 1 1 [.int .i64 x1, .int .i64 x2] rfl rfl ?_ ?_ (by unfold maxLen; omega) (by omega) (by simp; omega) ?_)
    · exact ⟨rfl, rfl⟩
    intro v' w' ho hg _
    obtain ⟨g', cap', rfl⟩ := ownsRow_succ ho
    obtain ⟨h1, h2, h3, h4, h5⟩ := hb.appended (t := 74) (e := 57) (by decide) hr hBs (Nat.le_refl _) ho hg
    have hcb1 := h1.cell
    have hfb1 := h1.frozen
    clear hg
    gi_wp2
    exact ⟨h4.from _, ⟨h4.size, fun k o h hw => h4.same k o h (Obj.not_cells_of_walk hw)⟩, ⟨_, h2, by rw [List.length_append, List.length_singleton, c2_snoc]; exact h3, trivial⟩, hB.trans h5⟩
  case done =>
    rintro D ss W hD hS ⟨⟨v, hb, hr, _⟩, hB⟩ hK
    have hcb := hb.cell
    gi_wp2
    refine ⟨by simp, .inl ⟨_, _, rfl, run_takeDeferred hK, ?_⟩⟩
    refine ⟨_, results_tmp rfl _ _ _, v, ss, rfl, ⟨hS.1, Nat.le_trans hS.2 hn⟩, ownsRow_putObj hr _ hK rfl, hB.trans (belowK_b (w := w) (Nat.le_refl _) W D _ _ (by omega) hK rfl rfl)⟩
  case stop =>
    rintro D c pre W _ _ h _
    exact h.elim
set_option maxRecDepth 20000 in
theorem collect (Bm b n : Nat) (G : Int × Int → Option (Int × Int)) (w : World) (hBm : Bm < w.heap.size) (hc : w.cell? ⟨Bm, 0, none⟩ = some (.map (some b))) (hM : MapL w b n G) (hn : n ≤ 1000000) :
    Calls Try.prog 54 #[.func (.func 56) #[] #[.pointer (some ⟨Bm, 0, none⟩)]] w (KeysPost G w) := by
  have H := Lib.hid (appendSeq Bm b n G w hBm hc hM hn)
  clear hc hM
  go_enter Try.func54, Try.ntmps54
  go_wp2_with fail
  ((with_reducible refine (H.out).mono ?_); rintro e w1 ⟨v, ss, rfl, hK, hr, hb⟩)
  have HP : Hid (KeysPost G w (.returned v) w1) := ⟨v, ss, rfl, hK, hr, hb⟩
  clear hK hr hb H
  go_wp2
  go_ret
  exact HP.out

end Im7
end Go.Proofs.Ytbhafchdcofceaa
