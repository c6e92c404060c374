/-
  The program's iterator over a stream: its contract, and the checks of lists and of keys.
-/
import Derived.Test.YtnjcpbkpcmemeacChecked
import Derived.Test.YtnjcpbkpcmemeacIla
import Derived.Test.YtnjcpbkpcmemeacGmm
import Derived.BigQuiet
import Derived.Deep.RegionLaw
import Derived.RangeFuncNested
import Derived.RangeFuncBound
import Derived.RangeFuncCalls
import Derived.RangeFuncLeaves
import Derived.Shelf.Abstract
import Derived.Shelf.RegionOpen
import Derived.WalkKit
import Derived.Lib.Hide
import Derived.OwnWalkIn
import Derived.TacticsInMore
import Derived.LoopNIn
import Derived.LoopIn
namespace Go.Proofs.Ytnjcpbkpcmemeac
open Go.RowKit Go.Shelf
namespace Nv
theorem numberValid (x : Int) (w : World) : Calls Try.prog 83 #[.int .i64 x] w fun e w' => e = .returned (.bool (Mm.inN x)) ∧ w = w' := by
  by_cases h0 : 0 ≤ x
  · by_cases h1 : x < 991
    · have hv : Mm.inN x = true := Mm.inN_iff.2 (by omega)
      rw [hv]
      clear hv
      go_enter Try.func83, Try.ntmps83
      go_wp2
      go_ret
      exact ⟨rfl, rfl⟩
    · have hv : Mm.inN x = false := by unfold Mm.inN; simp; omega
      rw [hv]
      clear hv
      have h2 : decide (x < 991) = false := by simpa using h1
      clear h1
      go_enter Try.func83, Try.ntmps83
      go_wp2
      go_ret
      exact ⟨rfl, rfl⟩
  · have hv : Mm.inN x = false := by unfold Mm.inN; simp; omega
    rw [hv]
    clear hv
    have h2 : decide (0 ≤ x) = false := by simpa using h0
    clear h0
    go_enter Try.func83, Try.ntmps83
    go_wp2
    go_ret
    exact ⟨rfl, rfl⟩
theorem numberValid_lit {x : Int} {b : Bool} (h : Mm.inN x = b) (w : World) : Calls Try.prog 83 #[.int .i64 x] w fun e w' => e = .returned (.bool b) ∧ w = w' := by
  rw [← h]; exact numberValid x w
end Nv
namespace Im2
open Il (Ints NewInts)
open Gm Mm
attribute [local go_sem] Oper.semAt_some

set_option maxRecDepth 20000 in
theorem inRange_yes (n : Int) (w : World) (h1 : 1 ≤ n) (h2 : n ≤ 996) :
    Calls Try.prog 51 #[.int .i64 n] w fun e w' => e = .returned (.bool true) ∧ w = w' := by
  go_enter Try.func51, Try.ntmps51
  go_wp2
  go_ret
  exact ⟨rfl, rfl⟩
set_option maxRecDepth 20000 in
theorem inRange_no (n : Int) (w : World) (h : n < 1 ∨ 996 < n) :
    Calls Try.prog 51 #[.int .i64 n] w fun e w' => e = .returned (.bool false) ∧ w = w' := by
  rcases h with h | h
  · go_enter Try.func51, Try.ntmps51
    go_wp2
    go_ret
    exact ⟨rfl, rfl⟩
  · have h0 : 1 ≤ n := by omega
    have h0d : decide (n ≤ 996) = false := by simp; omega
    go_enter Try.func51, Try.ntmps51
    go_wp2
    go_ret
    exact ⟨rfl, rfl⟩
set_option maxRecDepth 20000 in
theorem inRange (n : Int) (w : World) :
    Calls Try.prog 51 #[.int .i64 n] w fun e w' => e = .returned (.bool (inG n)) ∧ w = w' := by
  by_cases h : 1 ≤ n ∧ n ≤ 996
  · rw [inG_iff.2 h]; exact inRange_yes n w h.1 h.2
  · rw [inG_no.2 h]; exact inRange_no n w (by omega)

set_option maxRecDepth 20000 in
theorem listValid (lo hi : Nat) (A : Option Addr) (n c : Nat) (xs : List Int) (w : World) (hx : Ints lo hi w A n c xs) :
    Calls Try.prog 82 #[.slice A n c] w fun e w' => e = .returned (.bool (okL xs)) ∧ w = w' := by
  have hc1 := hx.2.2.1
  have hc2 := hx.2.1
  have HL := Lib.hid hx.1
  unfold maxLen at hc1
  have HX := Lib.hid hx
  clear hx
  by_cases h24 : n ≤ 24
  · have hd24 : decide (24 < (n : Int)) = false := by simp; omega
    go_enter Try.func82, Try.ntmps82
    go_wp2
    go_loop [10] (fun i => ∃ k : Nat, k ≤ n ∧ i = .int .i64 k ∧ okTo xs k) (fun i => n - (intOf i).toNat)
    case atStart => exact ⟨0, Nat.zero_le _, rfl, okTo_zero _⟩
    case round =>
      obtain ⟨k, hk, rfl, hT⟩ := hrel
      have HT := Lib.hid hT
      clear hT
      by_cases hlt : k < n
      · obtain ⟨b, off, rfl, _, _, hcx⟩ := HX.out.at_ hlt
        generalize hxe : xs.getD k 0 = x at hcx
        have HXE := Lib.hid hxe
        clear hxe
        cases hin : inN x
        · have hno_ := Lib.hid hin
          have hfin : okL xs = false := okL_bad (k := k) (by rw [HL.out]; exact hlt) (by rw [HXE.out]; exact hin)
          have HF := Lib.hid hfin
          clear hfin hin
          go_wp2_with fail
          ((with_reducible refine (Nv.numberValid_lit hno_.out _).mono ?_); rintro e w' ⟨rfl, rfl⟩)
          go_wp2
          go_ret
          rw [HF.out]
          exact ⟨rfl, rfl⟩
        · have hyes := Lib.hid hin
          have HN := Lib.hid (okTo_succ HT.out (by rw [HXE.out]; exact hin))
          clear hin
          go_wp2_with fail
          ((with_reducible refine (Nv.numberValid_lit hyes.out _).mono ?_); rintro e w' ⟨rfl, rfl⟩)
          go_wp2
          go_round
          case rel => exact ⟨k + 1, by omega, by go_num, HN.out⟩
          case measure => simp [intOf]; omega
      · have hkn : k = n := by omega
        have hfin : okL xs = decide (n ≤ 24) := by
          rw [← HL.out]
          exact okL_of_to (by rw [HL.out, ← hkn]; exact HT.out)
        have HF := Lib.hid hfin
        clear hfin hkn
        go_wp2
        go_ret
        rw [HF.out, decide_eq_true h24]
        exact ⟨rfl, rfl⟩
  · have hfin : okL xs = false := by
      unfold okL
      rw [decide_eq_false (by rw [HL.out]; exact h24), Bool.and_false]
    have HF := Lib.hid hfin
    have hd24 : decide (24 < (n : Int)) = true := by simp; omega
    clear hfin h24
    go_enter Try.func82, Try.ntmps82
    go_wp2
    go_ret
    rw [HF.out]
    exact ⟨rfl, rfl⟩

abbrev encs (key : Int) (n : Nat) (i : Fin n) : Array Value := #[.int .i64 ((i.1 : Nat) : Int), .int .i64 (at2 key i.1)]
/-- One box is as it was. -/
def KpB (b : Nat) (W W' : World) : Prop := W'.cell? ⟨b, 0, none⟩ = W.cell? ⟨b, 0, none⟩
set_option maxRecDepth 20000 in
theorem kpB_t {b : Nat} {A B C : World} (h : KpB b A B) (k : KpB b B C) : KpB b A C := k.trans h
theorem kpB_b {b : Nat} {w : World} (hb : b < w.heap.size) (W : World) (l : Nat) (o o' : Obj) (hl : w.heap.size ≤ l) (_ : W.heap[l]? = some o) (_ : o.isCells = false) (_ : o.isWalk = false) : KpB b W (W.putObj l o') :=
  World.cell?_of_block (World.putObj_heap_other (by dsimp only; omega))

set_option maxRecDepth 20000 in
theorem numbers (key : Int) (n : Int) (w : World) :
    Calls Try.prog 111 #[.int .i64 key, .int .i64 n] w fun e w' => e = .returned (.func (.func 114) #[] #[.pointer (some ⟨w.heap.size + 1, 0, none⟩), .pointer (some ⟨w.heap.size, 0, none⟩)]) ∧ w' = (w.alloc (.cells #[.int .i64 key] 3)).alloc (.cells #[.int .i64 n] 3) := by
  go_enter Try.func111, Try.ntmps111
  go_wp2
  go_ret
  exact ⟨rfl, rfl⟩

set_option maxRecDepth 100000 in
set_option maxHeartbeats 2000000 in
theorem nums_stops (m : Nat) (hm : 1 ≤ m) (key : Int) (n : Nat) (h1 : 1 ≤ key) (h2 : key ≤ 996) (hn : n ≤ 24) (bn bk : Nat) (w : World) (hbn : bn < w.heap.size) (hbk : bk < w.heap.size)
    (hcn : w.cell? ⟨bn, 0, none⟩ = some (.int .i64 (n : Int))) (hck : w.cell? ⟨bk, 0, none⟩ = some (.int .i64 key)) :
    SeqStopsK Fence.wide m Try.prog 114 #[.pointer (some ⟨bn, 0, none⟩), .pointer (some ⟨bk, 0, none⟩)] (encs key n) (KpB bk) (fun xs => ∀ i, i ∈ xs) (fun _ => True) n w := fun l J Jx W hW _ _ hY h0 => by
  have hcn' := (hW.cell (p := ⟨bn, 0, none⟩) hbn).trans hcn
  have hck' := (hW.cell (p := ⟨bk, 0, none⟩) hbk).trans hck
  clear hcn hck hW
  refine callsIn_of_wp Try.func114 rfl trivial ?_ rfl
  simp only [Try.ntmps114, List.size_toArray, List.length_cons, List.length_nil, Nat.reduceAdd, Nat.reduceSub, Array.replicate_succ, Array.replicate_zero, List.push_toArray, List.append_toArray, List.nil_append, List.cons_append]
  gi_wp2
  gi_loopw [6] (fun i wr => ∃ (k : Nat) (pre : List (Fin n)), k ≤ n ∧ i = .int .i64 k ∧ pre.length = k ∧ (∀ j : Fin n, j.1 < k → j ∈ pre) ∧ J pre wr ∧ wr.cell? ⟨bk, 0, none⟩ = some (.int .i64 key))
    (fun i _ => n - (intOf i).toNat)
  case atStart => exact ⟨0, [], Nat.zero_le _, rfl, rfl, fun j h => absurd h (by omega), h0, hck'⟩
  case round =>
    obtain ⟨k, pre, hk, rfl, hl, hall, hJs, hcw⟩ := hrel
    by_cases hlt : k < n
    · obtain ⟨fn, tmps, assign, body, hy, hR⟩ := hY pre ⟨k, hlt⟩ wr hJs (by omega)
      dsimp only [encs, at2] at hy
      have a1 : 0 ≤ key * ((k : Int) + 2) := Int.mul_nonneg (by omega) (by omega)
      have a2 : key * ((k : Int) + 2) ≤ 996 * 1002 := Int.mul_le_mul h2 (by omega) (by omega) (by omega)
      have b1 : 0 ≤ 11 * (k : Int) * (k : Int) := Int.mul_nonneg (by omega) (by omega)
      have b2 : 11 * (k : Int) * (k : Int) ≤ 11000 * 1000 := Int.mul_le_mul (by omega) (by omega) (by omega) (by omega)
      gi_wp2
      refine hR.mono ?_
      rintro e W3 (⟨rfl, hJ3, hk3⟩ | ⟨rfl, hJx3⟩)
      · have hc3 : W3.cell? ⟨bk, 0, none⟩ = some (.int .i64 key) := hk3.trans hcw
        gi_wp2
        go_roundw
        case rel => exact ⟨k + 1, pre ++ [⟨k, hlt⟩], by omega, by simp, by simp [hl], fun j hj => by
          by_cases e : j.1 = k
          · exact List.mem_append.2 (.inr (by simp [← e]))
          · exact List.mem_append.2 (.inl (hall j (by omega))), hJ3, hc3⟩
        case measure => simp [intOf]; omega
      · gi_wp2
        refine bodyPost_ret (results_none rfl _ _ _) rfl ?_
        exact ⟨⟨_, rfl⟩, .inr ⟨_, trivial, hJx3⟩⟩
    · obtain rfl : k = n := by omega
      gi_wp2
      go_end0
      exact ⟨⟨_, rfl⟩, .inl ⟨pre, fun i => hall i i.2, hJs⟩⟩
end Im2
end Go.Proofs.Ytnjcpbkpcmemeac
