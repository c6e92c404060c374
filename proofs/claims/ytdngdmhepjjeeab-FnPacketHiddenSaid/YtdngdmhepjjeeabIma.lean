/-
  Several parts of the proof in one text.
-/
import Derived.Test.YtdngdmhepjjeeabChecked
import Derived.Test.YtdngdmhepjjeeabIla
import Derived.Test.YtdngdmhepjjeeabPl
import Derived.BigQuiet
import Derived.Deep.RegionLaw
import Derived.RangeFuncNested
import Derived.RangeFuncBound
import Derived.RangeFuncCalls
import Derived.RangeFuncLeaves
import Derived.Shelf.Abstract
import Derived.Shelf.RegionOpen
import Derived.WalkKit
import Derived.OwnWalkIn
import Derived.TacticsInMore
import Derived.LoopNIn
import Derived.LoopIn
import Derived.StillTailTactics
import Derived.OrdersIn
import Derived.Laws.CopyOwn
import Derived.Laws.ResultCell
import Derived.Deep.MidRow
/-
  The program's iterator over a stream: its contract, and the checks of lists and of keys.
-/
namespace Go.Proofs.Ytdngdmhepjjeeab
open Go.RowKit Go.Shelf
namespace Im2
open Il (Ints NewInts)
open Gm Mm
attribute [local go_sem] Oper.semAt_some

set_option maxRecDepth 20000 in
theorem inRange_yes (n : Int) (w : World) (h1 : 1 ≤ n) (h2 : n ≤ 996) :
    Calls Try.prog 34 #[.int .i64 n] w fun e w' => e = .returned (.bool true) ∧ w = w' := by
  go_enter Try.func34, Try.ntmps34
  go_wp2
  go_ret
  exact ⟨rfl, rfl⟩
set_option maxRecDepth 20000 in
theorem inRange_no (n : Int) (w : World) (h : n < 1 ∨ 996 < n) :
    Calls Try.prog 34 #[.int .i64 n] w fun e w' => e = .returned (.bool false) ∧ w = w' := by
  rcases h with h | h
  · go_enter Try.func34, Try.ntmps34
    go_wp2
    go_ret
    exact ⟨rfl, rfl⟩
  · have h0 : 1 ≤ n := by omega
    have h0d : decide (n ≤ 996) = false := by simp; omega
    go_enter Try.func34, Try.ntmps34
    go_wp2
    go_ret
    exact ⟨rfl, rfl⟩
set_option maxRecDepth 20000 in
theorem inRange (n : Int) (w : World) :
    Calls Try.prog 34 #[.int .i64 n] w fun e w' => e = .returned (.bool (inG n)) ∧ w = w' := by
  by_cases h : 1 ≤ n ∧ n ≤ 996
  · rw [inG_iff.2 h]; exact inRange_yes n w h.1 h.2
  · rw [inG_no.2 h]; exact inRange_no n w (by omega)

set_option maxRecDepth 20000 in
theorem listValid (lo hi : Nat) (A : Option Addr) (n c : Nat) (xs : List Int) (w : World) (hx : Ints lo hi w A n c xs) :
    Calls Try.prog 64 #[.slice A n c] w fun e w' => e = .returned (.bool (okL xs)) ∧ w = w' := by
  have hc1 := hx.2.2.1
  have hc2 := hx.2.1
  have HL := Lib.hid hx.1
  unfold maxLen at hc1
  have HX := Lib.hid hx
  clear hx
  by_cases h24 : n ≤ 24
  · have hd24 : decide (24 < (n : Int)) = false := by simp; omega
    go_enter Try.func64, Try.ntmps64
    go_wp2
    go_loop [10] (fun i => ∃ k : Nat, k ≤ n ∧ i = .int .i64 k ∧ okTo xs k) (fun i => n - (intOf i).toNat)
    case atStart => exact ⟨0, Nat.zero_le _, rfl, okTo_zero _⟩
    case round =>
      obtain ⟨k, hk, rfl, hT⟩ := hrel
      have HT := Lib.hid hT
      clear hT
      by_cases hlt : k < n
      · obtain ⟨b, off, rfl, _, _, hcx⟩ := HX.out.at_ hlt
        generalize hxe : xs.getD k 0 = x at hcx
        have HXE := Lib.hid hxe
        clear hxe
        cases hin : inN x
        · have hno := inN_no.1 hin
          have hfin : okL xs = false := okL_bad (k := k) (by rw [HL.out]; exact hlt) (by rw [HXE.out]; exact hin)
          have HF := Lib.hid hfin
          clear hfin hin
          by_cases h0 : x < 0
          · clear hno
            go_wp2
            go_ret
            rw [HF.out]
            exact ⟨rfl, rfl⟩
          · have h1 : 0 ≤ x := by omega
            have h2 : 991 ≤ x := by omega
            clear hno h0
            go_wp2
            go_ret
            rw [HF.out]
            exact ⟨rfl, rfl⟩
        · have hyes := inN_iff.1 hin
          have HN := Lib.hid (okTo_succ HT.out (by rw [HXE.out]; exact hin))
          obtain ⟨h1, h2⟩ := hyes
          have h3 : x < 991 := by omega
          clear hin h2
          go_wp2
          go_round
          case rel => exact ⟨k + 1, by omega, by go_num, HN.out⟩
          case measure => simp [intOf]; omega
      · have hkn : k = n := by omega
        have hfin : okL xs = decide (n ≤ 24) := by
          rw [← HL.out]
          exact okL_of_to (by rw [HL.out, ← hkn]; exact HT.out)
        have HF := Lib.hid hfin
        clear hfin hkn
        go_wp2
        go_ret
        rw [HF.out, decide_eq_true h24]
        exact ⟨rfl, rfl⟩
  · have hfin : okL xs = false := by
      unfold okL
      rw [decide_eq_false (by rw [HL.out]; exact h24), Bool.and_false]
    have HF := Lib.hid hfin
    have hd24 : decide (24 < (n : Int)) = true := by simp; omega
    clear hfin h24
    go_enter Try.func64, Try.ntmps64
    go_wp2
    go_ret
    rw [HF.out]
    exact ⟨rfl, rfl⟩

abbrev encs (key : Int) (n : Nat) (i : Fin n) : Array Value := #[.int .i64 ((i.1 : Nat) : Int), .int .i64 (at2 key i.1)]
/-- One box is as it was. -/
def KpB (b : Nat) (W W' : World) : Prop := W'.cell? ⟨b, 0, none⟩ = W.cell? ⟨b, 0, none⟩
set_option maxRecDepth 20000 in
theorem kpB_t {b : Nat} {A B C : World} (h : KpB b A B) (k : KpB b B C) : KpB b A C := k.trans h
theorem kpB_b {b : Nat} {w : World} (hb : b < w.heap.size) (W : World) (l : Nat) (o o' : Obj) (hl : w.heap.size ≤ l) (_ : W.heap[l]? = some o) (_ : o.isCells = false) (_ : o.isWalk = false) : KpB b W (W.putObj l o') :=
  World.cell?_of_block (World.putObj_heap_other (by dsimp only; omega))

set_option maxRecDepth 20000 in
theorem numbers (key : Int) (n : Int) (w : World) :
    Calls Try.prog 81 #[.int .i64 key, .int .i64 n] w fun e w' => e = .returned (.func (.func 83) #[] #[.pointer (some ⟨w.heap.size + 1, 0, none⟩), .pointer (some ⟨w.heap.size, 0, none⟩)]) ∧ w' = (w.alloc (.cells #[.int .i64 key] 3)).alloc (.cells #[.int .i64 n] 3) := by
  go_enter Try.func81, Try.ntmps81
  go_wp2
  go_ret
  exact ⟨rfl, rfl⟩

set_option maxRecDepth 100000 in
set_option maxHeartbeats 2000000 in
theorem nums_stops (m : Nat) (hm : 1 ≤ m) (key : Int) (n : Nat) (h1 : 1 ≤ key) (h2 : key ≤ 996) (hn : n ≤ 24) (bn bk : Nat) (w : World) (hbn : bn < w.heap.size) (hbk : bk < w.heap.size)
    (hcn : w.cell? ⟨bn, 0, none⟩ = some (.int .i64 (n : Int))) (hck : w.cell? ⟨bk, 0, none⟩ = some (.int .i64 key)) :
    SeqStopsK Fence.wide m Try.prog 83 #[.pointer (some ⟨bn, 0, none⟩), .pointer (some ⟨bk, 0, none⟩)] (encs key n) (KpB bk) (fun xs => ∀ i, i ∈ xs) (fun _ => True) n w := fun l J Jx W hW _ _ hY h0 => by
  have hcn' := (hW.cell (p := ⟨bn, 0, none⟩) hbn).trans hcn
  have hck' := (hW.cell (p := ⟨bk, 0, none⟩) hbk).trans hck
  clear hcn hck hW
  refine callsIn_of_wp Try.func83 rfl trivial ?_ rfl
  simp only [Try.ntmps83, List.size_toArray, List.length_cons, List.length_nil, Nat.reduceAdd, Nat.reduceSub, Array.replicate_succ, Array.replicate_zero, List.push_toArray, List.append_toArray, List.nil_append, List.cons_append]
  gi_wp2
  gi_loopw [6] (fun i wr => ∃ (k : Nat) (pre : List (Fin n)), k ≤ n ∧ i = .int .i64 k ∧ pre.length = k ∧ (∀ j : Fin n, j.1 < k → j ∈ pre) ∧ J pre wr ∧ wr.cell? ⟨bk, 0, none⟩ = some (.int .i64 key))
    (fun i _ => n - (intOf i).toNat)
  case atStart => exact ⟨0, [], Nat.zero_le _, rfl, rfl, fun j h => absurd h (by omega), h0, hck'⟩
  case round =>
    obtain ⟨k, pre, hk, rfl, hl, hall, hJs, hcw⟩ := hrel
    by_cases hlt : k < n
    · obtain ⟨fn, tmps, assign, body, hy, hR⟩ := hY pre ⟨k, hlt⟩ wr hJs (by omega)
      dsimp only [encs, at2] at hy
      have a1 : 0 ≤ key * ((k : Int) + 2) := Int.mul_nonneg (by omega) (by omega)
      have a2 : key * ((k : Int) + 2) ≤ 996 * 1002 := Int.mul_le_mul h2 (by omega) (by omega) (by omega)
      have b1 : 0 ≤ 11 * (k : Int) * (k : Int) := Int.mul_nonneg (by omega) (by omega)
      have b2 : 11 * (k : Int) * (k : Int) ≤ 11000 * 1000 := Int.mul_le_mul (by omega) (by omega) (by omega) (by omega)
      gi_wp2
      refine hR.mono ?_
      rintro e W3 (⟨rfl, hJ3, hk3⟩ | ⟨rfl, hJx3⟩)
      · have hc3 : W3.cell? ⟨bk, 0, none⟩ = some (.int .i64 key) := hk3.trans hcw
        gi_wp2
        go_roundw
        case rel => exact ⟨k + 1, pre ++ [⟨k, hlt⟩], by omega, by simp, by simp [hl], fun j hj => by
          by_cases e : j.1 = k
          · exact List.mem_append.2 (.inr (by simp [← e]))
          · exact List.mem_append.2 (.inl (hall j (by omega))), hJ3, hc3⟩
        case measure => simp [intOf]; omega
      · gi_wp2
        refine bodyPost_ret (results_none rfl _ _ _) rfl ?_
        exact ⟨⟨_, rfl⟩, .inr ⟨_, trivial, hJx3⟩⟩
    · obtain rfl : k = n := by omega
      gi_wp2
      go_end0
      exact ⟨⟨_, rfl⟩, .inl ⟨pre, fun i => hall i i.2, hJs⟩⟩
end Im2
end Go.Proofs.Ytdngdmhepjjeeab

/-
  A region that draws its order, of plain operations alone, inside a fence: by the same region outside of it. Nothing of any program.
-/
namespace Go.Proofs.Ytdngdmhepjjeeab
namespace Rg
open Go

/-- An operation that neither calls nor defers nor communicates. -/
def calm (o : Oper) : Bool :=
  match o.op with
  | .move _ | .assign _ | .load _ _ | .store _ _ _ | .binOp _ _ _ _ _ | .unOp _ _ _ | .indexAddr _ _ _ => true
  | _ => false

section
variable {F : Fence} {n : Nat} {P : Program} {ops : Array Oper} {Q : Exit → Act → World → Prop} {md : Region.Mode} {o : Oper}

/-- What such an operation may come to. -/
def plain : Result Next → Prop
  | .ok (.value _) _ => True
  | .ok .skip _ => True
  | .ok _ _ => False
  | .halt _ _ => True

theorem plain_value (s : Sem Value) (w : World) : plain ((do pure (.value (← s)) : Sem Next).run P w) := by
  simp only [Sem.run_bind]
  cases s.run P w <;> simp [plain, Result.andThen]
theorem plain_skip (s : Sem Unit) (w : World) : plain ((do s; pure .skip : Sem Next).run P w) := by
  simp only [Sem.run_bind]
  cases s.run P w <;> simp [plain, Result.andThen]

theorem calm_plain (h : calm o = true) (ρ : Operand → Value) (w : World) : plain ((execOp ρ o).run P w) := by
  unfold calm at h
  unfold execOp
  split at h
  all_goals first | (cases h; done) | (rename_i ho; simp only [ho]; first | exact plain_value _ _ | exact plain_skip _ _ | (simp [plain]; done))
theorem calm_about (h : calm o = true) (ρ : Operand → Value) (w : World) : o.about P w ρ = none := by
  unfold calm at h
  unfold Oper.about
  split at h
  all_goals first | (cases h; done) | (rename_i ho; simp only [ho]; done)
theorem calm_sem (h : calm o = true) (ro : Option Nat) (ρ : Operand → Value) : o.semAt ro ρ = execOp ρ o := by
  refine Oper.semAt_eq ro ρ o fun c hc => ?_
  unfold calm at h
  rw [hc] at h
  cases h
theorem wpIn_of_wp (h : calm o = true) {a : Act} {w : World} {K : Act → World → Prop} (hh : o.wp P a w K Q) : o.wpIn F n P a w K Q := by
  refine ⟨fun f hf => (by rw [calm_about h] at hf; cases hf), ?_⟩
  rw [calm_sem h]
  have hp := calm_plain (P := P) h a.eval w
  unfold Oper.wp at hh
  generalize (execOp a.eval o).run P w = r at hp hh ⊢
  match r, hp, hh with
  | .ok (.value v) w', _, hh => exact hh
  | .ok .skip w', _, hh => exact hh
  | .halt (.panic v) w', _, hh => exact hh

theorem wpOpIn_of_wpOp {i : Nat} {K : Act → World → Prop} {a : Act} {w : World} (hQ : ¬ LetsOut Q) (hc : ops.all calm = true) (h : wpOp P ops Q i K a w) : wpOpIn F n P ops Q i K a w := by
  unfold wpOp at h
  unfold wpOpIn
  cases ho : ops[i]? with
  | none => simp only [ho] at h ⊢; exact h
  | some o =>
    have hco : calm o = true := by
      obtain ⟨hi, rfl⟩ := Array.getElem?_eq_some_iff.1 ho
      exact Array.all_eq_true.1 hc i hi
    simp only [ho] at h ⊢
    split
    · rename_i hw
      simp only [hw, if_true] at h
      rcases h with h | h
      · exact wpIn_of_wp hco h
      · exact absurd h.2 hQ
    · rename_i hw
      simp only [hw] at h
      exact ⟨fun f hf => (by rw [calm_about hco] at hf; cases hf), h⟩

theorem wpAnyIn_of_wpAny (hQ : ¬ LetsOut Q) (hc : ops.all calm = true) : ∀ (fuel : Nat) (listed : Array Bool) (a : Act) (w : World), wpAny P md ops Q fuel listed a w → wpAnyIn F n P md ops Q fuel listed a w
  | 0, _, _, _, h => h
  | fuel + 1, _, _, _, h => ⟨h.1, fun i hi => wpOpIn_of_wpOp hQ hc (wpOp_mono (fun a' w' h' => wpAnyIn_of_wpAny hQ hc fuel _ a' w' h') (h.2 i hi))⟩

theorem wpIn_region_still_tail {id : Nat} {a : Act} {w : World} {l : List Oper} (m : Nat) (hQ : ¬ LetsOut Q) (hc : l.toArray.all calm = true) (hm : P.follows .mixedOrders = true) (hB : Region.lexTailB .any l.toArray m = true)
    (h : wpStill P l.toArray { w with drawn := w.drawn + 1 } (fun a' => wpList P l.toArray Q (l.drop m) a' { w with drawn := w.drawn + 1 }) (l.take m) a) : (Code.region id l.toArray true).wpIn F n P Q a w := by
  simp only [Region.lexTailB, Bool.and_eq_true, decide_eq_true_eq] at hB
  obtain ⟨⟨⟨⟨hsel, hn⟩, hs⟩, hch⟩, hlex⟩ := hB
  have hn' : m < l.length := by simpa using hn
  have htl : (l.take m).length = m := by simp; omega
  have hdl : (l.drop m).length = l.toArray.size - m := by simp
  have inv0 : HeadInv .any l.toArray m (Array.replicate l.toArray.size false) :=
    ⟨by simp, fun j oj _ hl => (by rw [getD_replicate_false] at hl; cases hl), fun t _ ht => getD_in (by simpa using ht) (getD_replicate_false _ _)⟩
  have H := wpAnyL_lex (md := .any) (g := l.toArray.size - m) hsel hs hch hn (l.take m) 0 _ a (fun j hj => by
    have hj' : j < m := by rw [htl] at hj; exact hj
    simp [hj']) (by simpa using htl) inv0 (by rw [htl]; exact hlex) h
  refine wpIn_region_any hm (wpAnyIn_of_wpAny hQ hc _ _ _ _ ?_)
  have := wpAny_of_head (Q' := Q) (g := l.toArray.size - m) (fun listed a' hL => by
    have := wpAny_of_seq (md := .any) (Q' := Q) (l.drop m) m listed a' { w with drawn := w.drawn + 1 } (fun j => by simp [List.getElem?_drop]) (by rw [hdl]; exact hL.1) hL.2
    rwa [hdl] at this) _ _ _ H
  rw [htl, show m + (l.toArray.size - m) = l.toArray.size by omega] at this
  exact this
end
end Rg
end Go.Proofs.Ytdngdmhepjjeeab

/-
  Contracts of the program's chapter 2: streams, masking on and off.
-/
namespace Go.Proofs.Ytdngdmhepjjeeab
open Go.RowKit Go.Shelf
namespace Im2
open Il (Ints NewInts NewIntsT infoInt own_made acc_new)
open Gm Mm
attribute [local go_sem] Oper.semAt_some

theorem ints_rows {lo hi : Nat} {w w' : World} {A : Option Addr} {n c : Nat} {xs : List Int} {row : Option Nat} (h : Ints lo hi w A n c xs) (hg : w.grownBy w' row) (hr : ∀ r, row = some r → ∃ o : Obj, w.heap[r]? = some o ∧ o.isCells = false) : Ints lo hi w' A n c xs :=
  ⟨h.1, h.2.1, h.2.2.1, fun hn => by
    obtain ⟨b, off, e, h1, h2, hz, hc⟩ := h.2.2.2 hn
    exact ⟨b, off, e, h1, h2, Nat.lt_of_lt_of_le hz hg.size, fun j hj => cell_kept (hc j hj) hg hr⟩⟩
theorem own_rows {lo hi : Nat} {w w' : World} {A : Option Addr} {n c : Nat} {xs : List Int} {row : Option Nat} (h : Il.Own lo hi w A n c xs) (hg : w.grownBy w' row) (hr : ∀ r, row = some r → ∃ o : Obj, w.heap[r]? = some o ∧ o.isCells = false) : Il.Own lo hi w' A n c xs :=
  ⟨ints_rows h.1 hg hr, fun b off hn e j hj => by
    obtain ⟨b', off', e', h1, h2, hz, hc⟩ := h.1.2.2.2 hn
    rw [e'] at e
    simp only [Option.some.injEq, Addr.mk.injEq, and_true] at e
    obtain ⟨rfl, rfl⟩ := e
    exact (frozen_kept (hc j hj) hg hr).trans (h.2 _ _ hn e' j hj)⟩

theorem set_all {f : Nat → Int} {n : Nat} {pre : List (Fin n)} {x : Fin n} {ys : List Int} (h : ∀ i : Fin n, i ∈ pre → ys.getD i.1 0 = f i.1) (hx : x.1 < ys.length) : ∀ i : Fin n, i ∈ pre ++ [x] → (ys.set x.1 (f x.1)).getD i.1 0 = f i.1 := fun i hi => by
  by_cases e : i.1 = x.1
  · rw [e, List.getD_eq_getElem?_getD, List.getElem?_set_self hx]; rfl
  · rw [List.getD_eq_getElem?_getD, List.getElem?_set_ne (by omega), ← List.getD_eq_getElem?_getD]
    rcases List.mem_append.1 hi with h1 | h1
    · exact h i h1
    · simp at h1; exact absurd (congrArg Fin.val h1) e
theorem all_eq {n : Nat} {xs ys : List Int} (hx : xs.length = n) (hy : ys.length = n) (h : ∀ i, i < n → xs.getD i 0 = ys.getD i 0) : xs = ys := by
  apply List.ext_getElem (by omega)
  intro i h1 h2
  have := h i (by omega)
  rw [List.getD_eq_getElem?_getD, List.getD_eq_getElem?_getD, List.getElem?_eq_getElem h1, List.getElem?_eq_getElem h2] at this
  simpa using this

theorem mapIdx_getD {f : Nat → Int → Int} {xs : List Int} {i : Nat} (h : i < xs.length) : (xs.mapIdx f).getD i 0 = f i (xs.getD i 0) := by
  rw [List.getD_eq_getElem?_getD, List.getD_eq_getElem?_getD, List.getElem?_eq_getElem (by simpa using h), List.getElem?_eq_getElem h]
  simp

/-- One number with the stream added or subtracted; a list of them. -/
def sgn (key sign : Int) (i : Nat) (x : Int) : Int := (x + sign * at2 key i + 991) % 991
def signL (xs : List Int) (key sign : Int) : List Int := xs.mapIdx (sgn key sign)
theorem signL_len {xs : List Int} {key sign : Int} : (signL xs key sign).length = xs.length := by simp [signL]
theorem signL_getD {xs : List Int} {key sign : Int} {i : Nat} (h : i < xs.length) : (signL xs key sign).getD i 0 = sgn key sign i (xs.getD i 0) := mapIdx_getD h

/-- What the loop of withStream has written: the boxes of the list, the sign and the new list. -/
def WInv (w : World) (A0 : Option Addr) (c0 : Nat) (xs : List Int) (sign : Int) (f : Nat → Int) (n : Nat) (pre : List (Fin n)) (W : World) : Prop :=
  Boxed W w.heap.size 22 (.slice A0 n c0) ∧ Boxed W (w.heap.size + 1) 3 (.int .i64 sign) ∧ Ints 0 w.heap.size W A0 n c0 xs ∧
  ∃ A ys, Boxed W (w.heap.size + 1 + 1 + 1) 22 (.slice A n n) ∧ Il.Own (w.heap.size + 1 + 1) (w.heap.size + 1 + 1 + 1) W A n n ys ∧ ∀ i : Fin n, i ∈ pre → ys.getD i.1 0 = f i.1

set_option maxRecDepth 100000 in
set_option maxHeartbeats 2000000 in
theorem withOk (lo hi : Nat) (A0 : Option Addr) (n c0 : Nat) (xs : List Int) (key sign : Int) (w : World) (hx : Ints lo hi w A0 n c0 xs) (hok : okL xs = true) (h1 : 1 ≤ key) (h2 : key ≤ 996) (hs1 : -1 ≤ sign) (hs2 : sign ≤ 1) :
    Calls Try.prog 68 #[.slice A0 n c0, .int .i64 key, .int .i64 sign] w (NewIntsT w (signL xs key sign)) := by
  have hn : n ≤ 24 := by rw [← hx.1]; exact (okL_iff.1 hok).2
  have hc0 := hx.2.1
  have hmk := run_make_row' (P := Try.prog) 22 3 (.int .i64 0) 8 Try.underlying22 infoInt rfl .i64 .i64 n (by omega) (by omega)
  have HX := Lib.hid (show Ints 0 w.heap.size w A0 n c0 xs from ⟨hx.1, hx.2.1, hx.2.2.1, fun hn => by
    obtain ⟨b, off, e, _, _, hz, hc⟩ := hx.2.2.2 hn
    exact ⟨b, off, e, Nat.zero_le _, hz, hz, hc⟩⟩)
  have hl := hx.1
  clear hx
  have HOK := Lib.hid hok
  clear hok
  refine (callsIn_wide (n := 5)).1 ?_
  refine callsIn_of_wp_marks Try.func68 rfl trivial ?_ rfl
  simp only [Try.ntmps68, List.size_toArray, List.length_cons, List.length_nil, Nat.reduceAdd, Nat.reduceSub, Array.replicate_succ, Array.replicate_zero, List.push_toArray, List.append_toArray, List.nil_append, List.cons_append]
  gi_wp2_with (refine ⟨trivial, ?_⟩; first
    | (gi_at_call 64; refine (callsIn_wide.2 (listValid 0 w.heap.size A0 n c0 xs _ ((HX.out.below ((Below.refl _ w).alloc (Nat.le_refl _) _) (Nat.le_refl _)).below ((Below.refl _ _).alloc (Nat.le_refl _) _) (Nat.le_refl _)))).mono ?_; rintro e w' ⟨rfl, rfl⟩; rw [HOK.out])
    | (gi_at_call 34; refine (callsIn_wide.2 (inRange_yes key _ h1 h2)).mono ?_; rintro e w' ⟨rfl, rfl⟩)
    | (gi_at_call 81; refine (callsIn_wide.2 (numbers key n _)).mono ?_; rintro e w' ⟨rfl, rfl⟩))
  have hB0 : Below w.heap.size w ((((((w.alloc (.cells #[.slice A0 n c0] 22)).alloc (.cells #[.int .i64 sign] 3)).alloc (.cells (madeCells #[.int .i64 0] n) 3)).alloc (.cells #[.slice (some ⟨w.heap.size + 1 + 1, 0, none⟩) n n] 22)).alloc (.cells #[.int .i64 key] 3)).alloc (.cells #[.int .i64 n] 3)) :=
    (((((((Below.refl _ w).alloc (by simp) _).alloc (by simp) _).alloc (by simp; omega) _).alloc (by simp; omega) _).alloc (by simp; omega) _).alloc (by simp; omega) _)
  have hI0 := HX.out
  have hb0 : Below w.heap.size w (w.alloc (.cells #[.slice A0 n c0] 22)) := (Below.refl _ _).alloc (Nat.le_refl _) _
  replace hI0 := hI0.below hb0 (Nat.le_refl _)
  have bl := Boxed.new w 22 (.slice A0 n c0)
  have hz1 : (w.alloc (.cells #[.slice A0 n c0] 22)).heap.size = w.heap.size + 1 := by simp
  clear hb0
  generalize hwe0 : (w.alloc (.cells #[.slice A0 n c0] 22)) = w1 at hB0 hI0 hz1 bl ⊢
  have hb1 : Below w1.heap.size w1 (w1.alloc (.cells #[.int .i64 sign] 3)) := (Below.refl _ _).alloc (Nat.le_refl _) _
  replace hI0 := hI0.below hb1 (Nat.le_refl _)
  replace bl := bl.alloc (.cells #[.int .i64 sign] 3)
  have bs := Boxed.new w1 3 (.int .i64 sign)
  have hz2 : (w1.alloc (.cells #[.int .i64 sign] 3)).heap.size = w.heap.size + 1 + 1 := by simp [hz1]
  rw [hz1] at bs
  clear hb1
  generalize hwe1 : (w1.alloc (.cells #[.int .i64 sign] 3)) = w2 at hB0 hI0 hz2 bl bs ⊢
  clear hz1
  have hb2 : Below w2.heap.size w2 (w2.alloc (.cells (madeCells #[.int .i64 0] n) 3)) := (Below.refl _ _).alloc (Nat.le_refl _) _
  replace hI0 := hI0.below hb2 (Nat.le_refl _)
  replace bl := bl.alloc (.cells (madeCells #[.int .i64 0] n) 3)
  replace bs := bs.alloc (.cells (madeCells #[.int .i64 0] n) 3)
  have ho := own_made w2 3 n (by unfold maxLen; omega)
  have hz3 : (w2.alloc (.cells (madeCells #[.int .i64 0] n) 3)).heap.size = w.heap.size + 1 + 1 + 1 := by simp [hz2]
  rw [hz2] at ho
  clear hb2
  generalize hwe2 : (w2.alloc (.cells (madeCells #[.int .i64 0] n) 3)) = w3 at hB0 hI0 hz3 bl bs ho ⊢
  clear hz2
  have hb3 : Below w3.heap.size w3 (w3.alloc (.cells #[.slice (some ⟨w.heap.size + 1 + 1, 0, none⟩) n n] 22)) := (Below.refl _ _).alloc (Nat.le_refl _) _
  replace hI0 := hI0.below hb3 (Nat.le_refl _)
  replace bl := bl.alloc (.cells #[.slice (some ⟨w.heap.size + 1 + 1, 0, none⟩) n n] 22)
  replace bs := bs.alloc (.cells #[.slice (some ⟨w.heap.size + 1 + 1, 0, none⟩) n n] 22)
  have bm := Boxed.new w3 22 (.slice (some ⟨w.heap.size + 1 + 1, 0, none⟩) n n)
  replace ho := ho.below hb3 (Nat.le_refl _)
  have hz4 : (w3.alloc (.cells #[.slice (some ⟨w.heap.size + 1 + 1, 0, none⟩) n n] 22)).heap.size = w.heap.size + 1 + 1 + 1 + 1 := by simp [hz3]
  rw [hz3] at bm
  clear hb3
  generalize hwe3 : (w3.alloc (.cells #[.slice (some ⟨w.heap.size + 1 + 1, 0, none⟩) n n] 22)) = w4 at hB0 hI0 hz4 bl bs bm ho ⊢
  clear hz3
  have hb4 : Below w4.heap.size w4 (w4.alloc (.cells #[.int .i64 key] 3)) := (Below.refl _ _).alloc (Nat.le_refl _) _
  replace hI0 := hI0.below hb4 (Nat.le_refl _)
  replace bl := bl.alloc (.cells #[.int .i64 key] 3)
  replace bs := bs.alloc (.cells #[.int .i64 key] 3)
  replace bm := bm.alloc (.cells #[.int .i64 key] 3)
  have bk := Boxed.new w4 3 (.int .i64 key)
  replace ho := ho.below hb4 (Nat.le_refl _)
  have hz5 : (w4.alloc (.cells #[.int .i64 key] 3)).heap.size = w.heap.size + 1 + 1 + 1 + 1 + 1 := by simp [hz4]
  rw [hz4] at bk
  clear hb4
  generalize hwe4 : (w4.alloc (.cells #[.int .i64 key] 3)) = w5 at hB0 hI0 hz5 bl bs bm bk ho ⊢
  clear hz4
  have hb5 : Below w5.heap.size w5 (w5.alloc (.cells #[.int .i64 n] 3)) := (Below.refl _ _).alloc (Nat.le_refl _) _
  replace hI0 := hI0.below hb5 (Nat.le_refl _)
  replace bl := bl.alloc (.cells #[.int .i64 n] 3)
  replace bs := bs.alloc (.cells #[.int .i64 n] 3)
  replace bm := bm.alloc (.cells #[.int .i64 n] 3)
  replace bk := bk.alloc (.cells #[.int .i64 n] 3)
  have bn := Boxed.new w5 3 (.int .i64 n)
  replace ho := ho.below hb5 (Nat.le_refl _)
  have hz6 : (w5.alloc (.cells #[.int .i64 n] 3)).heap.size = w.heap.size + 1 + 1 + 1 + 1 + 1 + 1 := by simp [hz5]
  rw [hz5] at bn
  clear hb5
  generalize hwe5 : (w5.alloc (.cells #[.int .i64 n] 3)) = w6 at hB0 hI0 hz6 bl bs bm bk bn ho ⊢
  clear hz5
  clear hwe0 hwe1 hwe2 hwe3 hwe4 hwe5 hmk
  refine wpIn_rangeFunc_ownG rfl (by omega) (gf := 83) (lb := #[.pointer (some ⟨w.heap.size + 1 + 1 + 1 + 1 + 1, 0, none⟩), .pointer (some ⟨w.heap.size + 1 + 1 + 1 + 1, 0, none⟩)]) rfl trivial (enters_of Try.func83 (by kernel_rfl) rfl)
    (nums_stops 4 (by omega) key n h1 h2 hn (w.heap.size + 1 + 1 + 1 + 1 + 1) (w.heap.size + 1 + 1 + 1 + 1) w6 (by omega) (by omega) bn.cell bk.cell) kpB_t (kpB_b (by omega)) (Below.refl _ _) (fun _ => rfl)
    (fun pre W => WInv w A0 c0 xs sign (fun i => sgn key sign i (xs.getD i 0)) n pre W ∧ Below w.heap.size w W) (fun _ _ _ => False)
    (OwnFrom.and (fun s X Y row hs hg hr => by
      obtain ⟨hl, hs, hi, A, ys, hb, ho, hall⟩ := hs
      exact ⟨Own.from (boxed_own _ _ (fun _ : Unit => _)) _ () X Y row hl hg hr, Own.from (boxed_own _ _ (fun _ : Unit => _)) _ () X Y row hs hg hr, ints_rows hi hg (fun r e => (hr r e).2), A, ys, Own.from (boxed_own _ _ (fun _ : Unit => _)) _ () X Y row hb hg hr, own_rows ho hg (fun r e => (hr r e).2), hall⟩) (ownFrom_below (Nat.le_refl _) (by omega)))
    (fun _ _ _ _ _ hs _ _ => hs)
    ⟨⟨bl, bs, hI0, _, _, bm, ho, fun i h => by simp at h⟩, hB0⟩ ?a1 ?assign ?body ?done ?stop
  case assign =>
    intro l x W K hK
    gi_wp2
    exact hK
  case body =>
    rintro l pre x W ⟨⟨hbl, hbs, hi, A, ys, hb, ho, hall⟩, hB⟩ _
    obtain ⟨b, off, rfl, hb1, hb2, hcx⟩ := ho.1.at_ x.2
    obtain ⟨b0, off0, rfl, _, hb0, hcy⟩ := hi.at_ x.2
    have hfz := ho.2 b off (by have := x.2; omega) rfl x.1 x.2
    have hc1 := hbl.cell
    have hc2 := hbs.cell
    have hc5 := hb.cell
    have hxl := x.2
    have hmx : Try.prog.follows .mixedOrders = true := by kernel_rfl
    have hyb := okL_at HOK.out (k := x.1) (by omega)
    have hsb := at2_bd key x.1
    have hset := set_all (f := fun i => sgn key sign i (xs.getD i 0)) hall (show x.1 < ys.length by rw [ho.1.1]; exact x.2)
    have hev : sgn key sign x.1 (xs.getD x.1 0) = (xs.getD x.1 0 + sign * at2 key x.1 + 991) % 991 := rfl
    have HSET := Lib.hid hset
    have HEV := Lib.hid hev
    clear hset hev hall
    generalize at2 key x.1 = s at hsb HEV ⊢
    generalize hye : xs.getD x.1 0 = y at hyb hcy HEV ⊢
    have HYE := Lib.hid hye
    clear hye
    have hp : -990 ≤ sign * s ∧ sign * s ≤ 990 := by
      obtain rfl | rfl | rfl : sign = -1 ∨ sign = 0 ∨ sign = 1 := by omega
      all_goals omega
    obtain ⟨hp1, hp2⟩ := hp
    obtain ⟨hy1, hy2⟩ := hyb
    gi_wp2
    refine Rg.wpIn_region_still_tail 12 (by rintro ⟨_, _, h⟩; exact h) (by kernel_rfl) hmx (by kernel_rfl) ?_
    simp only [List.take_succ_cons, List.take_zero, List.drop_succ_cons, List.drop_zero]
    repeat still_step
    refine wpStill_nil ?_
    go_wp2
    rw [← HEV.out]
    have hset := HSET.out
    rw [HYE.out] at hset
    have hoo := ho.set_ x.2 (sgn key sign x.1 y)
    refine ⟨((KeepsOthers.setCell _ _ _).trans (KeepsOthers.drew _)).from _, World.cell?_of_block (w := W) (Below.heap_setCell _ _ _ _ (by dsimp only; omega)),
      ⟨(Below.heap_setCell _ _ _ _ (by dsimp only; omega)).trans hbl, (Below.heap_setCell _ _ _ _ (by dsimp only; omega)).trans hbs, hi.keep (by simp [World.setCell, World.drew]) (fun i _ h2 _ => Below.heap_setCell _ _ _ _ (by dsimp only; omega)),
      _, _, (Below.heap_setCell _ _ _ _ (by dsimp only; omega)).trans hb, hoo, hset⟩, (hB.setCell (p := ⟨b, off + x.1, none⟩) (by dsimp only; omega) _).drew⟩
  case done =>
    rintro D ys W hD hall ⟨⟨hbl, hbs, hi, A, zs, hb, ho, hz⟩, hB⟩ hK
    have hc5 := hb.cell
    gi_wp2
    refine ⟨by simp, .inl ⟨_, _, rfl, run_takeDeferred hK, ?_⟩⟩
    obtain rfl : zs = signL xs key sign := all_eq ho.1.1 (signL_len.trans hl) fun i hi => by rw [hz ⟨i, hi⟩ (hall _), signL_getD (by omega)]
    have hg := grownBy_putObj' W D (.deferred none)
    have hr : ∀ r, some D = some r → ∃ o : Obj, W.heap[r]? = some o ∧ o.isCells = false := fun r e => by cases e; exact ⟨_, hK, rfl⟩
    have ho' := own_rows ho hg hr
    have hsz := hg.size
    have hsB := hB.size
    refine ⟨_, results_tmp rfl _ _ _, ?_⟩
    have hml : (signL xs key sign).length = n := signL_len.trans hl
    refine ⟨A, ?_, ?_, hB.trans (belowK_b (w := w) (Nat.le_refl _) W D _ _ (by omega) hK rfl rfl)⟩
    · rw [hml]
      rfl
    · rw [hml]
      have hDl : D < W.heap.size := (Array.getElem?_eq_some_iff.1 hK).1
      exact ho'.mono (by omega) (by omega)
  case stop =>
    rintro D c pre W _ _ h _
    exact h.elim
set_option maxRecDepth 20000 in
theorem withBad (lo hi : Nat) (A0 : Option Addr) (n c0 : Nat) (xs : List Int) (key sign : Int) (w : World) (hx : Ints lo hi w A0 n c0 xs) (hb : okL xs = false ∨ inG key = false) :
    Calls Try.prog 68 #[.slice A0 n c0, .int .i64 key, .int .i64 sign] w (NewIntsT w []) := by
  have HX := Lib.hid hx
  clear hx
  have hB2 : Below w.heap.size w ((w.alloc (.cells #[.slice A0 n c0] 22)).alloc (.cells #[.int .i64 sign] 3)) := ((Below.refl _ w).alloc (Nat.le_refl _) _).alloc (by simp) _
  have HP : Hid (NewIntsT w [] (.returned (.slice (some ⟨((w.alloc (.cells #[.slice A0 n c0] 22)).alloc (.cells #[.int .i64 sign] 3)).heap.size, 0, none⟩) 0 0)) (((w.alloc (.cells #[.slice A0 n c0] 22)).alloc (.cells #[.int .i64 sign] 3)).alloc (.cells #[] 3))) :=
    ⟨_, rfl, Il.Own.nil_ (Nat.zero_le _), hB2.alloc hB2.size _⟩
  have HX2 := Lib.hid (HX.out.below hB2 (Nat.le_refl _))
  clear hB2
  have hs2 : ((w.alloc (.cells #[.slice A0 n c0] 22)).alloc (.cells #[.int .i64 sign] 3)).heap.size = w.heap.size + 1 + 1 := by simp
  rw [hs2] at HP
  clear hs2
  cases hok : okL xs
  · clear hb
    go_enter Try.func68, Try.ntmps68
    go_wp2_with fail
    ((with_reducible refine (listValid _ _ _ _ _ _ _ HX2.out).mono ?_); rintro e w' ⟨rfl, rfl⟩)
    rw [hok]
    clear hok
    go_wp2
    go_ret
    exact HP.out
  · have hg : inG key = false := hb.resolve_left (by rw [hok]; decide)
    clear hb
    go_enter Try.func68, Try.ntmps68
    go_wp2_with fail
    ((with_reducible refine (listValid _ _ _ _ _ _ _ HX2.out).mono ?_); rintro e w' ⟨rfl, rfl⟩)
    rw [hok]
    clear hok
    go_wp2_with fail
    ((with_reducible refine (inRange key _).mono ?_); rintro e w' ⟨rfl, rfl⟩)
    rw [hg]
    clear hg
    go_wp2
    go_ret
    exact HP.out

theorem signL_on {xs : List Int} {key : Int} : signL xs key 1 = onL xs key := by
  unfold signL onL
  apply List.ext_getElem (by simp)
  intro i h1 h2
  simp only [List.getElem_mapIdx, sgn]
  omega
theorem signL_off {xs : List Int} {key : Int} : signL xs key (-1) = offL xs key := by
  unfold signL offL
  apply List.ext_getElem (by simp)
  intro i h1 h2
  simp only [List.getElem_mapIdx, sgn]
  omega

set_option maxRecDepth 20000 in
theorem withOn (lo hi : Nat) (A : Option Addr) (n c : Nat) (xs : List Int) (key : Int) (w : World) (hx : Ints lo hi w A n c xs) :
    Calls Try.prog 68 #[.slice A n c, .int .i64 key, .int .i64 1] w (NewIntsT w (onF xs key)) := by
  cases hok : okL xs
  · rw [onF_no1 hok]; exact withBad lo hi A n c xs key 1 w hx (.inl hok)
  · cases hg : inG key
    · rw [onF_no2 hg]; exact withBad lo hi A n c xs key 1 w hx (.inr hg)
    · rw [onF_yes hok hg, ← signL_on]
      have hk := inG_iff.1 hg
      exact withOk lo hi A n c xs key 1 w hx hok hk.1 hk.2 (by omega) (by omega)
set_option maxRecDepth 20000 in
theorem withOff (lo hi : Nat) (A : Option Addr) (n c : Nat) (xs : List Int) (key : Int) (w : World) (hx : Ints lo hi w A n c xs) :
    Calls Try.prog 68 #[.slice A n c, .int .i64 key, .int .i64 (-1)] w (NewIntsT w (offF xs key)) := by
  cases hok : okL xs
  · rw [offF_no1 hok]; exact withBad lo hi A n c xs key (-1) w hx (.inl hok)
  · cases hg : inG key
    · rw [offF_no2 hg]; exact withBad lo hi A n c xs key (-1) w hx (.inr hg)
    · rw [offF_yes hok hg, ← signL_off]
      have hk := inG_iff.1 hg
      exact withOk lo hi A n c xs key (-1) w hx hok hk.1 hk.2 (by omega) (by omega)

set_option maxRecDepth 20000 in
theorem MaskOnT (lo hi : Nat) (A : Option Addr) (n c : Nat) (xs : List Int) (key : Int) (w : World) (hx : Ints lo hi w A n c xs) :
    Calls Try.prog 26 #[.slice A n c, .int .i64 key] w (NewIntsT w (onF xs key)) := by
  have HX := Lib.hid hx
  clear hx
  go_enter Try.func26, Try.ntmps26
  go_wp2_with fail
  ((with_reducible refine (withOn _ _ _ _ _ _ key w HX.out).mono ?_); rintro e w1 ⟨A1, rfl, ho, hb⟩)
  have HP : Hid (NewIntsT w (onF xs key) (.returned (.slice A1 (onF xs key).length (onF xs key).length)) w1) := ⟨A1, rfl, ho, hb⟩
  clear ho hb
  go_wp2
  go_ret
  exact HP.out
set_option maxRecDepth 20000 in
theorem MaskOn (lo hi : Nat) (A : Option Addr) (n c : Nat) (xs : List Int) (key : Int) (w : World) (hx : Ints lo hi w A n c xs) :
    Calls Try.prog 26 #[.slice A n c, .int .i64 key] w (NewInts w (onF xs key)) := (MaskOnT lo hi A n c xs key w hx).mono fun _ _ h => h.new_

set_option maxRecDepth 20000 in
theorem MaskOffT (lo hi : Nat) (A : Option Addr) (n c : Nat) (xs : List Int) (key : Int) (w : World) (hx : Ints lo hi w A n c xs) :
    Calls Try.prog 42 #[.slice A n c, .int .i64 key] w (NewIntsT w (offF xs key)) := by
  have HX := Lib.hid hx
  clear hx
  go_enter Try.func42, Try.ntmps42
  go_wp2_with fail
  ((with_reducible refine (withOff _ _ _ _ _ _ key w HX.out).mono ?_); rintro e w1 ⟨A1, rfl, ho, hb⟩)
  have HP : Hid (NewIntsT w (offF xs key) (.returned (.slice A1 (offF xs key).length (offF xs key).length)) w1) := ⟨A1, rfl, ho, hb⟩
  clear ho hb
  go_wp2
  go_ret
  exact HP.out
set_option maxRecDepth 20000 in
theorem MaskOff (lo hi : Nat) (A : Option Addr) (n c : Nat) (xs : List Int) (key : Int) (w : World) (hx : Ints lo hi w A n c xs) :
    Calls Try.prog 42 #[.slice A n c, .int .i64 key] w (NewInts w (offF xs key)) := (MaskOffT lo hi A n c xs key w hx).mono fun _ _ h => h.new_


end Im2
end Go.Proofs.Ytdngdmhepjjeeab

/-
  Contracts of the program's chapter 3: tags, by a closure that holds the tag.
-/
namespace Go.Proofs.Ytdngdmhepjjeeab
open Go.RowKit
namespace Im3
open Il Gm Mm Tm Im2

set_option maxRecDepth 20000 in
/-- The block of a slice lies below the world's end. -/
theorem ints_hi {lo hi : Nat} {w : World} {A : Option Addr} {n c : Nat} {xs : List Int} (h : Ints lo hi w A n c xs) : Ints lo w.heap.size w A n c xs :=
  ⟨h.1, h.2.1, h.2.2.1, fun hn => by
    obtain ⟨b, off, e, h1, _, hz, hc⟩ := h.2.2.2 hn
    exact ⟨b, off, e, h1, hz, hz, hc⟩⟩
set_option maxRecDepth 20000 in
theorem tagFrom (start : Int) (w : World) (h0 : 0 ≤ start) (h1 : start ≤ 100000) :
    Calls Try.prog 82 #[.int .i64 start] w fun e w' => e = .returned (.func (.func 84) #[] #[.pointer (some ⟨w.heap.size, 0, none⟩)]) ∧ w' = w.alloc (.cells #[.int .i64 (start % 991)] 3) := by
  go_enter Try.func82, Try.ntmps82
  go_wp2
  go_ret
  exact ⟨rfl, rfl⟩

set_option maxRecDepth 20000 in
/-- The closure over a box b that holds the tag's beginning: it leaves the tag there and returns it. -/
theorem extend (lo hi : Nat) (A : Option Addr) (n c : Nat) (xs : List Int) (key : Int) (b : Nat) (w : World) (hx : Ints lo hi w A n c xs) (hok : okL xs = true) (hb : Boxed w b 3 (.int .i64 (tagTo key xs 0))) (hlb : hi ≤ b) :
    Calls Try.prog 84 #[.slice A n c, .pointer (some ⟨b, 0, none⟩)] w fun e w' => e = .returned (.int .i64 (tagL key xs)) ∧ Below b w w' := by
  have HL := Lib.hid hx.1
  have HX := Lib.hid hx
  have HK := Lib.hid hok
  have HB := Lib.hid hb
  have hn : n ≤ 24 := by rw [← hx.1]; exact (okL_iff.1 hok).2
  clear hx hok hb
  go_enter Try.func84, Try.ntmps84
  go_wp2
  go_loopw [8] (fun i wr => ∃ k : Nat, k ≤ n ∧ i = .int .i64 k ∧ Boxed wr b 3 (.int .i64 (tagTo key xs k)) ∧ Below b w wr) (fun i _ => n - (intOf i).toNat)
  case atStart => exact ⟨0, Nat.zero_le _, rfl, HB.out, Below.refl _ _⟩
  case round =>
    obtain ⟨k, hk, rfl, hB, hW⟩ := hrel
    have HW := Lib.hid hW
    have HBW := Lib.hid hB
    have hcb := hB.cell
    have hfb := hB.frozen
    have hbd := tagTo_bd key xs k
    clear hW hB
    by_cases hlt : k < n
    · obtain ⟨b', off, rfl, _, hb2, hcx⟩ := (HX.out.below' HW.out hlb).at_ hlt
      have hxd := okL_at HK.out (k := k) (by rw [HL.out]; exact hlt)
      have HN := Lib.hid (tagTo_succ key (xs := xs) (k := k) (by rw [HL.out]; exact hlt))
      generalize xs.getD k 0 = x at hcx hxd HN
      generalize tagTo key xs k = t at hbd HN HBW hcb ⊢
      go_wp2
      go_roundw
      case rel => exact ⟨k + 1, by omega, by go_num, by rw [HN.out]; exact HBW.out.set _, HW.out.setCell (Nat.le_refl _) _⟩
      case measure => simp [intOf]; omega
    · have hfin : tagTo key xs k = tagL key xs := tagTo_all key (by rw [HL.out]; omega)
      rw [hfin] at hcb
      clear hfin hbd
      go_wp2
      go_ret
      exact ⟨rfl, HW.out⟩

set_option maxRecDepth 20000 in
theorem TagOf (lo hi : Nat) (A : Option Addr) (n c : Nat) (xs : List Int) (key : Int) (w : World) (hx : Ints lo hi w A n c xs) :
    Calls Try.prog 74 #[.int .i64 key, .slice A n c] w (IntB (tagF key xs) w) := by
  have HX := Lib.hid hx
  have HL := Lib.hid hx.1
  clear hx
  cases hg : inG key
  · rw [tagF_no1 hg]
    go_enter Try.func74, Try.ntmps74
    go_wp2_with fail
    ((with_reducible refine (inRange key w).mono ?_); rintro e w' ⟨rfl, rfl⟩)
    rw [hg]
    clear hg
    go_wp2
    go_ret
    exact ⟨rfl, Below.refl _ _⟩
  · cases hok : okL xs
    · rw [tagF_no2 hok]
      go_enter Try.func74, Try.ntmps74
      go_wp2_with fail
      ((with_reducible refine (inRange key w).mono ?_); rintro e w' ⟨rfl, rfl⟩)
      rw [hg]
      clear hg
      go_wp2_with fail
      ((with_reducible refine (listValid _ _ _ _ _ _ w HX.out).mono ?_); rintro e w' ⟨rfl, rfl⟩)
      rw [hok]
      clear hok
      go_wp2
      go_ret
      exact ⟨rfl, Below.refl _ _⟩
    · rw [tagF_yes hg hok]
      have hk := inG_iff.1 hg
      have hn : n ≤ 24 := by rw [← HL.out]; exact (okL_iff.1 hok).2
      have HOK := Lib.hid hok
      have HI := Lib.hid (show (3 * key + 41 * (n : Int) + 1) % 991 = tagTo key xs 0 by rw [tagTo_zero, HL.out]; rfl)
      go_enter Try.func74, Try.ntmps74
      go_wp2_with fail
      ((with_reducible refine (inRange key w).mono ?_); rintro e w' ⟨rfl, rfl⟩)
      rw [hg]
      clear hg
      go_wp2_with fail
      ((with_reducible refine (listValid _ _ _ _ _ _ w HX.out).mono ?_); rintro e w' ⟨rfl, rfl⟩)
      rw [hok]
      clear hok
      go_wp2_with fail
      ((with_reducible refine (tagFrom _ w (by omega) (by omega)).mono ?_); rintro e w' ⟨rfl, rfl⟩)
      rw [HI.out]
      have hbox := Boxed.new w 3 (.int .i64 (tagTo key xs 0))
      have hbl : Below w.heap.size w (w.alloc (.cells #[.int .i64 (tagTo key xs 0)] 3)) := (Below.refl _ w).alloc (Nat.le_refl _) _
      have HX2 := Lib.hid (ints_hi HX.out |>.below hbl (Nat.le_refl _))
      generalize w.alloc (.cells #[.int .i64 (tagTo key xs 0)] 3) = w1 at hbox hbl HX2 ⊢
      have HBX := Lib.hid hbox
      have HBL := Lib.hid hbl
      clear hbox hbl
      go_wp2_with fail
      ((with_reducible refine (extend _ _ _ _ _ _ key w.heap.size w1 HX2.out HOK.out HBX.out (Nat.le_refl _)).mono ?_); rintro e w2 ⟨rfl, hw2⟩)
      have HW2 := Lib.hid hw2
      clear hw2
      go_wp2
      go_ret
      exact ⟨rfl, HBL.out.trans HW2.out⟩

set_option maxRecDepth 20000 in
theorem TagCheck (lo hi : Nat) (A : Option Addr) (n c : Nat) (xs : List Int) (key tag : Int) (w : World) (hx : Ints lo hi w A n c xs) :
    Calls Try.prog 36 #[.int .i64 key, .slice A n c, .int .i64 tag] w (BoolB (tagC key xs tag) w) := by
  have HX := Lib.hid hx
  clear hx
  by_cases h0 : 0 ≤ tag
  · by_cases he : tagF key xs = tag
    · have hb : (tag == tagF key xs) = true := by simpa using he.symm
      rw [tagC_iff.2 ⟨h0, he⟩]
      clear he
      go_enter Try.func36, Try.ntmps36
      go_wp2_with fail
      ((with_reducible refine (TagOf _ _ _ _ _ _ key w HX.out).mono ?_); rintro e w' ⟨rfl, hw⟩)
      have HW := Lib.hid hw
      clear hw
      go_wp2
      go_ret
      exact ⟨rfl, HW.out⟩
    · have hb : (tag == tagF key xs) = false := by simpa using fun h => he h.symm
      rw [tagC_no he]
      clear he
      go_enter Try.func36, Try.ntmps36
      go_wp2_with fail
      ((with_reducible refine (TagOf _ _ _ _ _ _ key w HX.out).mono ?_); rintro e w' ⟨rfl, hw⟩)
      have HW := Lib.hid hw
      clear hw
      go_wp2
      go_ret
      exact ⟨rfl, HW.out⟩
  · have hd : decide (0 ≤ tag) = false := by simpa using h0
    have hc : tagC key xs tag = false := by simp [tagC, h0]
    rw [hc]
    clear h0 hc
    go_enter Try.func36, Try.ntmps36
    go_wp2
    go_ret
    exact ⟨rfl, Below.refl _ _⟩

end Im3
end Go.Proofs.Ytdngdmhepjjeeab

/-
  Contracts of the program's chapter 4: the body of a letter as an array, the letter of a body.
-/
namespace Go.Proofs.Ytdngdmhepjjeeab
open Go.RowKit
namespace Im4
open Il Gm Mm Tm Lm Im2 Im3

def vals (l : List Int) : List Value := l.map (Value.int .i64)
theorem sizeInt : (Try.prog.info? 3).map (·.size) = some 1 := by kernel_rfl
theorem underInts : Try.prog.underlying 22 = some (.slice 3) := by kernel_rfl
/-- A block that holds a list, as a slice of the whole of it. -/
theorem own_block {w : World} {b : Nat} {l : List Int} {t : TypeId} (h : w.heap[b]? = some (.cells (vals l).toArray t (0, 0))) (hl : l.length ≤ maxLen) :
    Il.Own b w.heap.size w (some ⟨b, 0, none⟩) l.length l.length l := by
  have hlt := (Array.getElem?_eq_some_iff.1 h).1
  refine ⟨⟨rfl, Nat.le_refl _, hl, fun _ => ⟨b, 0, rfl, Nat.le_refl _, hlt, hlt, fun j hj => ?_⟩⟩, fun b' off' _ e j _ => ?_⟩
  · rw [cell_of_row _ _ _ _ _ _ h]
    simp [vals, List.getElem?_eq_getElem hj]
  · simp only [Option.some.injEq, Addr.mk.injEq, and_true] at e
    obtain ⟨rfl, rfl⟩ := e
    simp [World.frozen?, h]

/-- The array that bodyOf returns. -/
def bodyV (xs : List Int) : List Int := bif packOk xs then packL xs else [0, 0, 0, 0, 0, 0]
def BodyB (xs : List Int) (w : World) (e : Ending) (w' : World) : Prop :=
  e = .returned (.tuple #[.agg (vals (bodyV xs)).toArray, .bool (packOk xs)]) ∧ Below w.heap.size w w'

theorem bodyB_no {xs : List Int} {w w' : World} (hp : packOk xs = false) (hb : Below w.heap.size w w') :
    BodyB xs w (.returned (.tuple #[.agg (vals [0, 0, 0, 0, 0, 0]).toArray, .bool false])) w' := by
  unfold BodyB bodyV; rw [hp]; exact ⟨rfl, hb⟩
theorem bodyB_yes {xs : List Int} {w w' : World} (hp : packOk xs = true) (hb : Below w.heap.size w w') :
    BodyB xs w (.returned (.tuple #[.agg (vals (packL xs)).toArray, .bool true])) w' := by
  unfold BodyB bodyV; rw [hp]; exact ⟨rfl, hb⟩
/-- The row behind the copy of a letter: the length, the letter, zeros. -/
theorem splice_body {xs : List Int} {n : Nat} (hl : xs.length = n) (h4 : n ≤ 4) : splice (vals [(n : Int), 0, 0, 0, 0, 0]) 1 (vals xs) = vals (headL xs ++ [0]) := by
  subst hl
  match xs, h4 with
  | [], _ => rfl
  | [_], _ => rfl
  | [_, _], _ => rfl
  | [_, _, _], _ => rfl
  | [_, _, _, _], _ => rfl
  | _ :: _ :: _ :: _ :: _ :: _, h => simp at h

set_option maxRecDepth 20000 in
theorem bodyOf (lo hi : Nat) (A : Option Addr) (n c : Nat) (xs : List Int) (w : World) (hx : Ints lo hi w A n c xs) :
    Calls Try.prog 67 #[.slice A n c] w (BodyB xs w) := by
  have HL := Lib.hid hx.1
  have hb0 : Below w.heap.size w (w.alloc (.cells #[.int .i64 0, .int .i64 0, .int .i64 0, .int .i64 0, .int .i64 0, .int .i64 0] 76)) := (Below.refl _ w).alloc (Nat.le_refl _) _
  have HX1 := Lib.hid ((ints_hi hx).below hb0 (Nat.le_refl _))
  by_cases h4 : 4 < n
  · have hp : packOk xs = false := by
      cases h : packOk xs
      · rfl
      · have := (packOk_iff.1 h).2; rw [hx.1] at this; omega
    have HF := Lib.hid (bodyB_no hp hb0)
    clear hx hp hb0 HX1
    go_enter Try.func67, Try.ntmps67
    go_wp2
    refine bodyPost_ret (v := .tuple #[.agg (vals [0, 0, 0, 0, 0, 0]).toArray, .bool false]) ?_ rfl HF.out
    rw [results_cell_tmp rfl]
    go_simp
    simp [vals]
  · cases hok : okL xs
    · have hp : packOk xs = false := by simp [packOk, hok]
      have HF := Lib.hid (bodyB_no hp hb0)
      clear hx hp hb0
      go_enter Try.func67, Try.ntmps67
      go_wp2_with fail
      ((with_reducible refine (listValid _ _ _ _ _ _ _ HX1.out).mono ?_); rintro e w' ⟨rfl, rfl⟩)
      rw [hok]
      clear hok
      go_wp2
      refine bodyPost_ret (v := .tuple #[.agg (vals [0, 0, 0, 0, 0, 0]).toArray, .bool false]) ?_ rfl HF.out
      rw [results_cell_tmp rfl]
      go_simp
      simp [vals]
    · have hp : packOk xs = true := packOk_iff.2 ⟨hok, by rw [hx.1]; omega⟩
      have HP := Lib.hid hp
      have hn4 : n ≤ 4 := by omega
      clear hx hp hb0 h4
      go_enter Try.func67, Try.ntmps67
      go_wp2_with fail
      ((with_reducible refine (listValid _ _ _ _ _ _ _ HX1.out).mono ?_); rintro e w' ⟨rfl, rfl⟩)
      rw [hok]
      clear hok
      go_wp2_with (with_reducible refine wpList_copy_splice rfl _ _ _ _ rfl 3 underInts sizeInt _ _ _ _ _ _ rfl rfl (w.heap.size + 1) 1 (vals [(n : Int), 0, 0, 0, 0, 0]) 76 ?hg (vals xs) ?hn ?hpos ?hfit ?h1 (w.heap.size + 1) (w.alloc (.cells #[.int .i64 0, .int .i64 0, .int .i64 0, .int .i64 0, .int .i64 0, .int .i64 0] 76)) ?hb ?hBg ?h)
      case hg => simpa [vals] using heap_alloc_new (w.alloc (.cells #[.int .i64 0, .int .i64 0, .int .i64 0, .int .i64 0, .int .i64 0, .int .i64 0] 76)) (.cells (vals [(n : Int), 0, 0, 0, 0, 0]).toArray 76)
      case hn => simp only [vals, List.length_map, HL.out]; exact (Nat.min_eq_left (by omega)).symm
      case hpos =>
        intro hpos
        have hn0 : 0 < n := by rw [← HL.out]; simpa [vals] using hpos
        obtain ⟨b, off, e, _, hb, hz, hc⟩ := HX1.out.2.2.2 hn0
        refine ⟨⟨b, off, none⟩, e, fun j v hv => ?_⟩
        have hj : j < n := by
          have := (List.getElem?_eq_some_iff.1 hv).1
          simpa [vals, HL.out] using this
        rw [Addr.add_mid, World.cell?_alloc_lt _ _ _ hz, hc j hj]
        simp only [vals, List.getElem?_map, Option.map_eq_some_iff] at hv
        obtain ⟨y, hy, rfl⟩ := hv
        rw [List.getD_eq_getElem?_getD, hy]; rfl
      case hfit => simp only [vals, List.length_map, HL.out, List.length_cons, List.length_nil]; omega
      case h1 => intro v hv; obtain ⟨y, _, rfl⟩ := List.mem_map.1 hv; rfl
      case hb => exact (Below.refl _ _).alloc (by simp) _
      case hBg => exact Nat.le_refl _
      case h =>
      intro w1 hg1 hB1
      have hg2 := hg1.out
      rw [splice_body HL.out hn4] at hg2
      obtain ⟨h0, h1, h2, h3, h4, hh⟩ : ∃ h0 h1 h2 h3 h4, headL xs = [h0, h1, h2, h3, h4] := by
        have := headL_len (xs := xs) (by rw [HL.out]; exact hn4)
        match headL xs, this with
        | [h0, h1, h2, h3, h4], _ => exact ⟨_, _, _, _, _, rfl⟩
      have HH := Lib.hid hh
      rw [hh] at hg2
      have HG := Lib.hid hg2
      have HB := Lib.hid hB1
      have hlt := (Array.getElem?_eq_some_iff.1 hg2).1
      have HI : Hid (Ints w.heap.size w1.heap.size w1 (some ⟨w.heap.size + 1, 0, none⟩) 5 6 (headL xs)) := by
        refine ⟨by rw [HH.out]; rfl, by omega, by simp [maxLen], fun _ => ⟨_, 0, rfl, by omega, hlt, hlt, fun j hj => ?_⟩⟩
        rw [cell_of_row _ _ _ _ _ _ HG.out, HH.out]
        obtain rfl | rfl | rfl | rfl | rfl : j = 0 ∨ j = 1 ∨ j = 2 ∨ j = 3 ∨ j = 4 := by omega
        all_goals simp [vals]
      have HT := Lib.hid (tagF_yes (key := 1) (xs := headL xs) (by decide) (headL_ok HP.out))
      clear hg1 hg2 hB1 hh
      go_wp2_with fail
      ((with_reducible refine (TagOf _ _ _ _ _ (headL xs) 1 _ HI.out).mono ?_); rintro e w2 ⟨rfl, hW⟩)
      rw [HT.out]
      have k := fun j => cell_of_row w2 (w.heap.size + 1) j _ _ _ ((hW.block _ hlt).trans HG.out)
      have hz := (HB.out.block w.heap.size (by omega)).trans (heap_alloc_new w _)
      have hzl : w.heap.size < w1.heap.size := by omega
      have kz := fun j => cell_of_row w2 w.heap.size j _ _ _ ((hW.block _ hzl).trans hz)
      have f1 : ∀ j, w2.frozen? ⟨w.heap.size + 1, j, none⟩ = false := fun j => by simp [World.frozen?, (hW.block _ hlt).trans HG.out]
      have f0 : ∀ j, w2.frozen? ⟨w.heap.size, j, none⟩ = false := fun j => by simp [World.frozen?, (hW.block _ hzl).trans hz]
      have c0 := k 0
      have c1 := k 1
      have c2 := k 2
      have c3 := k 3
      have c4 := k 4
      have c5 := k 5
      have d0 := kz 0
      have d1 := kz 1
      have d2 := kz 2
      have d3 := kz 3
      have d4 := kz 4
      have d5 := kz 5
      simp [vals] at c0 c1 c2 c3 c4 c5 d0 d1 d2 d3 d4 d5
      have HW := Lib.hid hW
      clear k kz hz hW
      have HK : Hid (vals (packL xs) = [.int .i64 h0, .int .i64 h1, .int .i64 h2, .int .i64 h3, .int .i64 h4, .int .i64 (tagL 1 (headL xs))]) := show _ = _ by unfold packL; rw [HH.out]; rfl
      generalize tagL 1 (headL xs) = tg at HT HK ⊢
      go_wp2
      refine bodyPost_ret (v := .tuple #[.agg (vals (packL xs)).toArray, .bool true]) ?_ rfl (bodyB_yes HP.out ?_)
      · rw [results_cell_tmp rfl, HK.out]
        go_simp
      · have q0 : Below w.heap.size w (w.alloc (.cells #[.int .i64 0, .int .i64 0, .int .i64 0, .int .i64 0, .int .i64 0, .int .i64 0] 76)) := (Below.refl _ w).alloc (Nat.le_refl _) _
        have q1 := (q0.trans (HB.out.mono (by omega))).trans (HW.out.mono (by omega))
        exact ((((((q1.setCell (by simp) _).setCell (by simp) _).setCell (by simp) _).setCell (by simp) _).setCell (by simp) _).setCell (by simp) _).setCell (by simp) _

theorem six {xs : List Int} (h : xs.length = 6) : ∃ a0 a1 a2 a3 a4 a5, xs = [a0, a1, a2, a3, a4, a5] := by
  match xs, h with
  | [a0, a1, a2, a3, a4, a5], _ => exact ⟨_, _, _, _, _, _, rfl⟩
theorem bodyV_len (xs : List Int) : (bodyV xs).length = 6 := by
  unfold bodyV
  cases h : packOk xs
  · rfl
  · exact packL_len (packOk_iff.1 h).2
theorem bodyV_yes {xs : List Int} (h : packOk xs = true) : bodyV xs = packL xs := by simp [bodyV, h]

set_option maxRecDepth 20000 in
theorem LetterPack (lo hi : Nat) (A : Option Addr) (n c : Nat) (xs : List Int) (w : World) (hx : Ints lo hi w A n c xs) :
    Calls Try.prog 25 #[.slice A n c] w (PairB (packF xs) (packOk xs) w) := by
  have HX := Lib.hid hx
  clear hx
  obtain ⟨a0, a1, a2, a3, a4, a5, hv⟩ := six (bodyV_len xs)
  have HV := Lib.hid hv
  have HA : Hid ((vals (bodyV xs)).toArray = #[.int .i64 a0, .int .i64 a1, .int .i64 a2, .int .i64 a3, .int .i64 a4, .int .i64 a5]) := show _ = _ by rw [HV.out]; rfl
  clear hv
  go_enter Try.func25, Try.ntmps25
  go_wp2_with fail
  ((with_reducible refine (bodyOf _ _ _ _ _ _ _ HX.out).mono ?_); rintro e w1 ⟨rfl, hW⟩)
  rw [HA.out]
  have HW := Lib.hid hW
  clear hW
  cases hp : packOk xs
  · have HP := Lib.hid hp
    clear hp
    go_wp2
    go_ret2
    rw [packF_no HP.out, HP.out]
    have hb1 := HW.out.alloc HW.out.size (.cells #[.int .i64 a0, .int .i64 a1, .int .i64 a2, .int .i64 a3, .int .i64 a4, .int .i64 a5] 76)
    exact ⟨_, _, rfl, Own.nil_ (Nat.zero_le _), hb1.alloc hb1.size _⟩
  · have HP := Lib.hid hp
    clear hp
    go_wp2
    go_ret2
    have e1 : packF xs = [a0, a1, a2, a3, a4, a5] := by rw [packF_yes HP.out, ← bodyV_yes HP.out, HV.out]
    rw [e1, HP.out]
    have hb1 := HW.out.alloc HW.out.size (.cells (vals [a0, a1, a2, a3, a4, a5]).toArray 76)
    exact ⟨_, _, rfl, (own_block (l := [a0, a1, a2, a3, a4, a5]) (heap_alloc_new w1 _) (by simp [maxLen])).mono HW.out.size (Nat.le_refl _), hb1⟩


end Im4
end Go.Proofs.Ytdngdmhepjjeeab
