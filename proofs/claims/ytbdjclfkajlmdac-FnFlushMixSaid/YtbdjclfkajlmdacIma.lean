/-
  Several parts of the proof in one text.
-/
import Derived.Test.YtbdjclfkajlmdacChecked
import Derived.Test.YtbdjclfkajlmdacIla
import Derived.Test.YtbdjclfkajlmdacPl
import Derived.BigQuiet
import Derived.Deep.RegionLaw
import Derived.RangeFuncNested
import Derived.RangeFuncBound
import Derived.RangeFuncCalls
import Derived.RangeFuncLeaves
import Derived.Shelf.Abstract
import Derived.Shelf.RegionOpen
import Derived.WalkKit
import Derived.OwnWalkIn
import Derived.TacticsInMore
import Derived.LoopNIn
import Derived.LoopIn
import Derived.StillTailTactics
import Derived.OrdersIn
import Derived.Laws.CopyOwn
import Derived.Laws.ResultCell
import Derived.Deep.MidRow
/-
  The program's iterator over a stream: its contract, and the checks of lists and of keys.
-/
namespace Go.Proofs.Ytbdjclfkajlmdac
open Go.RowKit Go.Shelf
namespace Im2
open Il (Ints NewInts)
open Gm Mm
attribute [local go_sem] Oper.semAt_some

set_option maxRecDepth 20000 in
theorem inRange_yes (n : Int) (w : World) (h1 : 1 ≤ n) (h2 : n ≤ 996) :
    Calls Try.prog 29 #[.int .i64 n] w fun e w' => e = .returned (.bool true) ∧ w = w' := by
  go_enter Try.func29, Try.ntmps29
  go_wp2
  go_ret
  exact ⟨rfl, rfl⟩
set_option maxRecDepth 20000 in
theorem inRange_no (n : Int) (w : World) (h : n < 1 ∨ 996 < n) :
    Calls Try.prog 29 #[.int .i64 n] w fun e w' => e = .returned (.bool false) ∧ w = w' := by
  rcases h with h | h
  · go_enter Try.func29, Try.ntmps29
    go_wp2
    go_ret
    exact ⟨rfl, rfl⟩
  · have h0 : 1 ≤ n := by omega
    have h0d : decide (n ≤ 996) = false := by simp; omega
    go_enter Try.func29, Try.ntmps29
    go_wp2
    go_ret
    exact ⟨rfl, rfl⟩
set_option maxRecDepth 20000 in
theorem inRange (n : Int) (w : World) :
    Calls Try.prog 29 #[.int .i64 n] w fun e w' => e = .returned (.bool (inG n)) ∧ w = w' := by
  by_cases h : 1 ≤ n ∧ n ≤ 996
  · rw [inG_iff.2 h]; exact inRange_yes n w h.1 h.2
  · rw [inG_no.2 h]; exact inRange_no n w (by omega)

set_option maxRecDepth 20000 in
theorem listValid (lo hi : Nat) (A : Option Addr) (n c : Nat) (xs : List Int) (w : World) (hx : Ints lo hi w A n c xs) :
    Calls Try.prog 60 #[.slice A n c] w fun e w' => e = .returned (.bool (okL xs)) ∧ w = w' := by
  have hc1 := hx.2.2.1
  have hc2 := hx.2.1
  have HL := Lib.hid hx.1
  unfold maxLen at hc1
  have HX := Lib.hid hx
  clear hx
  by_cases h24 : n ≤ 24
  · have hd24 : decide (24 < (n : Int)) = false := by simp; omega
    go_enter Try.func60, Try.ntmps60
    go_wp2
    go_loop [10] (fun i => ∃ k : Nat, k ≤ n ∧ i = .int .i64 k ∧ okTo xs k) (fun i => n - (intOf i).toNat)
    case atStart => exact ⟨0, Nat.zero_le _, rfl, okTo_zero _⟩
    case round =>
      obtain ⟨k, hk, rfl, hT⟩ := hrel
      have HT := Lib.hid hT
      clear hT
      by_cases hlt : k < n
      · obtain ⟨b, off, rfl, _, _, hcx⟩ := HX.out.at_ hlt
        generalize hxe : xs.getD k 0 = x at hcx
        have HXE := Lib.hid hxe
        clear hxe
        cases hin : inN x
        · have hno := inN_no.1 hin
          have hfin : okL xs = false := okL_bad (k := k) (by rw [HL.out]; exact hlt) (by rw [HXE.out]; exact hin)
          have HF := Lib.hid hfin
          clear hfin hin
          by_cases h0 : x < 0
          · clear hno
            go_wp2
            go_ret
            rw [HF.out]
            exact ⟨rfl, rfl⟩
          · have h1 : 0 ≤ x := by omega
            have h2 : 991 ≤ x := by omega
            clear hno h0
            go_wp2
            go_ret
            rw [HF.out]
            exact ⟨rfl, rfl⟩
        · have hyes := inN_iff.1 hin
          have HN := Lib.hid (okTo_succ HT.out (by rw [HXE.out]; exact hin))
          obtain ⟨h1, h2⟩ := hyes
          have h3 : x < 991 := by omega
          clear hin h2
          go_wp2
          go_round
          case rel => exact ⟨k + 1, by omega, by go_num, HN.out⟩
          case measure => simp [intOf]; omega
      · have hkn : k = n := by omega
        have hfin : okL xs = decide (n ≤ 24) := by
          rw [← HL.out]
          exact okL_of_to (by rw [HL.out, ← hkn]; exact HT.out)
        have HF := Lib.hid hfin
        clear hfin hkn
        go_wp2
        go_ret
        rw [HF.out, decide_eq_true h24]
        exact ⟨rfl, rfl⟩
  · have hfin : okL xs = false := by
      unfold okL
      rw [decide_eq_false (by rw [HL.out]; exact h24), Bool.and_false]
    have HF := Lib.hid hfin
    have hd24 : decide (24 < (n : Int)) = true := by simp; omega
    clear hfin h24
    go_enter Try.func60, Try.ntmps60
    go_wp2
    go_ret
    rw [HF.out]
    exact ⟨rfl, rfl⟩

end Im2
end Go.Proofs.Ytbdjclfkajlmdac

/-
  A region that draws its order, of plain operations alone, inside a fence: by the same region outside of it. Nothing of any program.
-/
namespace Go.Proofs.Ytbdjclfkajlmdac
namespace Rg
open Go

/-- An operation that neither calls nor defers nor communicates. -/
def calm (o : Oper) : Bool :=
  match o.op with
  | .move _ | .assign _ | .load _ _ | .store _ _ _ | .binOp _ _ _ _ _ | .unOp _ _ _ | .indexAddr _ _ _ => true
  | _ => false

section
variable {F : Fence} {n : Nat} {P : Program} {ops : Array Oper} {Q : Exit → Act → World → Prop} {md : Region.Mode} {o : Oper}

/-- What such an operation may come to. -/
def plain : Result Next → Prop
  | .ok (.value _) _ => True
  | .ok .skip _ => True
  | .ok _ _ => False
  | .halt _ _ => True

theorem plain_value (s : Sem Value) (w : World) : plain ((do pure (.value (← s)) : Sem Next).run P w) := by
  simp only [Sem.run_bind]
  cases s.run P w <;> simp [plain, Result.andThen]
theorem plain_skip (s : Sem Unit) (w : World) : plain ((do s; pure .skip : Sem Next).run P w) := by
  simp only [Sem.run_bind]
  cases s.run P w <;> simp [plain, Result.andThen]

theorem calm_plain (h : calm o = true) (ρ : Operand → Value) (w : World) : plain ((execOp ρ o).run P w) := by
  unfold calm at h
  unfold execOp
  split at h
  all_goals first | (cases h; done) | (rename_i ho; simp only [ho]; first | exact plain_value _ _ | exact plain_skip _ _ | (simp [plain]; done))
theorem calm_about (h : calm o = true) (ρ : Operand → Value) (w : World) : o.about P w ρ = none := by
  unfold calm at h
  unfold Oper.about
  split at h
  all_goals first | (cases h; done) | (rename_i ho; simp only [ho]; done)
theorem calm_sem (h : calm o = true) (ro : Option Nat) (ρ : Operand → Value) : o.semAt ro ρ = execOp ρ o := by
  refine Oper.semAt_eq ro ρ o fun c hc => ?_
  unfold calm at h
  rw [hc] at h
  cases h
theorem wpIn_of_wp (h : calm o = true) {a : Act} {w : World} {K : Act → World → Prop} (hh : o.wp P a w K Q) : o.wpIn F n P a w K Q := by
  refine ⟨fun f hf => (by rw [calm_about h] at hf; cases hf), ?_⟩
  rw [calm_sem h]
  have hp := calm_plain (P := P) h a.eval w
  unfold Oper.wp at hh
  generalize (execOp a.eval o).run P w = r at hp hh ⊢
  match r, hp, hh with
  | .ok (.value v) w', _, hh => exact hh
  | .ok .skip w', _, hh => exact hh
  | .halt (.panic v) w', _, hh => exact hh

theorem wpOpIn_of_wpOp {i : Nat} {K : Act → World → Prop} {a : Act} {w : World} (hQ : ¬ LetsOut Q) (hc : ops.all calm = true) (h : wpOp P ops Q i K a w) : wpOpIn F n P ops Q i K a w := by
  unfold wpOp at h
  unfold wpOpIn
  cases ho : ops[i]? with
  | none => simp only [ho] at h ⊢; exact h
  | some o =>
    have hco : calm o = true := by
      obtain ⟨hi, rfl⟩ := Array.getElem?_eq_some_iff.1 ho
      exact Array.all_eq_true.1 hc i hi
    simp only [ho] at h ⊢
    split
    · rename_i hw
      simp only [hw, if_true] at h
      rcases h with h | h
      · exact wpIn_of_wp hco h
      · exact absurd h.2 hQ
    · rename_i hw
      simp only [hw] at h
      exact ⟨fun f hf => (by rw [calm_about hco] at hf; cases hf), h⟩

theorem wpAnyIn_of_wpAny (hQ : ¬ LetsOut Q) (hc : ops.all calm = true) : ∀ (fuel : Nat) (listed : Array Bool) (a : Act) (w : World), wpAny P md ops Q fuel listed a w → wpAnyIn F n P md ops Q fuel listed a w
  | 0, _, _, _, h => h
  | fuel + 1, _, _, _, h => ⟨h.1, fun i hi => wpOpIn_of_wpOp hQ hc (wpOp_mono (fun a' w' h' => wpAnyIn_of_wpAny hQ hc fuel _ a' w' h') (h.2 i hi))⟩

theorem wpIn_region_still_tail {id : Nat} {a : Act} {w : World} {l : List Oper} (m : Nat) (hQ : ¬ LetsOut Q) (hc : l.toArray.all calm = true) (hm : P.follows .mixedOrders = true) (hB : Region.lexTailB .any l.toArray m = true)
    (h : wpStill P l.toArray { w with drawn := w.drawn + 1 } (fun a' => wpList P l.toArray Q (l.drop m) a' { w with drawn := w.drawn + 1 }) (l.take m) a) : (Code.region id l.toArray true).wpIn F n P Q a w := by
  simp only [Region.lexTailB, Bool.and_eq_true, decide_eq_true_eq] at hB
  obtain ⟨⟨⟨⟨hsel, hn⟩, hs⟩, hch⟩, hlex⟩ := hB
  have hn' : m < l.length := by simpa using hn
  have htl : (l.take m).length = m := by simp; omega
  have hdl : (l.drop m).length = l.toArray.size - m := by simp
  have inv0 : HeadInv .any l.toArray m (Array.replicate l.toArray.size false) :=
    ⟨by simp, fun j oj _ hl => (by rw [getD_replicate_false] at hl; cases hl), fun t _ ht => getD_in (by simpa using ht) (getD_replicate_false _ _)⟩
  have H := wpAnyL_lex (md := .any) (g := l.toArray.size - m) hsel hs hch hn (l.take m) 0 _ a (fun j hj => by
    have hj' : j < m := by rw [htl] at hj; exact hj
    simp [hj']) (by simpa using htl) inv0 (by rw [htl]; exact hlex) h
  refine wpIn_region_any hm (wpAnyIn_of_wpAny hQ hc _ _ _ _ ?_)
  have := wpAny_of_head (Q' := Q) (g := l.toArray.size - m) (fun listed a' hL => by
    have := wpAny_of_seq (md := .any) (Q' := Q) (l.drop m) m listed a' { w with drawn := w.drawn + 1 } (fun j => by simp [List.getElem?_drop]) (by rw [hdl]; exact hL.1) hL.2
    rwa [hdl] at this) _ _ _ H
  rw [htl, show m + (l.toArray.size - m) = l.toArray.size by omega] at this
  exact this
end
end Rg
end Go.Proofs.Ytbdjclfkajlmdac

/-
  Contracts of the program's chapter 2: streams, masking on and off.
-/
namespace Go.Proofs.Ytbdjclfkajlmdac
open Go.RowKit Go.Shelf
namespace Im2
open Il (Ints NewInts NewIntsT infoInt own_made acc_new)
open Gm Mm
attribute [local go_sem] Oper.semAt_some

theorem ints_rows {lo hi : Nat} {w w' : World} {A : Option Addr} {n c : Nat} {xs : List Int} {row : Option Nat} (h : Ints lo hi w A n c xs) (hg : w.grownBy w' row) (hr : ∀ r, row = some r → ∃ o : Obj, w.heap[r]? = some o ∧ o.isCells = false) : Ints lo hi w' A n c xs :=
  ⟨h.1, h.2.1, h.2.2.1, fun hn => by
    obtain ⟨b, off, e, h1, h2, hz, hc⟩ := h.2.2.2 hn
    exact ⟨b, off, e, h1, h2, Nat.lt_of_lt_of_le hz hg.size, fun j hj => cell_kept (hc j hj) hg hr⟩⟩
theorem own_rows {lo hi : Nat} {w w' : World} {A : Option Addr} {n c : Nat} {xs : List Int} {row : Option Nat} (h : Il.Own lo hi w A n c xs) (hg : w.grownBy w' row) (hr : ∀ r, row = some r → ∃ o : Obj, w.heap[r]? = some o ∧ o.isCells = false) : Il.Own lo hi w' A n c xs :=
  ⟨ints_rows h.1 hg hr, fun b off hn e j hj => by
    obtain ⟨b', off', e', h1, h2, hz, hc⟩ := h.1.2.2.2 hn
    rw [e'] at e
    simp only [Option.some.injEq, Addr.mk.injEq, and_true] at e
    obtain ⟨rfl, rfl⟩ := e
    exact (frozen_kept (hc j hj) hg hr).trans (h.2 _ _ hn e' j hj)⟩

theorem set_all {f : Nat → Int} {n : Nat} {pre : List (Fin n)} {x : Fin n} {ys : List Int} (h : ∀ i : Fin n, i ∈ pre → ys.getD i.1 0 = f i.1) (hx : x.1 < ys.length) : ∀ i : Fin n, i ∈ pre ++ [x] → (ys.set x.1 (f x.1)).getD i.1 0 = f i.1 := fun i hi => by
  by_cases e : i.1 = x.1
  · rw [e, List.getD_eq_getElem?_getD, List.getElem?_set_self hx]; rfl
  · rw [List.getD_eq_getElem?_getD, List.getElem?_set_ne (by omega), ← List.getD_eq_getElem?_getD]
    rcases List.mem_append.1 hi with h1 | h1
    · exact h i h1
    · simp at h1; exact absurd (congrArg Fin.val h1) e
theorem all_eq {n : Nat} {xs ys : List Int} (hx : xs.length = n) (hy : ys.length = n) (h : ∀ i, i < n → xs.getD i 0 = ys.getD i 0) : xs = ys := by
  apply List.ext_getElem (by omega)
  intro i h1 h2
  have := h i (by omega)
  rw [List.getD_eq_getElem?_getD, List.getD_eq_getElem?_getD, List.getElem?_eq_getElem h1, List.getElem?_eq_getElem h2] at this
  simpa using this

theorem mapIdx_getD {f : Nat → Int → Int} {xs : List Int} {i : Nat} (h : i < xs.length) : (xs.mapIdx f).getD i 0 = f i (xs.getD i 0) := by
  rw [List.getD_eq_getElem?_getD, List.getD_eq_getElem?_getD, List.getElem?_eq_getElem (by simpa using h), List.getElem?_eq_getElem h]
  simp

/-- One number with the stream added or subtracted; a list of them. -/
def sgn (key sign : Int) (i : Nat) (x : Int) : Int := (x + sign * at2 key i + 991) % 991
def signL (xs : List Int) (key sign : Int) : List Int := xs.mapIdx (sgn key sign)
theorem signL_len {xs : List Int} {key sign : Int} : (signL xs key sign).length = xs.length := by simp [signL]
theorem signL_getD {xs : List Int} {key sign : Int} {i : Nat} (h : i < xs.length) : (signL xs key sign).getD i 0 = sgn key sign i (xs.getD i 0) := mapIdx_getD h

/-- What the loop of withStream has written: the boxes of the list, the sign and the new list. -/
def WInv (w : World) (A0 : Option Addr) (c0 : Nat) (xs : List Int) (sign : Int) (f : Nat → Int) (n : Nat) (pre : List (Fin n)) (W : World) : Prop :=
  Boxed W w.heap.size 23 (.slice A0 n c0) ∧ Boxed W (w.heap.size + 1) 3 (.int .i64 sign) ∧ Ints 0 w.heap.size W A0 n c0 xs ∧
  ∃ A ys, Boxed W (w.heap.size + 1 + 1 + 1) 23 (.slice A n n) ∧ Il.Own (w.heap.size + 1 + 1) (w.heap.size + 1 + 1 + 1) W A n n ys ∧ ∀ i : Fin n, i ∈ pre → ys.getD i.1 0 = f i.1

theorem signL_on {xs : List Int} {key : Int} : signL xs key 1 = onL xs key := by
  unfold signL onL
  apply List.ext_getElem (by simp)
  intro i h1 h2
  simp only [List.getElem_mapIdx, sgn]
  omega
theorem signL_off {xs : List Int} {key : Int} : signL xs key (-1) = offL xs key := by
  unfold signL offL
  apply List.ext_getElem (by simp)
  intro i h1 h2
  simp only [List.getElem_mapIdx, sgn]
  omega




end Im2
end Go.Proofs.Ytbdjclfkajlmdac

/-
  Contracts of the program's chapter 3: tags, by a closure that holds the tag.
-/
namespace Go.Proofs.Ytbdjclfkajlmdac
open Go.RowKit
namespace Im3
open Il Gm Mm Tm Im2




end Im3
end Go.Proofs.Ytbdjclfkajlmdac

/-
  Contracts of the program's chapter 4: the body of a letter as an array, the letter of a body.
-/
namespace Go.Proofs.Ytbdjclfkajlmdac
open Go.RowKit
namespace Im4
open Il Gm Mm Tm Lm Im2 Im3

def vals (l : List Int) : List Value := l.map (Value.int .i64)
theorem sizeInt : (Try.prog.info? 3).map (·.size) = some 1 := by kernel_rfl
theorem underInts : Try.prog.underlying 23 = some (.slice 3) := by kernel_rfl
/-- A block that holds a list, as a slice of the whole of it. -/
theorem own_block {w : World} {b : Nat} {l : List Int} {t : TypeId} (h : w.heap[b]? = some (.cells (vals l).toArray t (0, 0))) (hl : l.length ≤ maxLen) :
    Il.Own b w.heap.size w (some ⟨b, 0, none⟩) l.length l.length l := by
  have hlt := (Array.getElem?_eq_some_iff.1 h).1
  refine ⟨⟨rfl, Nat.le_refl _, hl, fun _ => ⟨b, 0, rfl, Nat.le_refl _, hlt, hlt, fun j hj => ?_⟩⟩, fun b' off' _ e j _ => ?_⟩
  · rw [cell_of_row _ _ _ _ _ _ h]
    simp [vals, List.getElem?_eq_getElem hj]
  · simp only [Option.some.injEq, Addr.mk.injEq, and_true] at e
    obtain ⟨rfl, rfl⟩ := e
    simp [World.frozen?, h]




end Im4
end Go.Proofs.Ytbdjclfkajlmdac
