/-
  Contracts of the program's chapter 13: the slots of a cache, linked.
-/
import Derived.Test.YtmmnpmfkpieoiaaKd
import Derived.Test.YtmmnpmfkpieoiaaIm8
import Derived.BigQuiet
import Derived.Deep.RegionLaw
import Derived.RangeFuncNested
import Derived.RangeFuncBound
import Derived.RangeFuncCalls
import Derived.RangeFuncLeaves
import Derived.Shelf.Abstract
import Derived.Shelf.RegionOpen
import Derived.WalkKit
import Derived.OwnWalkIn
import Derived.TacticsInMore
import Derived.LoopNIn
import Derived.LoopIn
namespace Go.Proofs.Ytmmnpmfkpieoiaa
open Go.RowKit Go.Shelf
namespace Im8
open Il (Ints below_of_grown grown_of_below)
open Sl Fo Cm Cs Sg Gm
attribute [local go_sem] Oper.semAt_some

set_option maxRecDepth 20000 in
theorem backward (A : Option Addr) (n k : Nat) (w : World) :
    Calls Try.prog 63 #[.slice A n k] w fun e w' => e = .returned (.func (.func 70) #[] #[.pointer (some ⟨w.heap.size, 0, none⟩)]) ∧ w' = w.alloc (.cells #[.slice A n k] 24) := by
  go_enter Try.func63, Try.ntmps63
  go_wp2
  go_ret
  exact ⟨rfl, rfl⟩
/-- The blocks of the caller's and one box are as they were. -/
def KpQ (n0 bs : Nat) (W W' : World) : Prop := ∀ x, x < n0 ∨ x = bs → W'.heap[x]? = W.heap[x]?
theorem kpQ_t {n0 bs : Nat} {A B C : World} (h : KpQ n0 bs A B) (k : KpQ n0 bs B C) : KpQ n0 bs A C := fun x hx => (k x hx).trans (h x hx)
theorem kpQ_b {n0 bs : Nat} {w : World} (h0 : n0 ≤ w.heap.size) (hb : bs < w.heap.size) (W : World) (l : Nat) (o o' : Obj) (hl : w.heap.size ≤ l) (_ : W.heap[l]? = some o) (_ : o.isCells = false) (_ : o.isWalk = false) : KpQ n0 bs W (W.putObj l o') :=
  fun x hx => World.putObj_heap_other (by omega)
abbrev encB (sg : Fin 3 → Sk) (i : Fin 3) : Array Value := #[.int .i64 ((i.1 : Nat) : Int), .slice (sg i).A (sg i).xs.length (sg i).c]
def desc : Nat → List (Fin 3)
  | 0 => []
  | 1 => [2]
  | 2 => [2, 1]
  | _ => [2, 1, 0]
set_option maxRecDepth 100000 in
set_option maxHeartbeats 2000000 in
theorem back_stops (m : Nat) (hm : 1 ≤ m) (n0 bs b off k : Nat) (sg : Fin 3 → Sk) (w : World) (hbs : bs < w.heap.size) (h0w : n0 ≤ w.heap.size) (hb : b < n0) (_hk : 3 ≤ k) (_hk2 : k ≤ 9223372036854775807)
    (hbox : w.cell? ⟨bs, 0, none⟩ = some (.slice (some ⟨b, off, none⟩) 3 k)) (hrow : ∀ i : Fin 3, w.cell? ⟨b, off + i.1, none⟩ = some (.slice (sg i).A (sg i).xs.length (sg i).c)) :
    SeqStopsK Fence.wide m Try.prog 70 #[.pointer (some ⟨bs, 0, none⟩)] (encB sg) (KpQ n0 bs) (fun xs => xs = [2, 1, 0]) (fun _ => True) 3 w := fun l J Jx W hW _ _ hY h0 => by
  have hbox' := (hW.cell hbs).trans hbox
  have hrow' : ∀ i : Fin 3, W.cell? ⟨b, off + i.1, none⟩ = some (.slice (sg i).A (sg i).xs.length (sg i).c) := fun i => (hW.cell (p := ⟨b, off + i.1, none⟩) (show b < w.heap.size by omega)).trans (hrow i)
  clear hbox hrow hW
  refine callsIn_of_wp Try.func70 rfl trivial ?_ rfl
  simp only [Try.ntmps70, List.size_toArray, List.length_cons, List.length_nil, Nat.reduceAdd, Nat.reduceSub, Array.replicate_succ, Array.replicate_zero, List.push_toArray, List.append_toArray, List.nil_append, List.cons_append]
  gi_wp2
  gi_loopw [3] (fun i wr => ∃ (q : Nat), q ≤ 3 ∧ i = .int .i64 (2 - (q : Int)) ∧ J (desc q) wr ∧ wr.cell? ⟨bs, 0, none⟩ = some (.slice (some ⟨b, off, none⟩) 3 k) ∧ ∀ i : Fin 3, wr.cell? ⟨b, off + i.1, none⟩ = some (.slice (sg i).A (sg i).xs.length (sg i).c))
    (fun i _ => (intOf i + 1).toNat)
  case atStart => exact ⟨0, by omega, rfl, h0, hbox', hrow'⟩
  case round =>
    obtain ⟨q, hq, rfl, hJs, hbx, hrw⟩ := hrel
    obtain rfl | rfl | rfl | rfl : q = 0 ∨ q = 1 ∨ q = 2 ∨ q = 3 := by omega
    · have hcx : wr.cell? ⟨b, off + 2, none⟩ = some (.slice (sg 2).A (sg 2).xs.length (sg 2).c) := hrw 2
      obtain ⟨fn, tmps, assign, body, hy, hR⟩ := hY (desc 0) 2 wr hJs (by decide)
      have hy' : Sem.run Try.prog (Instr.yield l #[.int .i64 2, .slice (sg 2).A (sg 2).xs.length (sg 2).c]) wr = .ok (.round l fn tmps assign body) wr := hy
      have HRW := Lib.hid hrw
      have HBX := Lib.hid hbx
      rw [show (2 : Int) - ((0 : Nat) : Int) = 2 from rfl]
      generalize (sg 2).A = GA at *
      generalize (sg 2).xs.length = gn at *
      generalize (sg 2).c = gc at *
      clear hrw hy hJs
      gi_wp2
      refine hR.mono ?_
      rintro e W3 (⟨rfl, hJ3, hk3⟩ | ⟨rfl, hJx3⟩)
      · have hb3 := (World.cell?_of_block (hk3 bs (.inr rfl))).trans HBX.out
        have HR3 : Hid (∀ i : Fin 3, W3.cell? ⟨b, off + i.1, none⟩ = some (.slice (sg i).A (sg i).xs.length (sg i).c)) := fun i => (World.cell?_of_block (a := ⟨b, off + i.1, none⟩) (hk3 b (.inl hb))).trans (HRW.out i)
        clear hcx hbx hk3
        gi_wp2
        go_roundw
        case rel => exact ⟨1, by omega, by go_num, hJ3, hb3, HR3.out⟩
        case measure => simp [intOf]
      · gi_wp2
        refine bodyPost_ret (results_none rfl _ _ _) rfl ?_
        exact ⟨⟨_, rfl⟩, .inr ⟨_, trivial, hJx3⟩⟩
    · have hcx : wr.cell? ⟨b, off + 1, none⟩ = some (.slice (sg 1).A (sg 1).xs.length (sg 1).c) := hrw 1
      obtain ⟨fn, tmps, assign, body, hy, hR⟩ := hY (desc 1) 1 wr hJs (by decide)
      have hy' : Sem.run Try.prog (Instr.yield l #[.int .i64 1, .slice (sg 1).A (sg 1).xs.length (sg 1).c]) wr = .ok (.round l fn tmps assign body) wr := hy
      have HRW := Lib.hid hrw
      have HBX := Lib.hid hbx
      rw [show (2 : Int) - ((1 : Nat) : Int) = 1 from rfl]
      generalize (sg 1).A = GA at *
      generalize (sg 1).xs.length = gn at *
      generalize (sg 1).c = gc at *
      clear hrw hy hJs
      gi_wp2
      refine hR.mono ?_
      rintro e W3 (⟨rfl, hJ3, hk3⟩ | ⟨rfl, hJx3⟩)
      · have hb3 := (World.cell?_of_block (hk3 bs (.inr rfl))).trans HBX.out
        have HR3 : Hid (∀ i : Fin 3, W3.cell? ⟨b, off + i.1, none⟩ = some (.slice (sg i).A (sg i).xs.length (sg i).c)) := fun i => (World.cell?_of_block (a := ⟨b, off + i.1, none⟩) (hk3 b (.inl hb))).trans (HRW.out i)
        clear hcx hbx hk3
        gi_wp2
        go_roundw
        case rel => exact ⟨2, by omega, by go_num, hJ3, hb3, HR3.out⟩
        case measure => simp [intOf]
      · gi_wp2
        refine bodyPost_ret (results_none rfl _ _ _) rfl ?_
        exact ⟨⟨_, rfl⟩, .inr ⟨_, trivial, hJx3⟩⟩
    · have hcx : wr.cell? ⟨b, off, none⟩ = some (.slice (sg 0).A (sg 0).xs.length (sg 0).c) := hrw 0
      obtain ⟨fn, tmps, assign, body, hy, hR⟩ := hY (desc 2) 0 wr hJs (by decide)
      have hy' : Sem.run Try.prog (Instr.yield l #[.int .i64 0, .slice (sg 0).A (sg 0).xs.length (sg 0).c]) wr = .ok (.round l fn tmps assign body) wr := hy
      have HRW := Lib.hid hrw
      have HBX := Lib.hid hbx
      rw [show (2 : Int) - ((2 : Nat) : Int) = 0 from rfl]
      generalize (sg 0).A = GA at *
      generalize (sg 0).xs.length = gn at *
      generalize (sg 0).c = gc at *
      clear hrw hy hJs
      gi_wp2
      refine hR.mono ?_
      rintro e W3 (⟨rfl, hJ3, hk3⟩ | ⟨rfl, hJx3⟩)
      · have hb3 := (World.cell?_of_block (hk3 bs (.inr rfl))).trans HBX.out
        have HR3 : Hid (∀ i : Fin 3, W3.cell? ⟨b, off + i.1, none⟩ = some (.slice (sg i).A (sg i).xs.length (sg i).c)) := fun i => (World.cell?_of_block (a := ⟨b, off + i.1, none⟩) (hk3 b (.inl hb))).trans (HRW.out i)
        clear hcx hbx hk3
        gi_wp2
        go_roundw
        case rel => exact ⟨3, by omega, by go_num, hJ3, hb3, HR3.out⟩
        case measure => simp [intOf]
      · gi_wp2
        refine bodyPost_ret (results_none rfl _ _ _) rfl ?_
        exact ⟨⟨_, rfl⟩, .inr ⟨_, trivial, hJx3⟩⟩
    · rw [show (2 : Int) - ((3 : Nat) : Int) = -1 from rfl]
      gi_wp2
      go_end0
      exact ⟨⟨_, rfl⟩, .inl ⟨_, rfl, hJs⟩⟩

/-- All blocks of linked slots are cells. -/
theorem kdO_cells {w : World} {s : Kd} (h : KdO w s) : ∀ x ∈ s.g.toList, ∃ cs t fr, w.heap[x]? = some (.cells cs t fr) := fun x hx => by
  have hx' : s.g = some x := by simpa using hx
  rcases h with ⟨e, _⟩ | ⟨k, e, cap, q, ho⟩
  · rw [e] at hx'; cases hx'
  · rw [e] at hx'
    simp only [Option.some.injEq] at hx'
    subst hx'
    rcases ho.2 with ⟨q2, _⟩ | ⟨g1, cap1, cur, q2, _, hh, _⟩
    · rw [q] at q2; simp at q2
    · rw [q] at q2
      simp only [Value.slice.injEq, Option.some.injEq, Addr.mk.injEq, and_true] at q2
      obtain ⟨rfl, _⟩ := q2
      exact ⟨cur, _, _, hh⟩
theorem chN_cells {w : World} {L : List Nd} : ∀ {a : Option Addr}, ChN w a L → ∀ f ∈ FpN L, ∀ x ∈ f, ∃ cs t fr, w.heap[x]? = some (.cells cs t fr) := by
  induction L with
  | nil => exact fun _ f hf => by simp [FpN] at hf
  | cons nd L ih =>
    rintro a ⟨u, e, h1, h2, h3⟩ f hf x hx
    unfold FpN at hf
    rw [List.flatMap_cons] at hf
    rcases List.mem_append.1 hf with h | h
    · simp only [fpn, List.mem_cons, List.not_mem_nil, or_false] at h
      rcases h with rfl | rfl
      · simp at hx; subst hx; exact ⟨_, _, _, h1⟩
      · exact kdO_cells h2 x hx
    · exact ih h3 f h x hx
theorem cells_same {X Y : World} {row : Option Nat} {x : Nat} {cs : Array Value} {t : TypeId} {fr : Nat × Nat} (h : X.heap[x]? = some (.cells cs t fr)) (hg : X.grownBy Y row) (hr : ∀ r, row = some r → ∃ o : Obj, X.heap[r]? = some o ∧ o.isCells = false) : Y.heap[x]? = X.heap[x]? :=
  hg.block x (Array.getElem?_eq_some_iff.1 h).1 fun e => by
    obtain ⟨o, ho, hc⟩ := hr x e.symm
    rw [h] at ho
    cases ho
    cases hc
/-- Between two rounds of oldestSlot. -/
def OInv (c : Ch) (A : Option Addr) (n k : Nat) (w : World) (pre : List (Fin 3)) (W : World) : Prop :=
  w.heap.size + 1 + 1 < W.heap.size ∧ Blk W w.heap.size #[.int .i64 c.ep, .slice A n k] 26 ∧ ∃ a L, Blk W (w.heap.size + 1) #[.pointer a] 57 ∧ ChG (w.heap.size + 1 + 1 + 1) W.heap.size W a L ∧ L.map (fun nd => (nd.ep, nd.s.xs)) = pre.reverse.map (fun x : Fin 3 => (c.ep - 2 + ((x.1 : Nat) : Int), slAt c.sl x.1))
theorem blk_set {w : World} {b : Nat} {v0 v : Value} {t : TypeId} (h : Blk w b #[v0] t) : Blk (w.setCell ⟨b, 0, none⟩ v) b #[v] t := by
  unfold Blk at h ⊢
  simp [World.setCell, Array.getElem?_modify, h]
/-- One round of oldestSlot. -/
theorem old_step {c : Ch} {A a A5 : Option Addr} {n k c5 B : Nat} {w W w5 : World} {pre : List (Fin 3)} {x : Fin 3} {L : List Nd} {g5 : Option Nat} {xs : List Int}
    (hs : w.heap.size + 1 + 1 < W.heap.size) (kc : Blk W w.heap.size #[.int .i64 c.ep, .slice A n k] 26) (kp : Blk W (w.heap.size + 1) #[.pointer a] 57) (hch : ChG (w.heap.size + 1 + 1 + 1) W.heap.size W a L)
    (hL : L.map (fun nd => (nd.ep, nd.s.xs)) = pre.reverse.map (fun x : Fin 3 => (c.ep - 2 + ((x.1 : Nat) : Int), slAt c.sl x.1))) (hB : Below w.heap.size w W) (hx : slAt c.sl x.1 = xs)
    (hd5 : Dest 3 1 g5 w5 (.slice A5 xs.length c5) xs.length (xs.map (Value.int .i64))) (hg5 : ∀ j, g5 = some j → W.heap.size ≤ j) (hb5 : Below W.heap.size W w5) :
    KeepsFrom B W ((w5.alloc (.cells #[.int .i64 (c.ep - 3 + 1 + ((x.1 : Nat) : Int)), .slice A5 xs.length c5, .pointer a] 61)).setCell ⟨w.heap.size + 1, 0, none⟩ (.pointer (some ⟨w5.heap.size, 0, none⟩))) ∧
      KpQ w.heap.size (w.heap.size + 1 + 1) W ((w5.alloc (.cells #[.int .i64 (c.ep - 3 + 1 + ((x.1 : Nat) : Int)), .slice A5 xs.length c5, .pointer a] 61)).setCell ⟨w.heap.size + 1, 0, none⟩ (.pointer (some ⟨w5.heap.size, 0, none⟩))) ∧
      OInv c A n k w (pre ++ [x]) ((w5.alloc (.cells #[.int .i64 (c.ep - 3 + 1 + ((x.1 : Nat) : Int)), .slice A5 xs.length c5, .pointer a] 61)).setCell ⟨w.heap.size + 1, 0, none⟩ (.pointer (some ⟨w5.heap.size, 0, none⟩))) ∧
      Below w.heap.size w ((w5.alloc (.cells #[.int .i64 (c.ep - 3 + 1 + ((x.1 : Nat) : Int)), .slice A5 xs.length c5, .pointer a] 61)).setCell ⟨w.heap.size + 1, 0, none⟩ (.pointer (some ⟨w5.heap.size, 0, none⟩))) := by
  have hz5 := hb5.size
  have e0 : c.ep - 3 + 1 + ((x.1 : Nat) : Int) = c.ep - 2 + ((x.1 : Nat) : Int) := by omega
  rw [e0]
  have ks := blk_new w5 #[.int .i64 (c.ep - 2 + ((x.1 : Nat) : Int)), .slice A5 xs.length c5, .pointer a] 61
  generalize hw6 : w5.alloc (.cells #[.int .i64 (c.ep - 2 + ((x.1 : Nat) : Int)), .slice A5 xs.length c5, .pointer a] 61) = w6 at *
  have hb6 : Below w5.heap.size w5 w6 := by rw [← hw6]; exact (Below.refl _ _).alloc (Nat.le_refl _) _
  have hsz6 : w6.heap.size = w5.heap.size + 1 := by rw [← hw6]; simp
  have hb6' : Below W.heap.size W w6 := hb5.trans (hb6.mono hz5)
  have kp6 := kp.below hb6' (Nat.le_refl _)
  have hoth : ∀ b, b ≠ w.heap.size + 1 → (w6.setCell ⟨w.heap.size + 1, 0, none⟩ (.pointer (some ⟨w5.heap.size, 0, none⟩))).heap[b]? = w6.heap[b]? := fun b hb => Below.heap_setCell _ _ _ _ hb
  have kp7 := blk_set (v := .pointer (some ⟨w5.heap.size, 0, none⟩)) kp6
  have hsz7 : (w6.setCell ⟨w.heap.size + 1, 0, none⟩ (.pointer (some ⟨w5.heap.size, 0, none⟩))).heap.size = w6.heap.size := by simp [World.setCell]
  have hB7 : Below w.heap.size w (w6.setCell ⟨w.heap.size + 1, 0, none⟩ (.pointer (some ⟨w5.heap.size, 0, none⟩))) := (hB.trans (hb6'.mono (by omega))).setCell (p := ⟨w.heap.size + 1, 0, none⟩) (show w.heap.size ≤ w.heap.size + 1 by omega) _
  generalize w6.setCell ⟨w.heap.size + 1, 0, none⟩ (.pointer (some ⟨w5.heap.size, 0, none⟩)) = w7 at *
  have hold : ∀ b, b < W.heap.size → b ≠ w.heap.size + 1 → w7.heap[b]? = W.heap[b]? := fun b hb hne => (hoth b hne).trans (hb6'.block b hb)
  refine ⟨⟨by omega, fun b o _ hb ho => ?_⟩, fun b hb => hold b (by omega) (by omega), ⟨by omega, kc.same (hold _ (by omega) (by omega)), some ⟨w5.heap.size, 0, none⟩, ⟨w5.heap.size, c.ep - 2 + ((x.1 : Nat) : Int), ⟨xs, A5, c5, g5⟩⟩ :: L, kp7, ?_, ?_⟩, hB7⟩
  · have hlt := (Array.getElem?_eq_some_iff.1 hb).1
    by_cases e : b = w.heap.size + 1
    · subst e
      unfold Blk at kp
      rw [kp] at hb
      cases hb
      cases ho
    · rw [hold b hlt e]; exact hb
  · have hs7 : ∀ b, W.heap.size ≤ b → w7.heap[b]? = w6.heap[b]? := fun b hb => hoth b (by omega)
    have hd7 : KdO w7 ⟨xs, A5, c5, g5⟩ := dest_keep hd5 fun j e => by
      have h1 := hg5 j e
      have h2 := dest_lt hd5 j e
      rw [hs7 j h1, hb6.block j h2]
    refine ChG.cons_ (M := W.heap.size) (hch.keep fun b h1 h2 h3 => hold b h3 (by omega)) ⟨w5.heap.size, _, ⟨xs, A5, c5, g5⟩⟩ (ks.same (hs7 _ hz5)) hd7 ?_ hz5 ?_ (by omega) (by omega) (by show w5.heap.size < _; omega) ?_
    · intro h
      have := dest_lt hd5 w5.heap.size (by simpa using h)
      omega
    · intro j hj
      exact hg5 j (by simpa using hj)
    · intro j hj
      have := dest_lt hd5 j (by simpa using hj)
      omega
  · rw [List.reverse_append, List.map_cons, hL, ← hx]
    rfl
/-- The slots of a cache, linked. -/
def OldP (c : Ch) (w : World) (e : Ending) (w' : World) : Prop :=
  ∃ a L, e = .returned (.pointer a) ∧ ChG w.heap.size w'.heap.size w' a L ∧ L.map (fun nd => (nd.ep, nd.s.xs)) = [(c.ep - 2, slAt c.sl 0), (c.ep - 1, slAt c.sl 1), (c.ep, slAt c.sl 2)] ∧ Below w.heap.size w w'

end Im8
end Go.Proofs.Ytmmnpmfkpieoiaa
