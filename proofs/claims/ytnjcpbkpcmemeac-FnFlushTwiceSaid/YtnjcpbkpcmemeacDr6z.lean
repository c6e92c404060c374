/-
  Several parts of the proof in one text.
-/
import Derived.Test.YtnjcpbkpcmemeacDr5q
import Derived.Test.YtnjcpbkpcmemeacSp6z
import Derived.Deep.RegionLaw
import Derived.Deep.Cut
import Derived.BigRegion
/-
  Contracts of the functions that draw mixes out of a code.
-/
namespace Go.Proofs.Ytnjcpbkpcmemeac
open Go.RowKit
namespace Sl
open Il Pm Pq Hlp5 Mm6

/-- A mix of the call's own, whose keys can be appended to; its blocks are as Pr says. -/
def MixQ (Pr : Nat → Prop) (w : World) (A : Option Addr) (c : Nat) (B : Option Addr) (d : Nat) (x : Mx) : Prop :=
  ∃ g H, Dest 3 1 g w (.slice A x.seen.length c) x.seen.length (x.seen.map (Value.int .i64)) ∧ PoolO w B x.pool.length d x.pool H ∧ (∀ f ∈ H, ∀ z ∈ f, Pr z) ∧ ∀ k, g = some k → Pr k ∧ ∀ f ∈ H, k ∉ f
section
variable {Pr Pr' : Nat → Prop} {lo : Nat} {w w' : World} {A B : Option Addr} {c d : Nat} {x : Mx}
theorem MixD.q (h : MixD lo w A c B d x) (hp : ∀ z, lo ≤ z → z < w.heap.size → Pr z) : MixQ Pr w A c B d x := by
  obtain ⟨g, H, h1, h2, h3, h4⟩ := h
  exact ⟨g, H, h1, h2, fun f hf z hz => hp z (h3 f hf z hz).1 (h3 f hf z hz).2, fun k e => ⟨hp k (h4 k e).1 (dest_lt h1 k e), (h4 k e).2⟩⟩
theorem MixQ.keep (h : MixQ Pr w A c B d x) (hs : w.heap.size ≤ w'.heap.size) (hk : ∀ z, Pr z → z < w.heap.size → w'.heap[z]? = w.heap[z]?) : MixQ Pr w' A c B d x := by
  obtain ⟨g, H, h1, h2, h3, h4⟩ := h
  exact ⟨g, H, dest_keep h1 fun k e => hk k (h4 k e).1 (dest_lt h1 k e), h2.keep hs fun f hf z hz => hk z (h3 f hf z hz) (h2.lt_ f hf z hz).2, h3, h4⟩
theorem MixQ.below {K : Nat} (h : MixQ Pr w A c B d x) (hb : Below K w w') (hB : w.heap.size ≤ K) : MixQ Pr w' A c B d x := h.keep hb.size fun z _ hz => hb.block z (by omega)
theorem MixQ.grown {row : Option Nat} (h : MixQ Pr w A c B d x) (hg : w.grownBy w' row) (hr : ∀ k, row = some k → ¬ Pr k) : MixQ Pr w' A c B d x := h.keep hg.size fun z hp hz => hg.block z hz (fun e => hr z e.symm hp)
theorem MixQ.mix (h : MixQ Pr w A c B d x) (hp : ∀ z, Pr z → lo ≤ z) : MixR lo w.heap.size w A x.seen.length c B x.pool.length d x := by
  obtain ⟨g, H, h1, h2, h3, h4⟩ := h
  exact MixD.mix ⟨g, H, h1, h2, fun f hf z hz => ⟨hp z (h3 f hf z hz), (h2.lt_ f hf z hz).2⟩, fun k e => ⟨hp k (h4 k e).1, (h4 k e).2⟩⟩
/-- A cell of a block that is none of its own is written. -/
theorem MixQ.set {q : Addr} (h : MixQ Pr w A c B d x) (hq : ¬ Pr q.block) (v : Value) : MixQ Pr (w.setCell q v) A c B d x :=
  h.keep (by simp [World.setCell]) fun z hp _ => Below.heap_setCell _ _ _ _ (fun e => hq (e ▸ hp))
theorem MixQ.secret (h : MixQ Pr w A c B d x) (s : Int) : MixQ Pr w A c B d ⟨s, x.seen, x.pool⟩ := h
end

end Sl
namespace Rd
open Il Pm Pq Hlp5 Sl Mm6
open Sp6 (three_cells farb3 newM)

theorem flush_ok {x : Mx} {all : Bool} (h : mixOk x = true) : mixOk (flushM x all) = true := by
  unfold flushM
  rw [h]
  cases decide (x.pool.length < 2) && !all
  · obtain ⟨h1, h2, h3, h4, h5⟩ := mixOk_iff.1 h
    exact mixOk_iff.2 ⟨h1, h2, h3, rfl, by simp⟩
  · exact h
theorem flush_sec {x : Mx} {all : Bool} (h : mixOk x = true) : (flushM x all).sec = x.sec := by
  unfold flushM
  rw [h]
  cases decide (x.pool.length < 2) && !all <;> rfl
theorem take_sec (x : Mx) (p : Pkt) : (takeM x p).sec = x.sec := by
  by_cases h : takeC x p = 0
  · rw [takeM_yes h]
  · rw [takeM_no h]
theorem blk3_all {w : World} {b : Nat} {u0 u1 u2 v0 v1 v2 : Value} {t : TypeId} (h : Blk w b #[u0, u1, u2] t) :
    Blk (((w.setCell ⟨b, 0, none⟩ v0).setCell ⟨b, 1, none⟩ v1).setCell ⟨b, 2, none⟩ v2) b #[v0, v1, v2] t := by
  unfold Blk at h ⊢
  simp [World.setCell, Array.getElem?_modify, h]

/-- A drawn mix. -/
def MixDraw (rb N : Nat) (w : World) (e : Ending) (w' : World) : Prop :=
  ∃ (x : Mx) (A : Option Addr) (c : Nat) (B : Option Addr) (d : Nat), e = .returned (.agg #[.int .i64 x.sec, .slice A x.seen.length c, .slice B x.pool.length d]) ∧ MixR w.heap.size w'.heap.size w' A x.seen.length c B x.pool.length d x ∧
    (-1 ≤ x.sec ∧ x.sec ≤ 997) ∧ x.seen.length ≤ 13 ∧ x.pool.length ≤ 5 ∧ (∀ p ∈ x.pool, p.pk.hd.length = 9 ∧ p.pk.bd.length = 6) ∧ Reader w' rb N ∧ w.grownBy w' (some rb)

/-- What the loop of l91Mix holds: a right mix in block b4. -/
def LmRel (s : Int) (rb N b4 : Nat) (w wr : World) (x : Mx) (A : Option Addr) (c : Nat) (B : Option Addr) (d : Nat) : Prop :=
  Blk wr b4 #[.int .i64 x.sec, .slice A x.seen.length c, .slice B x.pool.length d] 26 ∧ MixQ (fun z => w.heap.size < z ∧ z ≠ b4) wr A c B d x ∧ mixOk x = true ∧ x.sec = s ∧ Reader wr rb N ∧ w.grownBy wr (some rb) ∧
    Blk wr w.heap.size #[.int .i64 0, .slice none 0 0, .slice none 0 0] 26
theorem blk_set3 {w : World} {b a : Nat} {cs : Array Value} {t : TypeId} (h : Blk w b cs t) (hne : b ≠ a) (v0 v1 v2 : Value) : Blk (((w.setCell ⟨a, 0, none⟩ v0).setCell ⟨a, 1, none⟩ v1).setCell ⟨a, 2, none⟩ v2) b cs t := (farb3 hne _ _ _).trans h
theorem LmRel.grown {s : Int} {rb N N' b4 : Nat} {w w1 w2 : World} {x : Mx} {A : Option Addr} {c : Nat} {B : Option Addr} {d : Nat} (h : LmRel s rb N b4 w w1 x A c B d) (hg : w1.grownBy w2 (some rb)) (hr : Reader w2 rb N') (hrb : rb < w.heap.size) (hb4 : w.heap.size < b4) : LmRel s rb N' b4 w w2 x A c B d := by
  obtain ⟨h1, h2, h3, h4, h5, h6, h7⟩ := h
  exact ⟨blk_grown h1 hg (by simp; omega), h2.grown hg (fun k e => by simp at e; omega), h3, h4, hr, grown_trans h6 hg, blk_grown h7 hg (by simp; omega)⟩
theorem LmRel.to {s : Int} {rb N N' b4 : Nat} {w w1 : World} {x : Mx} {A : Option Addr} {c : Nat} {B : Option Addr} {d : Nat} (h : LmRel s rb N b4 w w1 x A c B d) (e : N = N') : LmRel s rb N' b4 w w1 x A c B d := e ▸ h
theorem LmRel.rd {s : Int} {rb N b4 : Nat} {w w1 : World} {x : Mx} {A : Option Addr} {c : Nat} {B : Option Addr} {d : Nat} (h : LmRel s rb N b4 w w1 x A c B d) : Reader w1 rb N := h.2.2.2.2.1
theorem LmRel.var {s : Int} {rb N b4 : Nat} {w w1 : World} {x : Mx} {A : Option Addr} {c : Nat} {B : Option Addr} {d : Nat} (h : LmRel s rb N b4 w w1 x A c B d) : Blk w1 b4 #[.int .i64 x.sec, .slice A x.seen.length c, .slice B x.pool.length d] 26 := h.1
theorem LmRel.mix {s : Int} {rb N b4 : Nat} {w w1 : World} {x : Mx} {A : Option Addr} {c : Nat} {B : Option Addr} {d : Nat} (h : LmRel s rb N b4 w w1 x A c B d) : MixR 0 w1.heap.size w1 A x.seen.length c B x.pool.length d x := h.2.1.mix fun _ _ => Nat.zero_le _
/-- A new mix is stored into the variable. -/
theorem lm_store {s : Int} {rb N b4 lo : Nat} {w w1 w6 : World} {y : Mx} {u0 u1 u2 : Value} {A : Option Addr} {c : Nat} {B : Option Addr} {d : Nat} (hz : Blk w6 b4 #[u0, u1, u2] 26) (hm : MixD lo w6 A c B d y) (hlo : b4 < lo) (hb4 : w.heap.size < b4) (hok : mixOk y = true) (hs : y.sec = s) (hr : Reader w6 rb N) (hrb : rb < w.heap.size) (hg : w.grownBy w6 (some rb))
    (hz0 : Blk w6 w.heap.size #[.int .i64 0, .slice none 0 0, .slice none 0 0] 26) (_h1 : w1 = w1) :
    LmRel s rb N b4 w (((w6.setCell ⟨b4, 0, none⟩ (.int .i64 y.sec)).setCell ⟨b4, 1, none⟩ (.slice A y.seen.length c)).setCell ⟨b4, 2, none⟩ (.slice B y.pool.length d)) y A c B d := by
  have hsz : (((w6.setCell ⟨b4, 0, none⟩ (.int .i64 y.sec)).setCell ⟨b4, 1, none⟩ (.slice A y.seen.length c)).setCell ⟨b4, 2, none⟩ (.slice B y.pool.length d)).heap.size = w6.heap.size := by simp [World.setCell]
  have hgs := hg.size
  refine ⟨blk3_all hz, (hm.q (Pr := fun z => w.heap.size < z ∧ z ≠ b4) fun z h1 _ => ⟨by omega, by omega⟩).keep (Nat.le_of_eq hsz.symm) (fun z hp _ => farb3 hp.2 _ _ _), hok, hs, hr.keep (fun i hi => farb3 (by omega) _ _ _), ?_, blk_set3 hz0 (by omega) _ _ _⟩
  exact ⟨hg.os, hg.tape, hg.output, by omega, fun i hi hne => (farb3 (by omega) _ _ _).trans (hg.block i hi hne)⟩
/-- The mix that the draw ends with. -/
def LeRel (rb N b4 : Nat) (w wr : World) (x : Mx) (A : Option Addr) (c : Nat) (B : Option Addr) (d : Nat) : Prop :=
  Blk wr b4 #[.int .i64 x.sec, .slice A x.seen.length c, .slice B x.pool.length d] 26 ∧ MixQ (fun z => w.heap.size < z ∧ z ≠ b4) wr A c B d x ∧ (-1 ≤ x.sec ∧ x.sec ≤ 997) ∧ x.seen.length ≤ 13 ∧ x.pool.length ≤ 5 ∧
    (∀ p ∈ x.pool, p.pk.hd.length = 9 ∧ p.pk.bd.length = 6) ∧ Reader wr rb N ∧ w.grownBy wr (some rb) ∧ Blk wr w.heap.size #[.int .i64 0, .slice none 0 0, .slice none 0 0] 26
section
variable {s : Int} {rb N N' b4 : Nat} {w wr : World} {x : Mx} {A : Option Addr} {c : Nat} {B : Option Addr} {d : Nat}
theorem LmRel.e (h : LmRel s rb N b4 w wr x A c B d) (hs0 : 1 ≤ s) (hs1 : s ≤ 996) (hN : N ≤ N') : LeRel rb N' b4 w wr x A c B d := by
  obtain ⟨h1, h2, h3, h4, h5, h6, h7⟩ := h
  obtain ⟨k1, k2, k3⟩ := Sp6.mix_sizes h3
  exact ⟨h1, h2, by omega, by omega, k2, k3, h5.mono hN, h6, h7⟩
theorem LeRel.fin (h : LeRel rb N b4 w wr x A c B d) (hrb : rb < w.heap.size) (v0 v1 v2 : Value) :
    MixDraw rb N w (.returned (.agg #[.int .i64 x.sec, .slice A x.seen.length c, .slice B x.pool.length d])) (((wr.setCell ⟨w.heap.size, 0, none⟩ v0).setCell ⟨w.heap.size, 1, none⟩ v1).setCell ⟨w.heap.size, 2, none⟩ v2) := by
  obtain ⟨h1, h2, h3, h4, h5, h6, h7, h8, h9⟩ := h
  have hsz : (((wr.setCell ⟨w.heap.size, 0, none⟩ v0).setCell ⟨w.heap.size, 1, none⟩ v1).setCell ⟨w.heap.size, 2, none⟩ v2).heap.size = wr.heap.size := by simp [World.setCell]
  have hq := h2.keep (w' := (((wr.setCell ⟨w.heap.size, 0, none⟩ v0).setCell ⟨w.heap.size, 1, none⟩ v1).setCell ⟨w.heap.size, 2, none⟩ v2)) (Nat.le_of_eq hsz.symm) (fun z hp _ => farb3 (by omega) _ _ _)
  refine ⟨x, A, c, B, d, rfl, hq.mix (fun z hp => by omega), h3, h4, h5, h6, h7.keep (fun i hi => farb3 (by omega) _ _ _), ?_⟩
  exact ⟨h8.os, h8.tape, h8.output, by have := h8.size; omega, fun i hi hne => (farb3 (by omega) _ _ _).trans (h8.block i hi hne)⟩
theorem LmRel.set0 (h : LmRel s rb N b4 w wr x A c B d) (hrb : rb < w.heap.size) (hb4 : w.heap.size < b4) (v : Int) (hv : -1 ≤ v ∧ v ≤ 997) (hN : N ≤ N') :
    LeRel rb N' b4 w (wr.setCell ⟨b4, 0, none⟩ (.int .i64 v)) ⟨v, x.seen, x.pool⟩ A c B d := by
  obtain ⟨h1, h2, h3, h4, h5, h6, h7⟩ := h
  obtain ⟨k1, k2, k3⟩ := Sp6.mix_sizes h3
  have hf : ∀ z, z ≠ b4 → (wr.setCell ⟨b4, 0, none⟩ (.int .i64 v)).heap[z]? = wr.heap[z]? := fun z hz => Below.heap_setCell _ _ _ _ hz
  refine ⟨blk_set (i := 0) h1 (.int .i64 v), (h2.set (q := ⟨b4, 0, none⟩) (fun h => h.2 rfl) _).secret v, hv, (by dsimp only; omega), k2, k3, (h5.mono hN).keep (fun i hi => hf i (by omega)), ?_, (hf _ (by omega)).trans h7⟩
  exact ⟨h6.os, h6.tape, h6.output, by have := h6.size; simpa [World.setCell] using this, fun i hi hne => (hf i (by omega)).trans (h6.block i hi hne)⟩
theorem LmRel.app {w7 w8 : World} {v7 : Int} {o : Obj} {g g8 : Option Nat} {H : List (List Nat)} {A8 : Option Addr} {c8 : Nat} (h : LmRel s rb N b4 w w7 x A c B d) (hpo : PoolO w7 B x.pool.length d x.pool H) (hpr : ∀ f ∈ H, ∀ z ∈ f, w.heap.size < z ∧ z ≠ b4)
    (hgk : ∀ k, g = some k → (w.heap.size < k ∧ k ≠ b4) ∧ ∀ f ∈ H, k ∉ f) (hd8 : Dest 3 1 g8 w8 (.slice A8 (x.seen.length + 1) c8) (x.seen.length + 1) ((x.seen ++ [v7]).map (Value.int .i64)))
    (hg8 : g8 = g ∨ ∃ k, g8 = some k ∧ (w7.alloc o).heap.size ≤ k) (hgr : (w7.alloc o).grownBy w8 g) (hrb : rb < w.heap.size) (hb4 : w.heap.size < b4) (hs0 : 1 ≤ s) (hs1 : s ≤ 996) (hN : N ≤ N') :
    LeRel rb N' b4 w (w8.setCell ⟨b4, 1, none⟩ (.slice A8 (x.seen.length + 1) c8)) ⟨x.sec, x.seen ++ [v7], x.pool⟩ A8 c8 B d := by
  obtain ⟨h1, h2, h3, h4, h5, h6, h7⟩ := h
  obtain ⟨k1, k2, k3⟩ := Sp6.mix_sizes h3
  have hbl := blk_lt h1
  have h6s := h6.size
  have hkeep : ∀ z, z < w7.heap.size → g ≠ some z → w8.heap[z]? = w7.heap[z]? := fun z hz hne => (hgr.block z (by simp; omega) (fun e => hne e.symm)).trans ((World.grownBy_alloc w7 o none).block z hz (by simp))
  have hs8 : w7.heap.size + 1 ≤ w8.heap.size := by have := hgr.size; simpa using this
  have hf : ∀ z, z ≠ b4 → (w8.setCell ⟨b4, 1, none⟩ (.slice A8 (x.seen.length + 1) c8)).heap[z]? = w8.heap[z]? := fun z hz => Below.heap_setCell _ _ _ _ hz
  have hz8 : (w8.setCell ⟨b4, 1, none⟩ (.slice A8 (x.seen.length + 1) c8)).heap.size = w8.heap.size := by simp [World.setCell]
  have hg8' : ∀ k, g8 = some k → (w.heap.size < k ∧ k ≠ b4) ∧ ∀ f ∈ H, k ∉ f := by
    intro k e
    rcases hg8 with rfl | ⟨k', e', hk'⟩
    · exact hgk k e
    · rw [e'] at e
      obtain rfl : k' = k := by simpa using e
      have : w7.heap.size + 1 ≤ k' := by simpa using hk'
      exact ⟨⟨by omega, by omega⟩, fun f hf hm => by have := (hpo.lt_ f hf k' hm).2; omega⟩
  have hl8 : (x.seen ++ [v7]).length = x.seen.length + 1 := by simp
  have hb8 : Blk w8 b4 #[.int .i64 x.sec, .slice A x.seen.length c, .slice B x.pool.length d] 26 := (hkeep b4 hbl (fun e => (hgk b4 e).1.2 rfl)).trans h1
  have hd9 := dest_keep hd8 (w' := w8.setCell ⟨b4, 1, none⟩ (.slice A8 (x.seen.length + 1) c8)) fun k e => hf k (hg8' k e).1.2
  have hp9 : PoolO (w8.setCell ⟨b4, 1, none⟩ (.slice A8 (x.seen.length + 1) c8)) B x.pool.length d x.pool H := hpo.keep (by omega) fun f hff z hz => (hf z (hpr f hff z hz).2).trans (hkeep z (hpo.lt_ f hff z hz).2 (fun e => (hgk z e).2 f hff hz))
  refine ⟨?_, ⟨g8, H, ?_, hp9, hpr, hg8'⟩, (by dsimp only; omega), (by dsimp only; omega), k2, k3, ((h5.mono hN).keep (fun i hi => (hf i (by omega)).trans (hkeep i (by omega) (fun e => by have := (hgk i e).1; omega)))), ?_, (hf _ (by omega)).trans ((hkeep _ (by omega) (fun e => by have := (hgk _ e).1; omega)).trans h7)⟩
  · dsimp only; rw [hl8]; exact blk_set (i := 1) hb8 _
  · dsimp only; rw [hl8]; exact hd9
  · exact ⟨hgr.os.trans h6.os, hgr.tape.trans h6.tape, hgr.output.trans h6.output, by omega, fun i hi hne => (hf i (by omega)).trans ((hkeep i (by omega) (fun e => by have := (hgk i e).1; omega)).trans (h6.block i hi hne))⟩
end
theorem flat_set1 {ss : List Slot} {k : Nat} {s : Slot} (u : Int) (hx : ss[k]? = some s) :
    ((ss.flatMap Slot.cells).set (k * 6 + 1) (.int .i64 u)) = (ss.set k ⟨⟨s.p.kind, u, s.p.pk⟩, s.A, s.c, s.B, s.d, s.h, s.g⟩).flatMap Slot.cells := by
  induction ss generalizing k with
  | nil => simp at hx
  | cons y ys ih =>
    cases k with
    | zero =>
      simp only [List.getElem?_cons_zero, Option.some.injEq] at hx
      subst hx
      rw [List.set_cons_zero, List.flatMap_cons, List.flatMap_cons]
      rfl
    | succ k =>
      rw [List.getElem?_cons_succ] at hx
      have h6 : y.cells.length = 6 := rfl
      rw [List.set_cons_succ, List.flatMap_cons, List.flatMap_cons, ← ih hx]
      rw [List.set_append_right _ _ (by rw [h6]; omega), h6]
      have q3 : (k + 1) * 6 + 1 - 6 = k * 6 + 1 := by omega
      rw [q3]
theorem LmRel.next {s : Int} {rb N N' b4 j : Nat} {w wr : World} {x : Mx} {A : Option Addr} {c : Nat} {B : Option Addr} {d : Nat} (h : LmRel s rb N b4 w wr x A c B d) (hj : j < x.pool.length) (hrb : rb < w.heap.size) (hs0 : 1 ≤ s) (hs1 : s ≤ 996) (hN : N ≤ N') :
    ∃ (bp off : Nat) (v : Value) (p : Pld), B = some ⟨bp, off, none⟩ ∧ bp ≠ b4 ∧ wr.cell? ⟨bp, off + j * 6 + 1, none⟩ = some v ∧ wr.frozen? ⟨bp, off + j * 6 + 1, none⟩ = false ∧ ∀ u : Int,
      LeRel rb N' b4 w (wr.setCell ⟨bp, off + j * 6 + 1, none⟩ (.int .i64 u)) ⟨x.sec, x.seen, x.pool.set j ⟨p.kind, u, p.pk⟩⟩ A c B d := by
  obtain ⟨h1, ⟨g, H, q1, q2, q3, q4⟩, h3, h4, h5, h6, h7⟩ := h
  obtain ⟨k1, k2, k3⟩ := Sp6.mix_sizes h3
  obtain ⟨b, off, ss, t, rfl, hmap, hs, hsp, hrow, hslots, rfl, hfoot⟩ := q2.open_ hj
  obtain ⟨⟨c0, c1, c2, c3, c4, c5⟩, f0, f1, f2, f3, f4, f5⟩ := row_cells hrow hj hs
  obtain ⟨d1, d2, d3, d4⟩ := foot_at hfoot hs (by omega)
  have hso := hslots t (List.mem_of_getElem? hs)
  have hbp := q3 (fp x.pool.length b) (List.mem_cons_self ..) b (mem_fp.2 ⟨by omega, rfl⟩)
  refine ⟨b, off, _, t.p, rfl, hbp.2, c1, f1, fun u => ?_⟩
  have hf : ∀ z, z ≠ b → (wr.setCell ⟨b, off + j * 6 + 1, none⟩ (.int .i64 u)).heap[z]? = wr.heap[z]? := fun z hz => Below.heap_setCell _ _ _ _ hz
  have hz : (wr.setCell ⟨b, off + j * 6 + 1, none⟩ (.int .i64 u)).heap.size = wr.heap.size := by simp [World.setCell]
  have hl : (x.pool.set j ⟨t.p.kind, u, t.p.pk⟩).length = x.pool.length := List.length_set
  have hr2 : RowO b (b + 1) (wr.setCell ⟨b, off + j * 6 + 1, none⟩ (.int .i64 u)) (some ⟨b, off, none⟩) x.pool.length d 6 ((ss.set j ⟨⟨t.p.kind, u, t.p.pk⟩, t.A, t.c, t.B, t.d, t.h, t.g⟩).flatMap Slot.cells) := by
    rw [← flat_set1 u hs, Nat.add_assoc]
    exact hrow.set_ (by omega) _
  have hput := PoolO.put (p' := ⟨t.p.kind, u, t.p.pk⟩) hslots hfoot hs (by omega) hr2 rfl rfl ⟨own_keepC hso.1 (by omega) fun hn => hf _ (d1 hn), own_keepC hso.2 (by omega) fun hn => hf _ (d2 hn)⟩ (Nat.le_of_eq hz.symm) (fun z _ hzb _ _ => hf z hzb)
  rw [hmap] at hput
  have hmem : ∀ p ∈ x.pool.set j ⟨t.p.kind, u, t.p.pk⟩, p.pk.hd.length = 9 ∧ p.pk.bd.length = 6 := by
    intro p hp
    rcases List.mem_or_eq_of_mem_set hp with hp | rfl
    · exact k3 p hp
    · exact k3 t.p (hmap ▸ List.mem_map_of_mem (List.mem_of_getElem? hs))
  refine ⟨?_, ⟨g, _, dest_keep q1 fun k e => hf k (fun e2 => (q4 k e).2 _ (List.mem_cons_self ..) (mem_fp.2 ⟨by omega, e2⟩)), ?_, q3, q4⟩, (by dsimp only; omega), (by dsimp only; omega), (by dsimp only; omega), hmem, (h5.mono hN).keep (fun i hi => hf i (by omega)), ?_, (hf _ (by omega)).trans h7⟩
  · dsimp only; rw [hl]; exact (hf b4 (Ne.symm hbp.2)).trans h1
  · dsimp only; rw [hl]; exact hput
  · exact ⟨h6.os, h6.tape, h6.output, by have := h6.size; omega, fun i hi hne => (hf i (by omega)).trans (h6.block i hi hne)⟩
set_option maxHeartbeats 4000000 in
set_option maxRecDepth 20000 in
theorem l91Mix (rb N : Nat) (w : World) (hr : Reader w rb N) (hN : N ≤ 50000) :
    Calls Try.prog 34 #[.pointer (some ⟨rb, 0, none⟩)] w (MixDraw rb (N + 700) w) := by
  have hrb := hr.lt
  have hz : Blk (w.alloc (.cells #[.int .i64 0, .slice none 0 0, .slice none 0 0] 26)) w.heap.size #[.int .i64 0, .slice none 0 0, .slice none 0 0] 26 := heap_alloc_new _ _
  have Z0 := Lib.hid hz
  have G0 : Hid (w.grownBy (w.alloc (.cells #[.int .i64 0, .slice none 0 0, .slice none 0 0] 26)) (some rb)) := World.grownBy_alloc _ _ _
  have R0 := Lib.hid (hr.alloc (.cells #[.int .i64 0, .slice none 0 0, .slice none 0 0] 26))
  have hsz : w.heap.size < (w.alloc (.cells #[.int .i64 0, .slice none 0 0, .slice none 0 0] 26)).heap.size := by simp
  clear hr hz
  go_enter Try.func34, Try.ntmps34
  go_wp2_with fail
  ((with_reducible refine (l91Good rb N _ R0.out (by omega)).mono ?_); rintro e w1 ⟨s, rfl, hs0, hs1, r1, g1⟩)
  have Z1 := Lib.hid (blk_grown Z0.out g1 (by simp; omega))
  have G1 := Lib.hid (grown_trans G0.out g1)
  have R1 := Lib.hid r1
  have hz1 := g1.size
  clear r1 g1 Z0 G0 R0
  have HGS : Hid (Gm.inG s = true) := Gm.inG_iff.2 ⟨hs0, hs1⟩
  have HNM : Hid (newM s = ⟨s, [], []⟩) := by show newM s = _; unfold newM; rw [HGS.out]; rfl
  go_wp2_with fail
  ((with_reducible refine (Sp6.MixNewS s _).mono ?_); rintro e w2 ⟨A2, c2, B2, d2, rfl, hm2, hb2⟩)
  rw [HGS.out]
  have hz2 := hb2.size
  have Z2 := Lib.hid (Z1.out.below hb2 (Nat.le_refl _))
  have G2 := Lib.hid (grown_trans G1.out (grown_of_below (row := some rb) hb2))
  have R2 := Lib.hid (R1.out.below hb2 (by omega))
  have HOK2 : Hid (mixOk (newM s) = true) := by
    show mixOk (newM s) = true
    rw [HNM.out]
    exact mixOk_iff.2 ⟨HGS.out, rfl, by simp, rfl, by simp⟩
  have HSE2 : Hid ((newM s).sec = s) := by show _ = _; rw [HNM.out]
  generalize newM s = x0 at *
  have hal : Below w2.heap.size w2 (w2.alloc (.cells #[.int .i64 x0.sec, .slice A2 x0.seen.length c2, .slice B2 x0.pool.length d2] 26)) := (Below.refl _ _).alloc (Nat.le_refl _) _
  have HL0 : Hid (LmRel s rb (N + 2) w2.heap.size w (w2.alloc (.cells #[.int .i64 x0.sec, .slice A2 x0.seen.length c2, .slice B2 x0.pool.length d2] 26)) x0 A2 c2 B2 d2) :=
    ⟨heap_alloc_new _ _, ((hm2.q (Pr := fun z => w.heap.size < z ∧ z ≠ w2.heap.size) fun z h1 h2 => ⟨by omega, by omega⟩).below hal (Nat.le_refl _)), HOK2.out, HSE2.out, R2.out.below hal (by omega), grown_trans G2.out (grown_of_below (row := some rb) hal), Z2.out.below hal (Nat.le_refl _)⟩
  have hb4 : w.heap.size < w2.heap.size := by omega
  clear hal hm2 hb2 Z1 Z2 G1 G2 R1 R2 HNM HOK2 HSE2
  -- FROM HERE BY PROGRAM
  go_wp2_with fail
  generalize (w2.alloc (.cells #[.int .i64 x0.sec, .slice A2 x0.seen.length c2, .slice B2 x0.pool.length d2] 26)) = w3 at *
  generalize w2.heap.size = b4 at *
  ((with_reducible refine (pick rb (N + 2) _ _ HL0.out.rd (by omega) (by omega) (by omega)).mono ?_); rintro e w4 ⟨v4, rfl, hv0, hv1, r4, g4, s4⟩)
  obtain ⟨n0, rfl⟩ := Int.eq_ofNat_of_zero_le hv0
  replace HL0 := Lib.hid (HL0.out.grown g4 r4 hrb hb4)
  clear r4 g4 s4
  go_wp2_with fail
  ((with_reducible refine (pick rb (N + 2 + 1) _ _ HL0.out.rd (by omega) (by omega) (by omega)).mono ?_); rintro e w5 ⟨v5, rfl, hu0, hu1, r5, g5, s5⟩)
  replace HL0 := Lib.hid (HL0.out.grown g5 r5 hrb hb4)
  clear r5 g5 s5
  by_cases hv5 : v5 = 0
  · subst hv5
    go_wp2
    go_loopw [7] (fun i wr => ∃ (k : Nat) (x : Mx) (A : Option Addr) (c : Nat) (B : Option Addr) (d : Nat), k ≤ 14 ∧ i = .int .i64 k ∧ Hid (LmRel s rb (N + 4 + 41 * k) b4 w wr x A c B d)) (fun i _ => 14 - (intOf i).toNat)
    case atStart => exact ⟨0, x0, A2, c2, B2, d2, Nat.zero_le _, rfl, HL0.out⟩
    case round =>
      obtain ⟨k, x, A, c, B, d, hk, rfl, hL⟩ := hrel
      clear HL0
      obtain ⟨a0, a1, a2, af⟩ := three_cells hL.out.var
      by_cases hlk : k < 14
      · have hbl := blk_lt hL.out.var
        have HOKX := Lib.hid hL.out.2.2.1
        have HSEX := Lib.hid hL.out.2.2.2.1
        have HGR := Lib.hid hL.out.2.2.2.2.2.1
        have RD : Hid (Reader wr.drew rb (N + 4 + 41 * k)) := hL.out.rd
        have hLd : LmRel s rb (N + 4 + 41 * k) b4 w wr.drew x A c B d := ⟨hL.out.1, hL.out.2.1, HOKX.out, HSEX.out, RD.out, ⟨HGR.out.os, HGR.out.tape, HGR.out.output, HGR.out.size, HGR.out.block⟩, hL.out.2.2.2.2.2.2⟩
        have HLD := Lib.hid hLd
        have HGX : Hid (Gm.inG x.sec = true) := by show _ = _; rw [HSEX.out]; exact HGS.out
        obtain ⟨hsn, hpn, hpl⟩ := Sp6.mix_sizes HOKX.out
        have HNX : x.seen.length ≤ 1000 := by omega
        have HMX : x.pool.length ≤ 1000 := by omega
        have HHX : Hid (∀ p ∈ x.pool, p.pk.hd.length ≤ 1000 ∧ p.pk.bd.length ≤ 1000) := fun p hp => by have := hpl p hp; omega
        have hNk : N + 4 + 41 * k ≤ 70000 := by omega
        clear hLd hpl
        go_wp2_with fail
        go_region_law (first | (go_simp; go_at_call 56; refine (Sp6.l11TakeS x p _ _ _ _ _ _ _ _ _ _ _ _ _ _ _ _ _ h5.mix i1 i2 HNX HMX HHX.out HGX.out hpk).mono ?_; rintro e w6 ⟨A6, c6, B6, d6, rfl, hm6, hb6⟩; obtain ⟨q0, q1, q2, qf⟩ := three_cells (h5.var.below hb6 (Nat.le_refl _))) | (go_simp; go_at_call 66; refine (l91PacketG rb (N + 4 + 41 * k) s _ RD.out hNk).mono ?_; rintro e w5 ⟨p, A5, c5, B5, d5, rfl, i1, i2, hl1, hl2, r5, g5, hpo⟩; have hpk := hpo HGS.out; have h5 := HLD.out.grown g5 r5 hrb hb4; obtain ⟨m0, m1, m2, mf⟩ := three_cells h5.var) | fail)
        all_goals
          have hL7 := lm_store (w1 := w) (h5.var.below hb6 (Nat.le_refl _)) hm6 (blk_lt h5.var) hb4 (take_ok HOKX.out hpk) ((take_sec x p).trans HSEX.out) (h5.rd.below hb6 (Nat.lt_of_lt_of_le hrb h5.2.2.2.2.2.1.size)) hrb (grown_trans h5.2.2.2.2.2.1 (grown_of_below (row := some rb) hb6)) (h5.2.2.2.2.2.2.below hb6 (Nat.le_refl _)) rfl
          have HL7 := Lib.hid hL7
          clear hL7 hm6 hb6 h5 q0 q1 q2 qf m0 m1 m2 mf i1 i2 hpo hpk hl1 hl2 r5 g5 a0 a1 a2 af HOKX HSEX HGR RD HLD HGX HNX HMX HHX hsn hpn hL
          generalize takeM x p = y at *
          generalize ((w6.setCell ⟨b4, 0, none⟩ (.int .i64 y.sec)).setCell ⟨b4, 1, none⟩ (.slice A6 y.seen.length c6)).setCell ⟨b4, 2, none⟩ (.slice B6 y.pool.length d6) = w7 at *
          go_wp2_with fail
          ((with_reducible refine (pick rb (N + 4 + 41 * k + 40) _ _ HL7.out.rd (by omega) (by omega) (by omega)).mono ?_); rintro e w8 ⟨v8, rfl, hx0, hx1, r8, g8, s8⟩)
          have HL8 := Lib.hid (HL7.out.grown g8 r8 hrb hb4)
          clear HL7 r8 g8 s8
          by_cases hv8 : v8 = 0
          · subst hv8
            obtain ⟨q0, q1, q2, qf⟩ := three_cells HL8.out.var
            go_wp2_with fail
            ((with_reducible refine (Sp6.MixFlushS y true _ _ _ _ _ _ _ HL8.out.mix).mono ?_); rintro e w9 ⟨A9, c9, B9, d9, C9, q9, rfl, hm9, hp9, hb9⟩)
            have h8 := HL8.out
            have HL9 := Lib.hid (lm_store (w1 := w) (h8.var.below hb9 (Nat.le_refl _)) hm9 (blk_lt h8.var) hb4 (flush_ok h8.2.2.1) ((flush_sec h8.2.2.1).trans h8.2.2.2.1) (h8.rd.below hb9 (Nat.lt_of_lt_of_le hrb h8.2.2.2.2.2.1.size)) hrb (grown_trans h8.2.2.2.2.2.1 (grown_of_below (row := some rb) hb9)) (h8.2.2.2.2.2.2.below hb9 (Nat.le_refl _)) rfl)
            obtain ⟨t0, t1, t2, tf⟩ := three_cells (h8.var.below hb9 (Nat.le_refl _))
            clear h8 HL8 hm9 hp9 hb9 q0 q1 q2 qf
            generalize flushM y true = z at *
            generalize flushL y true = zl at *
            go_wp2
            go_roundw
            case rel => exact ⟨k + 1, z, A9, c9, B9, d9, by omega, by go_num, HL9.out.to (by omega)⟩
            case measure => simp [intOf]; omega
          · have e8 : (v8 == 0) = false := by simpa using hv8
            clear hv8
            go_wp2
            go_roundw
            case rel => exact ⟨k + 1, y, A6, c6, B6, d6, by omega, by go_num, HL8.out.to (by omega)⟩
            case measure => simp [intOf]; omega
      · have hkk := hk
        go_wp2_with fail
        ((with_reducible refine (pick rb (N + 4 + 41 * k) _ _ hL.out.rd (by omega) (by omega) (by omega)).mono ?_); rintro e w6 ⟨v6, rfl, hx0, hx1, r6, g6, s6⟩)
        have HL6 := Lib.hid (hL.out.grown g6 r6 hrb hb4)
        clear hL r6 g6 s6 a0 a1 a2 af
        have hN1 : N + 4 + 41 * k + 1 ≤ 90000 := by omega
        have hN1c : N + 4 + 41 * k + 1 ≤ 100000 := by omega
        have hN2c : N + 4 + 41 * k + 1 + 1 ≤ 100000 := by omega
        have hN3 : N + 4 + 41 * k + 1 + 1 + 1 ≤ N + 700 := by omega
        have hN4 : N + 4 + 41 * k + 1 + 3 ≤ N + 700 := by omega
        have hN5 : N + 4 + 41 * k + 1 ≤ N + 700 := by omega
        by_cases e60 : v6 = 0
        · subst e60
          go_wp2_with fail
          ((with_reducible refine (l91Is rb (N + 4 + 41 * k + 1) _ HL6.out.rd (by omega)).mono ?_); rintro e w7 ⟨v7, rfl, hy0, hy1, r7, g7⟩)
          have h7 := HL6.out.grown g7 r7 hrb hb4
          have HE := Lib.hid (h7.set0 (N' := N + 700) hrb hb4 v7 ⟨hy0, hy1⟩ hN4)
          obtain ⟨q0, q1, q2, qf⟩ := three_cells h7.var
          clear h7 HL6 r7 g7
          go_upto_region 20 with (fail)
          clear q0 q1 q2 qf
          obtain ⟨y, hy⟩ : ∃ y, y = (⟨v7, x.seen, x.pool⟩ : Mx) := ⟨_, rfl⟩
          rw [← hy] at HE
          obtain ⟨e0, e1, e2, ef⟩ := three_cells HE.out.1
          obtain ⟨z0, z1, z2, zf⟩ := three_cells HE.out.2.2.2.2.2.2.2.2
          generalize w7.setCell ⟨b4, 0, none⟩ (.int .i64 v7) = w9 at *
          go_wp2
          refine bodyPost_ret (v := .agg #[.int .i64 y.sec, .slice A y.seen.length c, .slice B y.pool.length d]) ?_ rfl ?_
          · rw [results_cell1 rfl]
            go_simp
          · exact HE.out.fin hrb _ _ _
        have e60' : (v6 == 0) = false := by simpa using e60
        have hL6 := HL6.out
        have hLd : LmRel s rb (N + 4 + 41 * k + 1) b4 w w6.drew x A c B d := ⟨hL6.1, hL6.2.1, hL6.2.2.1, hL6.2.2.2.1, hL6.rd, ⟨hL6.2.2.2.2.2.1.os, hL6.2.2.2.2.2.1.tape, hL6.2.2.2.2.2.1.output, hL6.2.2.2.2.2.1.size, hL6.2.2.2.2.2.1.block⟩, hL6.2.2.2.2.2.2⟩
        have HLD := Lib.hid hLd
        have hbl := blk_lt hL6.var
        obtain ⟨hsn, hpn, hpl⟩ := Sp6.mix_sizes hL6.2.2.1
        obtain ⟨a0, a1, a2, af⟩ := three_cells hL6.var
        clear hLd hpl hL6
        by_cases e61 : v6 = 1
        · subst e61
          have hl1 : x.seen.length + 1 ≤ 1000000 := by omega
          go_wp2_with fail
          go_region_law (first | (refine step_appD elInt g _ _ _ _ hdA _ _ _ _ _ _ hrl one1 hl1 (.tmp 51) (.tmp 54) rfl rfl (by go_simp) (by go_simp) ?_; intro g8 v8 w8 hd8 hg8 hgr8; have hd8' : Dest 3 1 g8 w8 v8 (x.seen.length + 1) ((x.seen ++ [v7]).map (Value.int .i64)) := (by rw [List.map_append]; exact hd8); obtain ⟨A8, c8, b8, rfl, _, _⟩ := dest_ints hd8'; have hv8 : Blk w8 b4 _ 26 := (hgr8.block b4 (Nat.lt_of_lt_of_le hbl7 hal.size) (fun e => (hgk b4 e.symm).1.2 rfl)).trans (h7.var.below hal (Nat.le_refl _)); obtain ⟨t0, t1, t2, tf⟩ := three_cells hv8) | (go_simp; go_at_call 67; refine (l91Is rb (N + 4 + 41 * k + 1) _ HLD.out.rd hN1).mono ?_; rintro e w7 ⟨v7, rfl, hy0, hy1, r7, g7⟩; have h7 := HLD.out.grown g7 r7 hrb hb4; have hbl7 := blk_lt h7.var; obtain ⟨g, H, hd, hpo, hpr, hgk⟩ := h7.2.1; obtain ⟨n0, n1, n2, nf⟩ := three_cells h7.var; have hal : Below w7.heap.size w7 (w7.alloc (.cells #[.int .i64 v7] 3)) := (Below.refl _ _).alloc (Nat.le_refl _) _; obtain ⟨o0, o1, o2, of⟩ := three_cells (h7.var.below hal (Nat.le_refl _)); have hdA := dest_keep hd (w' := (w7.alloc (.cells #[.int .i64 v7] 3))) (fun k e => hal.block k (dest_lt hd k e)); have hrl := row_lit w7 3 [.int .i64 v7] rfl; have one1 : ∀ u ∈ [Value.int .i64 v7], u.oneCell' = true := (by intro u hu; simp at hu; subst hu; rfl)) | fail)
          all_goals
            have HE := Lib.hid (h7.app (N' := N + 700) hpo hpr hgk hd8' hg8 hgr8 hrb hb4 hs0 hs1 hN4)
            clear HL6 HLD h7 hd hpo hpr hgk hd8 hd8' hg8 hgr8 hdA hrl one1 hal hv8 a0 a1 a2 af n0 n1 n2 nf o0 o1 o2 of t0 t1 t2 tf r7 g7
            obtain ⟨y, hy⟩ : ∃ y, y = (⟨x.sec, x.seen ++ [v7], x.pool⟩ : Mx) := ⟨_, rfl⟩
            rw [← hy] at HE
            obtain ⟨e0, e1, e2, ef⟩ := three_cells HE.out.1
            obtain ⟨z0, z1, z2, zf⟩ := three_cells HE.out.2.2.2.2.2.2.2.2
            generalize w8.setCell ⟨b4, 1, none⟩ (.slice A8 (x.seen.length + 1) c8) = w9 at *
            go_wp2
            refine bodyPost_ret (v := .agg #[.int .i64 y.sec, .slice A8 y.seen.length c8, .slice B y.pool.length d]) ?_ rfl ?_
            · rw [results_cell1 rfl]
              go_simp
            · exact HE.out.fin hrb _ _ _
        have e61' : (v6 == 1) = false := by simpa using e61
        by_cases e62 : v6 = 2
        · subst e62
          by_cases hpz : 0 < x.pool.length
          · have hpzI : (0 : Int) < (x.pool.length : Int) := by omega
            have hp1 : (x.pool.length : Int) ≤ 100000 := by omega
            have hp0 : (1 : Int) ≤ (x.pool.length : Int) := by omega
            go_wp2_with fail
            go_region_law (first | (go_simp; go_at_call 35; refine (pick rb (N + 4 + 41 * k + 1 + 1) 10 _ h7.rd hN2c (by decide) (by decide)).mono ?_; rintro e w8 ⟨u8, rfl, hu80, hu81, r8, g8, s8⟩; have h8 := h7.grown g8 r8 hrb hb4; obtain ⟨t0, t1, t2, tf⟩ := three_cells h8.var; have hw8 : IntKind.i64.wrap (u8 - 1) = u8 - 1 := IntWalk.i64_in _ (by omega); obtain ⟨bp, off, vv, pp, rfl, hbp, cv, fv, hE⟩ := h8.next (N' := N + 700) hjl hrb hs0 hs1 hN3) | (go_simp; go_at_call 35; refine (pick rb (N + 4 + 41 * k + 1) (x.pool.length : Int) _ HLD.out.rd hN1c hp0 hp1).mono ?_; rintro e w7 ⟨j7, rfl, hj0, hj1, r7, g7, s7⟩; obtain ⟨j, rfl⟩ := Int.eq_ofNat_of_zero_le hj0; have hjl : j < x.pool.length := (by omega); have h7 := HLD.out.grown g7 r7 hrb hb4; obtain ⟨m0, m1, m2, mf⟩ := three_cells h7.var) | fail)
            all_goals
              have HE := Lib.hid (hE (u8 - 1))
              clear HL6 HLD h7 h8 hE a0 a1 a2 af m0 m1 m2 mf t0 t1 t2 tf cv fv r7 g7 s7 r8 g8 s8
              obtain ⟨y, hy⟩ : ∃ y, y = (⟨x.sec, x.seen, x.pool.set j ⟨pp.kind, u8 - 1, pp.pk⟩⟩ : Mx) := ⟨_, rfl⟩
              rw [← hy] at HE
              obtain ⟨e0, e1, e2, ef⟩ := three_cells HE.out.1
              obtain ⟨z0, z1, z2, zf⟩ := three_cells HE.out.2.2.2.2.2.2.2.2
              generalize w8.setCell ⟨bp, off + j * 6 + 1, none⟩ (.int .i64 (u8 - 1)) = w9 at *
              go_wp2
              refine bodyPost_ret (v := .agg #[.int .i64 y.sec, .slice A y.seen.length c, .slice (some ⟨bp, off, none⟩) y.pool.length d]) ?_ rfl ?_
              · rw [results_cell1 rfl]
                go_simp
              · exact HE.out.fin hrb _ _ _
          · have hpz0 : x.pool.length = 0 := by omega
            have HE := Lib.hid (HL6.out.e (N' := N + 700) hs0 hs1 hN5)
            have hpzI : ¬ (0 : Int) < (x.pool.length : Int) := by omega
            clear HL6 HLD
            obtain ⟨y, hy⟩ : ∃ y, y = x := ⟨_, rfl⟩
            rw [← hy] at HE
            obtain ⟨e0, e1, e2, ef⟩ := three_cells HE.out.1
            obtain ⟨z0, z1, z2, zf⟩ := three_cells HE.out.2.2.2.2.2.2.2.2
            go_wp2
            refine bodyPost_ret (v := .agg #[.int .i64 y.sec, .slice A y.seen.length c, .slice B y.pool.length d]) ?_ rfl ?_
            · rw [results_cell1 rfl]
              go_simp
            · exact HE.out.fin hrb _ _ _
        have e62' : (v6 == 2) = false := by simpa using e62
        have HE := Lib.hid (HL6.out.e (N' := N + 700) hs0 hs1 hN5)
        clear HL6 HLD
        obtain ⟨y, hy⟩ : ∃ y, y = x := ⟨_, rfl⟩
        rw [← hy] at HE
        obtain ⟨e0, e1, e2, ef⟩ := three_cells HE.out.1
        obtain ⟨z0, z1, z2, zf⟩ := three_cells HE.out.2.2.2.2.2.2.2.2
        go_wp2
        refine bodyPost_ret (v := .agg #[.int .i64 y.sec, .slice A y.seen.length c, .slice B y.pool.length d]) ?_ rfl ?_
        · rw [results_cell1 rfl]
          go_simp
        · exact HE.out.fin hrb _ _ _
  · have e5 : (v5 == 0) = false := by simpa using hv5
    clear hv5
    go_wp2
    go_loopw [7] (fun i wr => ∃ (k : Nat) (x : Mx) (A : Option Addr) (c : Nat) (B : Option Addr) (d : Nat), k ≤ n0 ∧ i = .int .i64 k ∧ Hid (LmRel s rb (N + 4 + 41 * k) b4 w wr x A c B d)) (fun i _ => n0 - (intOf i).toNat)
    case atStart => exact ⟨0, x0, A2, c2, B2, d2, Nat.zero_le _, rfl, HL0.out⟩
    case round =>
      obtain ⟨k, x, A, c, B, d, hk, rfl, hL⟩ := hrel
      clear HL0
      obtain ⟨a0, a1, a2, af⟩ := three_cells hL.out.var
      by_cases hlk : k < n0
      · have hbl := blk_lt hL.out.var
        have HOKX := Lib.hid hL.out.2.2.1
        have HSEX := Lib.hid hL.out.2.2.2.1
        have HGR := Lib.hid hL.out.2.2.2.2.2.1
        have RD : Hid (Reader wr.drew rb (N + 4 + 41 * k)) := hL.out.rd
        have hLd : LmRel s rb (N + 4 + 41 * k) b4 w wr.drew x A c B d := ⟨hL.out.1, hL.out.2.1, HOKX.out, HSEX.out, RD.out, ⟨HGR.out.os, HGR.out.tape, HGR.out.output, HGR.out.size, HGR.out.block⟩, hL.out.2.2.2.2.2.2⟩
        have HLD := Lib.hid hLd
        have HGX : Hid (Gm.inG x.sec = true) := by show _ = _; rw [HSEX.out]; exact HGS.out
        obtain ⟨hsn, hpn, hpl⟩ := Sp6.mix_sizes HOKX.out
        have HNX : x.seen.length ≤ 1000 := by omega
        have HMX : x.pool.length ≤ 1000 := by omega
        have HHX : Hid (∀ p ∈ x.pool, p.pk.hd.length ≤ 1000 ∧ p.pk.bd.length ≤ 1000) := fun p hp => by have := hpl p hp; omega
        have hNk : N + 4 + 41 * k ≤ 70000 := by omega
        clear hLd hpl
        go_wp2_with fail
        go_region_law (first | (go_simp; go_at_call 56; refine (Sp6.l11TakeS x p _ _ _ _ _ _ _ _ _ _ _ _ _ _ _ _ _ h5.mix i1 i2 HNX HMX HHX.out HGX.out hpk).mono ?_; rintro e w6 ⟨A6, c6, B6, d6, rfl, hm6, hb6⟩; obtain ⟨q0, q1, q2, qf⟩ := three_cells (h5.var.below hb6 (Nat.le_refl _))) | (go_simp; go_at_call 66; refine (l91PacketG rb (N + 4 + 41 * k) s _ RD.out hNk).mono ?_; rintro e w5 ⟨p, A5, c5, B5, d5, rfl, i1, i2, hl1, hl2, r5, g5, hpo⟩; have hpk := hpo HGS.out; have h5 := HLD.out.grown g5 r5 hrb hb4; obtain ⟨m0, m1, m2, mf⟩ := three_cells h5.var) | fail)
        all_goals
          have hL7 := lm_store (w1 := w) (h5.var.below hb6 (Nat.le_refl _)) hm6 (blk_lt h5.var) hb4 (take_ok HOKX.out hpk) ((take_sec x p).trans HSEX.out) (h5.rd.below hb6 (Nat.lt_of_lt_of_le hrb h5.2.2.2.2.2.1.size)) hrb (grown_trans h5.2.2.2.2.2.1 (grown_of_below (row := some rb) hb6)) (h5.2.2.2.2.2.2.below hb6 (Nat.le_refl _)) rfl
          have HL7 := Lib.hid hL7
          clear hL7 hm6 hb6 h5 q0 q1 q2 qf m0 m1 m2 mf i1 i2 hpo hpk hl1 hl2 r5 g5 a0 a1 a2 af HOKX HSEX HGR RD HLD HGX HNX HMX HHX hsn hpn hL
          generalize takeM x p = y at *
          generalize ((w6.setCell ⟨b4, 0, none⟩ (.int .i64 y.sec)).setCell ⟨b4, 1, none⟩ (.slice A6 y.seen.length c6)).setCell ⟨b4, 2, none⟩ (.slice B6 y.pool.length d6) = w7 at *
          go_wp2_with fail
          ((with_reducible refine (pick rb (N + 4 + 41 * k + 40) _ _ HL7.out.rd (by omega) (by omega) (by omega)).mono ?_); rintro e w8 ⟨v8, rfl, hx0, hx1, r8, g8, s8⟩)
          have HL8 := Lib.hid (HL7.out.grown g8 r8 hrb hb4)
          clear HL7 r8 g8 s8
          by_cases hv8 : v8 = 0
          · subst hv8
            obtain ⟨q0, q1, q2, qf⟩ := three_cells HL8.out.var
            go_wp2_with fail
            ((with_reducible refine (Sp6.MixFlushS y true _ _ _ _ _ _ _ HL8.out.mix).mono ?_); rintro e w9 ⟨A9, c9, B9, d9, C9, q9, rfl, hm9, hp9, hb9⟩)
            have h8 := HL8.out
            have HL9 := Lib.hid (lm_store (w1 := w) (h8.var.below hb9 (Nat.le_refl _)) hm9 (blk_lt h8.var) hb4 (flush_ok h8.2.2.1) ((flush_sec h8.2.2.1).trans h8.2.2.2.1) (h8.rd.below hb9 (Nat.lt_of_lt_of_le hrb h8.2.2.2.2.2.1.size)) hrb (grown_trans h8.2.2.2.2.2.1 (grown_of_below (row := some rb) hb9)) (h8.2.2.2.2.2.2.below hb9 (Nat.le_refl _)) rfl)
            obtain ⟨t0, t1, t2, tf⟩ := three_cells (h8.var.below hb9 (Nat.le_refl _))
            clear h8 HL8 hm9 hp9 hb9 q0 q1 q2 qf
            generalize flushM y true = z at *
            generalize flushL y true = zl at *
            go_wp2
            go_roundw
            case rel => exact ⟨k + 1, z, A9, c9, B9, d9, by omega, by go_num, HL9.out.to (by omega)⟩
            case measure => simp [intOf]; omega
          · have e8 : (v8 == 0) = false := by simpa using hv8
            clear hv8
            go_wp2
            go_roundw
            case rel => exact ⟨k + 1, y, A6, c6, B6, d6, by omega, by go_num, HL8.out.to (by omega)⟩
            case measure => simp [intOf]; omega
      · have hkk := hk
        go_wp2_with fail
        ((with_reducible refine (pick rb (N + 4 + 41 * k) _ _ hL.out.rd (by omega) (by omega) (by omega)).mono ?_); rintro e w6 ⟨v6, rfl, hx0, hx1, r6, g6, s6⟩)
        have HL6 := Lib.hid (hL.out.grown g6 r6 hrb hb4)
        clear hL r6 g6 s6 a0 a1 a2 af
        have hN1 : N + 4 + 41 * k + 1 ≤ 90000 := by omega
        have hN1c : N + 4 + 41 * k + 1 ≤ 100000 := by omega
        have hN2c : N + 4 + 41 * k + 1 + 1 ≤ 100000 := by omega
        have hN3 : N + 4 + 41 * k + 1 + 1 + 1 ≤ N + 700 := by omega
        have hN4 : N + 4 + 41 * k + 1 + 3 ≤ N + 700 := by omega
        have hN5 : N + 4 + 41 * k + 1 ≤ N + 700 := by omega
        by_cases e60 : v6 = 0
        · subst e60
          go_wp2_with fail
          ((with_reducible refine (l91Is rb (N + 4 + 41 * k + 1) _ HL6.out.rd (by omega)).mono ?_); rintro e w7 ⟨v7, rfl, hy0, hy1, r7, g7⟩)
          have h7 := HL6.out.grown g7 r7 hrb hb4
          have HE := Lib.hid (h7.set0 (N' := N + 700) hrb hb4 v7 ⟨hy0, hy1⟩ hN4)
          obtain ⟨q0, q1, q2, qf⟩ := three_cells h7.var
          clear h7 HL6 r7 g7
          go_upto_region 20 with (fail)
          clear q0 q1 q2 qf
          obtain ⟨y, hy⟩ : ∃ y, y = (⟨v7, x.seen, x.pool⟩ : Mx) := ⟨_, rfl⟩
          rw [← hy] at HE
          obtain ⟨e0, e1, e2, ef⟩ := three_cells HE.out.1
          obtain ⟨z0, z1, z2, zf⟩ := three_cells HE.out.2.2.2.2.2.2.2.2
          generalize w7.setCell ⟨b4, 0, none⟩ (.int .i64 v7) = w9 at *
          go_wp2
          refine bodyPost_ret (v := .agg #[.int .i64 y.sec, .slice A y.seen.length c, .slice B y.pool.length d]) ?_ rfl ?_
          · rw [results_cell1 rfl]
            go_simp
          · exact HE.out.fin hrb _ _ _
        have e60' : (v6 == 0) = false := by simpa using e60
        have hL6 := HL6.out
        have hLd : LmRel s rb (N + 4 + 41 * k + 1) b4 w w6.drew x A c B d := ⟨hL6.1, hL6.2.1, hL6.2.2.1, hL6.2.2.2.1, hL6.rd, ⟨hL6.2.2.2.2.2.1.os, hL6.2.2.2.2.2.1.tape, hL6.2.2.2.2.2.1.output, hL6.2.2.2.2.2.1.size, hL6.2.2.2.2.2.1.block⟩, hL6.2.2.2.2.2.2⟩
        have HLD := Lib.hid hLd
        have hbl := blk_lt hL6.var
        obtain ⟨hsn, hpn, hpl⟩ := Sp6.mix_sizes hL6.2.2.1
        obtain ⟨a0, a1, a2, af⟩ := three_cells hL6.var
        clear hLd hpl hL6
        by_cases e61 : v6 = 1
        · subst e61
          have hl1 : x.seen.length + 1 ≤ 1000000 := by omega
          go_wp2_with fail
          go_region_law (first | (refine step_appD elInt g _ _ _ _ hdA _ _ _ _ _ _ hrl one1 hl1 (.tmp 51) (.tmp 54) rfl rfl (by go_simp) (by go_simp) ?_; intro g8 v8 w8 hd8 hg8 hgr8; have hd8' : Dest 3 1 g8 w8 v8 (x.seen.length + 1) ((x.seen ++ [v7]).map (Value.int .i64)) := (by rw [List.map_append]; exact hd8); obtain ⟨A8, c8, b8, rfl, _, _⟩ := dest_ints hd8'; have hv8 : Blk w8 b4 _ 26 := (hgr8.block b4 (Nat.lt_of_lt_of_le hbl7 hal.size) (fun e => (hgk b4 e.symm).1.2 rfl)).trans (h7.var.below hal (Nat.le_refl _)); obtain ⟨t0, t1, t2, tf⟩ := three_cells hv8) | (go_simp; go_at_call 67; refine (l91Is rb (N + 4 + 41 * k + 1) _ HLD.out.rd hN1).mono ?_; rintro e w7 ⟨v7, rfl, hy0, hy1, r7, g7⟩; have h7 := HLD.out.grown g7 r7 hrb hb4; have hbl7 := blk_lt h7.var; obtain ⟨g, H, hd, hpo, hpr, hgk⟩ := h7.2.1; obtain ⟨n0, n1, n2, nf⟩ := three_cells h7.var; have hal : Below w7.heap.size w7 (w7.alloc (.cells #[.int .i64 v7] 3)) := (Below.refl _ _).alloc (Nat.le_refl _) _; obtain ⟨o0, o1, o2, of⟩ := three_cells (h7.var.below hal (Nat.le_refl _)); have hdA := dest_keep hd (w' := (w7.alloc (.cells #[.int .i64 v7] 3))) (fun k e => hal.block k (dest_lt hd k e)); have hrl := row_lit w7 3 [.int .i64 v7] rfl; have one1 : ∀ u ∈ [Value.int .i64 v7], u.oneCell' = true := (by intro u hu; simp at hu; subst hu; rfl)) | fail)
          all_goals
            have HE := Lib.hid (h7.app (N' := N + 700) hpo hpr hgk hd8' hg8 hgr8 hrb hb4 hs0 hs1 hN4)
            clear HL6 HLD h7 hd hpo hpr hgk hd8 hd8' hg8 hgr8 hdA hrl one1 hal hv8 a0 a1 a2 af n0 n1 n2 nf o0 o1 o2 of t0 t1 t2 tf r7 g7
            obtain ⟨y, hy⟩ : ∃ y, y = (⟨x.sec, x.seen ++ [v7], x.pool⟩ : Mx) := ⟨_, rfl⟩
            rw [← hy] at HE
            obtain ⟨e0, e1, e2, ef⟩ := three_cells HE.out.1
            obtain ⟨z0, z1, z2, zf⟩ := three_cells HE.out.2.2.2.2.2.2.2.2
            generalize w8.setCell ⟨b4, 1, none⟩ (.slice A8 (x.seen.length + 1) c8) = w9 at *
            go_wp2
            refine bodyPost_ret (v := .agg #[.int .i64 y.sec, .slice A8 y.seen.length c8, .slice B y.pool.length d]) ?_ rfl ?_
            · rw [results_cell1 rfl]
              go_simp
            · exact HE.out.fin hrb _ _ _
        have e61' : (v6 == 1) = false := by simpa using e61
        by_cases e62 : v6 = 2
        · subst e62
          by_cases hpz : 0 < x.pool.length
          · have hpzI : (0 : Int) < (x.pool.length : Int) := by omega
            have hp1 : (x.pool.length : Int) ≤ 100000 := by omega
            have hp0 : (1 : Int) ≤ (x.pool.length : Int) := by omega
            go_wp2_with fail
            go_region_law (first | (go_simp; go_at_call 35; refine (pick rb (N + 4 + 41 * k + 1 + 1) 10 _ h7.rd hN2c (by decide) (by decide)).mono ?_; rintro e w8 ⟨u8, rfl, hu80, hu81, r8, g8, s8⟩; have h8 := h7.grown g8 r8 hrb hb4; obtain ⟨t0, t1, t2, tf⟩ := three_cells h8.var; have hw8 : IntKind.i64.wrap (u8 - 1) = u8 - 1 := IntWalk.i64_in _ (by omega); obtain ⟨bp, off, vv, pp, rfl, hbp, cv, fv, hE⟩ := h8.next (N' := N + 700) hjl hrb hs0 hs1 hN3) | (go_simp; go_at_call 35; refine (pick rb (N + 4 + 41 * k + 1) (x.pool.length : Int) _ HLD.out.rd hN1c hp0 hp1).mono ?_; rintro e w7 ⟨j7, rfl, hj0, hj1, r7, g7, s7⟩; obtain ⟨j, rfl⟩ := Int.eq_ofNat_of_zero_le hj0; have hjl : j < x.pool.length := (by omega); have h7 := HLD.out.grown g7 r7 hrb hb4; obtain ⟨m0, m1, m2, mf⟩ := three_cells h7.var) | fail)
            all_goals
              have HE := Lib.hid (hE (u8 - 1))
              clear HL6 HLD h7 h8 hE a0 a1 a2 af m0 m1 m2 mf t0 t1 t2 tf cv fv r7 g7 s7 r8 g8 s8
              obtain ⟨y, hy⟩ : ∃ y, y = (⟨x.sec, x.seen, x.pool.set j ⟨pp.kind, u8 - 1, pp.pk⟩⟩ : Mx) := ⟨_, rfl⟩
              rw [← hy] at HE
              obtain ⟨e0, e1, e2, ef⟩ := three_cells HE.out.1
              obtain ⟨z0, z1, z2, zf⟩ := three_cells HE.out.2.2.2.2.2.2.2.2
              generalize w8.setCell ⟨bp, off + j * 6 + 1, none⟩ (.int .i64 (u8 - 1)) = w9 at *
              go_wp2
              refine bodyPost_ret (v := .agg #[.int .i64 y.sec, .slice A y.seen.length c, .slice (some ⟨bp, off, none⟩) y.pool.length d]) ?_ rfl ?_
              · rw [results_cell1 rfl]
                go_simp
              · exact HE.out.fin hrb _ _ _
          · have hpz0 : x.pool.length = 0 := by omega
            have HE := Lib.hid (HL6.out.e (N' := N + 700) hs0 hs1 hN5)
            have hpzI : ¬ (0 : Int) < (x.pool.length : Int) := by omega
            clear HL6 HLD
            obtain ⟨y, hy⟩ : ∃ y, y = x := ⟨_, rfl⟩
            rw [← hy] at HE
            obtain ⟨e0, e1, e2, ef⟩ := three_cells HE.out.1
            obtain ⟨z0, z1, z2, zf⟩ := three_cells HE.out.2.2.2.2.2.2.2.2
            go_wp2
            refine bodyPost_ret (v := .agg #[.int .i64 y.sec, .slice A y.seen.length c, .slice B y.pool.length d]) ?_ rfl ?_
            · rw [results_cell1 rfl]
              go_simp
            · exact HE.out.fin hrb _ _ _
        have e62' : (v6 == 2) = false := by simpa using e62
        have HE := Lib.hid (HL6.out.e (N' := N + 700) hs0 hs1 hN5)
        clear HL6 HLD
        obtain ⟨y, hy⟩ : ∃ y, y = x := ⟨_, rfl⟩
        rw [← hy] at HE
        obtain ⟨e0, e1, e2, ef⟩ := three_cells HE.out.1
        obtain ⟨z0, z1, z2, zf⟩ := three_cells HE.out.2.2.2.2.2.2.2.2
        go_wp2
        refine bodyPost_ret (v := .agg #[.int .i64 y.sec, .slice A y.seen.length c, .slice B y.pool.length d]) ?_ rfl ?_
        · rw [results_cell1 rfl]
          go_simp
        · exact HE.out.fin hrb _ _ _

/-- A drawn mix in block bv; the result's block is empty yet. -/
def DmRel (N bv : Nat) (w wr : World) (x : Mx) (A : Option Addr) (c : Nat) (B : Option Addr) (d : Nat) : Prop :=
  Blk wr w.heap.size #[.int .i64 0, .slice none 0 0, .slice none 0 0] 26 ∧ Blk wr bv #[.int .i64 x.sec, .slice A x.seen.length c, .slice B x.pool.length d] 26 ∧ MixR (w.heap.size + 2) bv wr A x.seen.length c B x.pool.length d x ∧ Reader wr (w.heap.size + 1) N ∧ Below w.heap.size w wr ∧ w.heap.size + 2 ≤ bv ∧
    (-1 ≤ x.sec ∧ x.sec ≤ 997) ∧ x.seen.length ≤ 13 ∧ x.pool.length ≤ 5 ∧ (∀ p ∈ x.pool, p.pk.hd.length = 9 ∧ p.pk.bd.length = 6)
/-- What a law has of a drawn mix. -/
def MixHas (w w' : World) (x : Mx) (A : Option Addr) (c : Nat) (B : Option Addr) (d : Nat) : Prop :=
  MixR w.heap.size w'.heap.size w' A x.seen.length c B x.pool.length d x ∧ (-1 ≤ x.sec ∧ x.sec ≤ 997) ∧ x.seen.length ≤ 13 ∧ x.pool.length ≤ 5 ∧ (∀ p ∈ x.pool, p.pk.hd.length = 9 ∧ p.pk.bd.length = 6) ∧ Below w.heap.size w w'
section
variable {N N' bv : Nat} {w wr w' : World} {x : Mx} {A : Option Addr} {c : Nat} {B : Option Addr} {d : Nat}
theorem DmRel.grown (h : DmRel N bv w wr x A c B d) (hg : wr.grownBy w' (some (w.heap.size + 1))) (hr : Reader w' (w.heap.size + 1) N') : DmRel N' bv w w' x A c B d := by
  obtain ⟨h1, h2, h3, h4, h5, h6, h7⟩ := h
  have hb := blk_lt h2
  refine ⟨blk_grown h1 hg (by simp), blk_grown h2 hg (by simp; omega), ⟨h3.1.grown hg (fun k e => by simp at e; omega), h3.2.grown hg (fun k e => by simp at e; omega)⟩, hr, below_g h5 hg (by omega) (fun k e => by simp at e; omega), h6, h7⟩
theorem DmRel.rd (h : DmRel N bv w wr x A c B d) : Reader wr (w.heap.size + 1) N := h.2.2.2.1
theorem DmRel.drew (h : DmRel N bv w wr x A c B d) : DmRel N bv w wr.drew x A c B d := by
  obtain ⟨h1, h2, h3, h4, h5, h6, h7⟩ := h
  exact ⟨h1, h2, ⟨h3.1, h3.2⟩, h4, ⟨h5.os, h5.tape, h5.output, h5.size, h5.block⟩, h6, h7⟩
theorem DmRel.fin (h : DmRel N bv w wr x A c B d) (v0 v1 v2 : Value) : MixHas w (((wr.setCell ⟨w.heap.size, 0, none⟩ v0).setCell ⟨w.heap.size, 1, none⟩ v1).setCell ⟨w.heap.size, 2, none⟩ v2) x A c B d := by
  obtain ⟨h1, h2, h3, h4, h5, h6, h7, h8, h9, h10⟩ := h
  have hb := blk_lt h2
  have hsz : (((wr.setCell ⟨w.heap.size, 0, none⟩ v0).setCell ⟨w.heap.size, 1, none⟩ v1).setCell ⟨w.heap.size, 2, none⟩ v2).heap.size = wr.heap.size := by simp [World.setCell]
  have hk : ∀ z, z ≠ w.heap.size → (((wr.setCell ⟨w.heap.size, 0, none⟩ v0).setCell ⟨w.heap.size, 1, none⟩ v1).setCell ⟨w.heap.size, 2, none⟩ v2).heap[z]? = wr.heap[z]? := fun z hz => farb3 hz _ _ _
  have m1 : MixR (w.heap.size + 2) bv (((wr.setCell ⟨w.heap.size, 0, none⟩ v0).setCell ⟨w.heap.size, 1, none⟩ v1).setCell ⟨w.heap.size, 2, none⟩ v2) A x.seen.length c B x.pool.length d x :=
    ⟨h3.1.keep (Nat.le_of_eq hsz.symm) (fun z a _ _ => hk z (by omega)), h3.2.keep (Nat.le_of_eq hsz.symm) (fun z a _ _ => hk z (by omega))⟩
  exact ⟨m1.top (by omega), h7, h8, h9, h10, ⟨h5.os, h5.tape, h5.output, by have := h5.size; omega, fun i hi => (hk i (by omega)).trans (h5.block i hi)⟩⟩
end


def FlushDraw (w : World) (e : Ending) (w' : World) : Prop :=
  ∃ (x : Mx) (A : Option Addr) (c : Nat) (B : Option Addr) (d : Nat) (v : Bool), e = .returned (.tuple #[.agg #[.int .i64 x.sec, .slice A x.seen.length c, .slice B x.pool.length d], .bool v]) ∧ MixHas w w' x A c B d
set_option maxHeartbeats 1000000 in
set_option maxRecDepth 20000 in
theorem DrawMixFlush (A0 : Option Addr) (n0 c0 : Nat) (w : World) (h : CodeIs w A0 n0 c0) :
    Calls Try.prog 9 #[.slice A0 n0 c0] w (FlushDraw w) := by
  have hal : Below w.heap.size w (w.alloc (.cells #[.int .i64 0, .slice none 0 0, .slice none 0 0] 26)) := (Below.refl _ _).alloc (Nat.le_refl _) _
  have hz : Blk (w.alloc (.cells #[.int .i64 0, .slice none 0 0, .slice none 0 0] 26)) w.heap.size #[.int .i64 0, .slice none 0 0, .slice none 0 0] 26 := heap_alloc_new _ _
  have HC : Hid (CodeIs (w.alloc (.cells #[.int .i64 0, .slice none 0 0, .slice none 0 0] 26)) A0 n0 c0) := by
    refine ⟨h.1, h.2.1, fun hn => ?_⟩
    obtain ⟨b, off, e, hb, hc⟩ := h.2.2 hn
    refine ⟨b, off, e, Nat.lt_of_lt_of_le hb hal.size, fun j hj => ?_⟩
    obtain ⟨u, hu, hcell⟩ := hc j hj
    exact ⟨u, hu, (hal.cell (p := ⟨b, off + j, none⟩) hb).trans hcell⟩
  have Z0 := Lib.hid hz
  have B0 := Lib.hid hal
  have hsz : (w.alloc (.cells #[.int .i64 0, .slice none 0 0, .slice none 0 0] 26)).heap.size = w.heap.size + 1 := by simp
  have HSZ := Lib.hid hsz
  clear h hal hz hsz
  go_enter Try.func9, Try.ntmps9
  go_wp2_with fail
  ((with_reducible refine (l6Open _ _ _ _ HC.out).mono ?_); rintro e w1 ⟨rfl, r1, b1, s1⟩)
  rw [HSZ.out] at r1 b1 s1 ⊢
  have Z1 := Lib.hid (Z0.out.below b1 (by rw [HSZ.out]; exact Nat.le_refl _))
  have B1 := Lib.hid (B0.out.trans (b1.mono (by omega)))
  have R1 := Lib.hid r1
  have hs1 : w.heap.size + 1 < w1.heap.size := by omega
  clear r1 b1 s1 Z0 B0 HSZ HC
  go_wp2_with fail
  ((with_reducible refine (l91Mix _ _ _ R1.out (by omega)).mono ?_); rintro e w2 ⟨x, A, c, B, d, rfl, mx, hsec, hsn, hpn, hpl, r2, g2⟩)
  have Z2 := Lib.hid (blk_grown Z1.out g2 (by simp))
  have B2 := Lib.hid (below_g B1.out g2 (by omega) (fun k e => by simp at e; omega))
  have hs2 := g2.size
  have hal : Below w2.heap.size w2 (w2.alloc (.cells #[.int .i64 x.sec, .slice A x.seen.length c, .slice B x.pool.length d] 26)) := (Below.refl _ _).alloc (Nat.le_refl _) _
  have mx2 : MixR (w.heap.size + 2) w2.heap.size w2 A x.seen.length c B x.pool.length d x := mx.top (by omega)
  have HD : Hid (DmRel _ w2.heap.size w (w2.alloc (.cells #[.int .i64 x.sec, .slice A x.seen.length c, .slice B x.pool.length d] 26)) x A c B d) :=
    ⟨Z2.out.below hal (Nat.le_refl _), heap_alloc_new _ _, mx2.below hal (Nat.le_refl _), r2.below hal (by omega), B2.out.trans (hal.mono (by omega)), by omega, hsec, hsn, hpn, hpl⟩
  clear hal mx mx2 Z1 B1 R1 Z2 B2 r2 g2 hsec hsn hpn hpl
  go_wp2_with fail
  generalize (w2.alloc (.cells #[.int .i64 x.sec, .slice A x.seen.length c, .slice B x.pool.length d] 26)) = w3 at *
  generalize w2.heap.size = bv at *
  have hne : w.heap.size + 2 ≤ bv := HD.out.2.2.2.2.2.1
  have hbl := blk_lt HD.out.2.1
  obtain ⟨k0, k1, k2, kf⟩ := three_cells HD.out.2.1
  obtain ⟨z0, z1, z2, zf⟩ := three_cells HD.out.1
  have HDD := Lib.hid HD.out.drew
  go_region_law (first | (go_simp; go_at_call 35; refine (pick _ (0 + 700) _ _ HDD.out.rd (by decide) (by decide) (by decide)).mono ?_; rintro e w6 ⟨y, rfl, hy0, hy1, r6, g6, s6⟩; have hd6 := HDD.out.grown g6 r6; obtain ⟨q0, q1, q2, qf⟩ := three_cells hd6.2.1; obtain ⟨t0, t1, t2, tf⟩ := three_cells hd6.1) | fail)
  all_goals
    have HDF := Lib.hid hd6
    clear hd6 r6 g6 s6
    go_wp2
    refine bodyPost_ret (v := .tuple #[.agg #[.int .i64 x.sec, .slice A x.seen.length c, .slice B x.pool.length d], .bool (y == 0)]) ?_ rfl ?_
    · rw [results_cell_tmp rfl]
      go_simp
    · exact ⟨x, A, c, B, d, _, rfl, HDF.out.fin _ _ _⟩

end Rd
end Go.Proofs.Ytnjcpbkpcmemeac

/-
  The draw of what MixTake is tried at.
-/
namespace Go.Proofs.Ytnjcpbkpcmemeac
open Go.RowKit
namespace Rd
open Il Pm Pq Hlp5 Sl Mm6
open Sp6 (three_cells farb3)


end Rd
end Go.Proofs.Ytnjcpbkpcmemeac
