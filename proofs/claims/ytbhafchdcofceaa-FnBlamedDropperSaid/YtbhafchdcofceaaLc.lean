/-
  Counts of links: plain lists, and how they lie in memory. Nothing of any program but the type's numbers.
-/
import Derived.Test.YtbhafchdcofceaaAv
import Derived.IntWalk
namespace Go.Proofs.Ytbhafchdcofceaa
open Go.RowKit
namespace Lc
open Il Sl

structure Cnt where
  fr : Int
  to_ : Int
  se : Int
  ba : Int
def Cnt.zero : Cnt := ⟨0, 0, 0, 0⟩
def Cnt.cells (c : Cnt) : List Value := [.int .i64 c.fr, .int .i64 c.to_, .int .i64 c.se, .int .i64 c.ba]
def Cnt.val (c : Cnt) : Value := .agg #[.int .i64 c.fr, .int .i64 c.to_, .int .i64 c.se, .int .i64 c.ba]
theorem cells_len (c : Cnt) : c.cells.length = 4 := rfl
theorem cells_one (c : Cnt) : ∀ u ∈ c.cells, u.oneCell' = true := by
  intro u hu
  simp only [Cnt.cells, List.mem_cons, List.not_mem_nil, or_false] at hu
  rcases hu with rfl | rfl | rfl | rfl <;> rfl
theorem flat_one (xs : List Cnt) : ∀ u ∈ xs.flatMap Cnt.cells, u.oneCell' = true := by
  intro u hu
  obtain ⟨s, _, h⟩ := List.mem_flatMap.1 hu
  exact cells_one s u h
theorem cnt_eq {a b : Cnt} (h1 : a.fr = b.fr) (h2 : a.to_ = b.to_) (h3 : a.se = b.se) (h4 : a.ba = b.ba) : a = b := by
  cases a; cases b; simp_all
def eqC (a b : Cnt) : Bool := decide (a.fr = b.fr) && (decide (a.to_ = b.to_) && (decide (a.se = b.se) && decide (a.ba = b.ba)))
theorem eqC_iff {a b : Cnt} : eqC a b = true ↔ a = b := by
  unfold eqC
  constructor
  · intro h
    simp only [Bool.and_eq_true, decide_eq_true_eq] at h
    exact cnt_eq h.1 h.2.1 h.2.2.1 h.2.2.2
  · rintro rfl; simp

/-- The slice A, of n places and room for c, holds the counts xs. -/
def Cnts (lo hi : Nat) (w : World) (A : Option Addr) (n c : Nat) (xs : List Cnt) : Prop := Row lo hi w A n c 4 (xs.flatMap Cnt.cells)
def CntsO (lo hi : Nat) (w : World) (A : Option Addr) (n c : Nat) (xs : List Cnt) : Prop := RowO lo hi w A n c 4 (xs.flatMap Cnt.cells)
def cntAt (xs : List Cnt) (k : Nat) : Cnt := xs.getD k Cnt.zero
theorem cntAt_get {xs : List Cnt} {k : Nat} (h : k < xs.length) : xs[k]? = some (cntAt xs k) := by
  unfold cntAt
  rw [List.getD_eq_getElem?_getD, List.getElem?_eq_getElem h]; rfl
theorem cntAt_mem {xs : List Cnt} {k : Nat} (h : k < xs.length) : cntAt xs k ∈ xs := List.mem_of_getElem? (cntAt_get h)

section
variable {lo hi lo' hi' : Nat} {w w' : World} {A : Option Addr} {n c : Nat} {xs : List Cnt}
theorem CntsO.cnts (h : CntsO lo hi w A n c xs) : Cnts lo hi w A n c xs := h.1
theorem Cnts.len_ (h : Cnts lo hi w A n c xs) : xs.length = n := by
  have := h.1
  rw [flat_len cells_len] at this
  omega
theorem Cnts.cap_ (h : Cnts lo hi w A n c xs) : n ≤ c := h.2.1
theorem Cnts.max_ (h : Cnts lo hi w A n c xs) : c ≤ 9223372036854775807 := by
  have := h.2.2.1
  unfold maxLen at this
  exact this
theorem Cnts.keep (h : Cnts lo hi w A n c xs) (hs : w.heap.size ≤ w'.heap.size) (hk : ∀ b, lo ≤ b → b < hi → b < w.heap.size → w'.heap[b]? = w.heap[b]?) : Cnts lo hi w' A n c xs := Row.keep h hs hk
theorem CntsO.keep (h : CntsO lo hi w A n c xs) (hs : w.heap.size ≤ w'.heap.size) (hk : ∀ b, lo ≤ b → b < hi → b < w.heap.size → w'.heap[b]? = w.heap[b]?) : CntsO lo hi w' A n c xs := RowO.keep h hs hk
theorem Cnts.mono (h : Cnts lo hi w A n c xs) (h1 : lo' ≤ lo) (h2 : hi ≤ hi') : Cnts lo' hi' w A n c xs := Row.mono h h1 h2
theorem CntsO.mono (h : CntsO lo hi w A n c xs) (h1 : lo' ≤ lo) (h2 : hi ≤ hi') : CntsO lo' hi' w A n c xs := ⟨Row.mono h.1 h1 h2, h.2⟩
theorem Cnts.top (h : Cnts lo hi w A n c xs) (hl : lo' ≤ lo) : Cnts lo' w.heap.size w A n c xs := Row.top h hl
theorem CntsO.top (h : CntsO lo hi w A n c xs) (hl : lo' ≤ lo) : CntsO lo' w.heap.size w A n c xs := ⟨Row.top h.1 hl, h.2⟩
theorem Cnts.below {B : Nat} (h : Cnts lo hi w A n c xs) (hb : Below B w w') (hB : w.heap.size ≤ B) : Cnts lo hi w' A n c xs := h.keep hb.size fun b _ _ hz => hb.block b (by omega)
theorem CntsO.below {B : Nat} (h : CntsO lo hi w A n c xs) (hb : Below B w w') (hB : w.heap.size ≤ B) : CntsO lo hi w' A n c xs := h.keep hb.size fun b _ _ hz => hb.block b (by omega)
theorem Cnts.below' {B : Nat} (h : Cnts lo hi w A n c xs) (hb : Below B w w') (hB : hi ≤ B) : Cnts lo hi w' A n c xs := h.keep hb.size fun b _ h2 _ => hb.block b (by omega)
theorem CntsO.below' {B : Nat} (h : CntsO lo hi w A n c xs) (hb : Below B w w') (hB : hi ≤ B) : CntsO lo hi w' A n c xs := h.keep hb.size fun b _ h2 _ => hb.block b (by omega)
theorem Cnts.grown {row : Option Nat} (h : Cnts lo hi w A n c xs) (hg : w.grownBy w' row) (hr : ∀ k, row = some k → k < lo ∨ hi ≤ k) : Cnts lo hi w' A n c xs :=
  h.keep hg.size fun b h1 h2 hz => hg.block b hz (fun e => by have := hr b e.symm; omega)
theorem CntsO.grown {row : Option Nat} (h : CntsO lo hi w A n c xs) (hg : w.grownBy w' row) (hr : ∀ k, row = some k → k < lo ∨ hi ≤ k) : CntsO lo hi w' A n c xs :=
  h.keep hg.size fun b h1 h2 hz => hg.block b hz (fun e => by have := hr b e.symm; omega)
theorem Cnts.kept {l2 h2 : Nat} (h : Cnts lo hi w A n c xs) (hk : Kept l2 h2 w w') (hd : hi ≤ l2 ∨ h2 ≤ lo) : Cnts lo hi w' A n c xs := h.keep (Nat.le_of_eq hk.size.symm) fun b h1 h2 _ => hk.block b (by omega)
theorem CntsO.kept {l2 h2 : Nat} (h : CntsO lo hi w A n c xs) (hk : Kept l2 h2 w w') (hd : hi ≤ l2 ∨ h2 ≤ lo) : CntsO lo hi w' A n c xs := h.keep (Nat.le_of_eq hk.size.symm) fun b h1 h2 _ => hk.block b (by omega)
theorem Cnts.drewN (h : Cnts lo hi w A n c xs) (d : Nat) : Cnts lo hi (w.drewN d) A n c xs := h
theorem Cnts.nil_ (hc : c ≤ maxLen) : Cnts lo hi w A 0 c [] := Row.nil_ hc
theorem CntsO.nil_ (hc : c ≤ maxLen) : CntsO lo hi w A 0 c [] := RowO.nil_ hc
theorem Cnts.take {k : Nat} (h : Cnts lo hi w A n c xs) (hk : k ≤ n) : Cnts lo hi w A k c (xs.take k) := by
  unfold Cnts
  rw [flat_take cells_len]
  exact Row.take h hk
/-- One place of the counts. -/
theorem Cnts.at_ {k : Nat} (h : Cnts lo hi w A n c xs) (hk : k < n) : ∃ b off, A = some ⟨b, off, none⟩ ∧ lo ≤ b ∧ b < hi ∧ b < w.heap.size ∧
    w.cell? ⟨b, off + k * 4, none⟩ = some (.int .i64 (cntAt xs k).fr) ∧ w.cell? ⟨b, off + k * 4 + 1, none⟩ = some (.int .i64 (cntAt xs k).to_) ∧
    w.cell? ⟨b, off + k * 4 + 2, none⟩ = some (.int .i64 (cntAt xs k).se) ∧ w.cell? ⟨b, off + k * 4 + 3, none⟩ = some (.int .i64 (cntAt xs k).ba) := by
  have hl := h.len_
  obtain ⟨b, off, rfl, hb, hb', hz, hc⟩ := h.2.2.2 (by omega)
  have hx := cntAt_get (xs := xs) (k := k) (by omega)
  have hcell : ∀ i v, i < 4 → (cntAt xs k).cells[i]? = some v → w.cell? ⟨b, off + k * 4 + i, none⟩ = some v := fun i v hi hv => by
    rw [Nat.add_assoc]
    exact hc _ v (by rw [flat_at cells_len hx hi]; exact hv)
  exact ⟨b, off, rfl, hb, hb', hz, hcell 0 _ (by omega) rfl, hcell 1 _ (by omega) rfl, hcell 2 _ (by omega) rfl, hcell 3 _ (by omega) rfl⟩
end

theorem infoCnt : (Try.prog.info? 37).map (fun i => (i.zero, i.size, i.bytes)) = some (some (.agg #[.int .i64 0, .int .i64 0, .int .i64 0, .int .i64 0]), 4, 32) := by kernel_rfl
theorem elCnt : ElT 23 37 (.agg #[.int .i64 0, .int .i64 0, .int .i64 0, .int .i64 0]) 4 32 := ⟨Try.underlying23, infoCnt, rfl, by omega, by omega⟩

/-! ### plain lists -/
def inN (x : Int) : Bool := decide (0 ≤ x ∧ x ≤ 7)
def seB (s : Int) : Bool := decide (1 ≤ s ∧ s ≤ 99)
def baB (b s : Int) : Bool := decide (0 ≤ b ∧ b ≤ s)
def okC (c : Cnt) : Bool := inN c.fr && (inN c.to_ && (!(c.fr == c.to_) && (seB c.se && baB c.ba c.se)))
def less (a b : Cnt) : Bool := decide (a.fr < b.fr) || (decide (a.fr = b.fr) && decide (a.to_ < b.to_))
def stepOk (xs : List Cnt) (i : Nat) : Bool := okC (cntAt xs i) && (i == 0 || less (cntAt xs (i - 1)) (cntAt xs i))
def loopsOk (xs : List Cnt) : Bool := (List.range xs.length).all (stepOk xs)
theorem loopsOk_iff {xs : List Cnt} : loopsOk xs = true ↔ ∀ i, i < xs.length → stepOk xs i = true := by
  unfold loopsOk
  rw [List.all_eq_true]
  exact ⟨fun h i hi => h i (List.mem_range.2 hi), fun h i hi => h i (List.mem_range.1 hi)⟩
theorem loopsOk_no {xs : List Cnt} {i : Nat} (hi : i < xs.length) (h : stepOk xs i = false) : loopsOk xs = false := by
  cases hb : loopsOk xs
  · rfl
  · rw [loopsOk_iff.1 hb i hi] at h; cases h
theorem step_succ {xs : List Cnt} {k : Nat} (h : ∀ i, i < k → stepOk xs i = true) (h2 : stepOk xs k = true) : ∀ i, i < k + 1 → stepOk xs i = true := fun i hi => by
  rcases Nat.lt_or_ge i k with h3 | h3
  · exact h i h3
  · obtain rfl : i = k := by omega
    exact h2
theorem ok_at {xs : List Cnt} (h : loopsOk xs = true) {c : Cnt} (hc : c ∈ xs) : okC c = true := by
  obtain ⟨i, hi, rfl⟩ := List.getElem_of_mem hc
  have := loopsOk_iff.1 h i hi
  unfold stepOk at this
  rw [Bool.and_eq_true] at this
  have e : cntAt xs i = xs[i] := by
    have := cntAt_get hi
    rw [List.getElem?_eq_getElem hi] at this
    exact (Option.some.inj this).symm
  rw [e] at this
  exact this.1
theorem okC_iff {c : Cnt} : okC c = true ↔ (0 ≤ c.fr ∧ c.fr ≤ 7) ∧ (0 ≤ c.to_ ∧ c.to_ ≤ 7) ∧ c.fr ≠ c.to_ ∧ (1 ≤ c.se ∧ c.se ≤ 99) ∧ 0 ≤ c.ba ∧ c.ba ≤ c.se := by
  unfold okC inN seB baB
  simp only [Bool.and_eq_true, decide_eq_true_eq, Bool.not_eq_true', beq_eq_false_iff_ne, ne_eq]

def partOk (num den : Int) : Bool := decide (1 ≤ den ∧ den ≤ 99) && decide (0 ≤ num ∧ num ≤ den)
def suspC (num den : Int) (c : Cnt) : Bool := decide (c.ba * den < num * c.se)
def suspL (xs : List Cnt) (num den : Int) : List Cnt := bif loopsOk xs && partOk num den then xs.filter (suspC num den) else []
def isL (f t : Int) (c : Cnt) : Bool := decide (c.fr = f) && decide (c.to_ = t)
def rateL (xs : List Cnt) (f t : Int) : Int × Int := bif loopsOk xs then match xs.find? (isL f t) with | some c => (c.ba, c.se) | none => (0, 0) else (0, 0)
def touch (n : Int) (c : Cnt) : Bool := decide (c.fr = n) || decide (c.to_ = n)
def cntN (xs : List Cnt) (n : Int) : Nat := xs.countP (touch n)
def blameB (xs : List Cnt) (num den n : Int) : Bool := decide (0 < cntN xs n) && decide (cntN (xs.filter (suspC num den)) n = cntN xs n)
def names : List Int := [0, 1, 2, 3, 4, 5, 6, 7]
def blamedL (xs : List Cnt) (num den : Int) : List Int := bif loopsOk xs && partOk num den then names.filter (blameB xs num den) else []

theorem take_cnt {xs : List Cnt} {k : Nat} (h : k < xs.length) : xs.take (k + 1) = xs.take k ++ [cntAt xs k] := by
  rw [List.take_add_one, cntAt_get h]; rfl
theorem filter_take {xs : List Cnt} {k : Nat} (h : k < xs.length) (p : Cnt → Bool) : (xs.take (k + 1)).filter p = (xs.take k).filter p ++ bif p (cntAt xs k) then [cntAt xs k] else [] := by
  rw [take_cnt h, List.filter_append]
  cases hp : p (cntAt xs k) <;> simp [hp]
theorem filter_len {xs : List Cnt} {k : Nat} (h : k ≤ xs.length) (p : Cnt → Bool) : ((xs.take k).filter p).length ≤ k := by
  have h1 := List.length_filter_le p (xs.take k)
  rw [List.length_take] at h1
  omega
def code (c : Cnt) : Int := c.fr * 8 + c.to_
theorem less_iff {a b : Cnt} : less a b = true ↔ a.fr < b.fr ∨ (a.fr = b.fr ∧ a.to_ < b.to_) := by
  unfold less; simp
theorem less_code {a b : Cnt} (ha : okC a = true) (hb : okC b = true) : less a b = true ↔ code a < code b := by
  rw [less_iff]
  rw [okC_iff] at ha hb
  unfold code
  omega
theorem ok_code {c : Cnt} (h : okC c = true) : 0 ≤ code c ∧ code c ≤ 63 := by
  rw [okC_iff] at h
  unfold code
  omega
theorem ok_ix {xs : List Cnt} (h : loopsOk xs = true) {k : Nat} (hk : k < xs.length) : okC (cntAt xs k) = true := ok_at h (cntAt_mem hk)
theorem ok_less {xs : List Cnt} (h : loopsOk xs = true) {k : Nat} (hk : k + 1 < xs.length) : less (cntAt xs k) (cntAt xs (k + 1)) = true := by
  have := loopsOk_iff.1 h (k + 1) hk
  unfold stepOk at this
  rw [Bool.and_eq_true] at this
  have h2 := this.2
  rw [Bool.or_eq_true] at h2
  rcases h2 with h2 | h2
  · simp at h2
  · simpa using h2
theorem ok_low {xs : List Cnt} (h : loopsOk xs = true) {k : Nat} (hk : k < xs.length) : (k : Int) ≤ code (cntAt xs k) := by
  induction k with
  | zero => exact (ok_code (ok_ix h hk)).1
  | succ k ih =>
    have h1 := ih (by omega)
    have h2 := (less_code (ok_ix h (by omega)) (ok_ix h hk)).1 (ok_less h hk)
    omega
theorem ok_len {xs : List Cnt} (h : loopsOk xs = true) : xs.length ≤ 64 := by
  rcases Nat.lt_or_ge 64 xs.length with h1 | h1
  · have h2 := ok_low h (k := 64) h1
    have h3 := (ok_code (ok_ix h h1)).2
    omega
  · exact h1
theorem partOk_iff {num den : Int} : partOk num den = true ↔ (1 ≤ den ∧ den ≤ 99) ∧ 0 ≤ num ∧ num ≤ den := by unfold partOk; simp
theorem mul_bd {a b : Int} (ha : 0 ≤ a ∧ a ≤ 99) (hb : 0 ≤ b ∧ b ≤ 99) : 0 ≤ a * b ∧ a * b ≤ 9801 := by
  refine ⟨Int.mul_nonneg ha.1 hb.1, ?_⟩
  have h1 := Int.mul_le_mul ha.2 hb.2 hb.1 (by omega : (0 : Int) ≤ 99)
  omega
/-- Both products of a suspect's test, in range. -/
theorem susp_bd {c : Cnt} {num den : Int} (hc : okC c = true) (hp : partOk num den = true) : IntKind.i64.wrap (c.ba * den) = c.ba * den ∧ IntKind.i64.wrap (num * c.se) = num * c.se := by
  rw [okC_iff] at hc
  rw [partOk_iff] at hp
  have h1 := mul_bd (a := c.ba) (b := den) (by omega) (by omega)
  have h2 := mul_bd (a := num) (b := c.se) (by omega) (by omega)
  exact ⟨IntWalk.i64_in _ (by omega), IntWalk.i64_in _ (by omega)⟩

/-- A new list of counts is returned, the call's own. -/
def CntsPost (xs : List Cnt) (w : World) (e : Ending) (w' : World) : Prop :=
  ∃ A c, e = .returned (.slice A xs.length c) ∧ CntsO w.heap.size w'.heap.size w' A xs.length c xs ∧ Below w.heap.size w w'
def CntsPairPost (xs : List Cnt) (b : Bool) (w : World) (e : Ending) (w' : World) : Prop :=
  ∃ A c, e = .returned (.tuple #[.slice A xs.length c, .bool b]) ∧ CntsO w.heap.size w'.heap.size w' A xs.length c xs ∧ Below w.heap.size w w'
def RatePost (p : Int × Int) (w : World) (e : Ending) (w' : World) : Prop := e = .returned (.tuple #[.int .i64 p.1, .int .i64 p.2]) ∧ Below w.heap.size w w'

/-! ### counts gathered by append -/
/-- The slice v, gathered since w0, holds xs. -/
def CAcc (w0 w : World) (v : Value) (xs : List Cnt) : Prop := ∃ g, w0.heap.size ≤ g ∧ AccV 37 4 g w v xs.length (xs.flatMap Cnt.cells) ∧ Below w0.heap.size w0 w
section
variable {w0 w w' : World} {v : Value} {xs : List Cnt}
theorem cacc_new (w : World) : CAcc w (w.alloc (.cells #[] 37)) (.slice (some ⟨w.heap.size, 0, none⟩) 0 0) [] :=
  ⟨w.heap.size, Nat.le_refl _, accV_new w _ _, (Below.refl _ _).alloc (Nat.le_refl _) _⟩
theorem CAcc.below (h : CAcc w0 w v xs) : Below w0.heap.size w0 w := by obtain ⟨g, _, _, hb⟩ := h; exact hb
theorem CAcc.step {B : Nat} (h : CAcc w0 w v xs) (hb : Below B w w') (hB : w.heap.size ≤ B) : CAcc w0 w' v xs := by
  obtain ⟨g, h1, h2, h3⟩ := h
  exact ⟨g, h1, h2.block (hb.block g (by have := h2.lt; omega)), h3.trans (hb.mono (by have := h3.size; omega))⟩
theorem CAcc.alloc (h : CAcc w0 w v xs) (o : Obj) : CAcc w0 (w.alloc o) v xs := h.step ((Below.refl _ _).alloc (Nat.le_refl _) o) (Nat.le_refl _)
theorem CAcc.drewN (h : CAcc w0 w v xs) (d : Nat) : CAcc w0 (w.drewN d) v xs := by
  obtain ⟨g, h1, ⟨cap, e, ho⟩, h3⟩ := h
  exact ⟨g, h1, ⟨cap, e, ho⟩, ⟨h3.os, h3.tape, h3.output, h3.size, h3.block⟩⟩
theorem CAcc.own (h : CAcc w0 w v xs) : ∃ A c, v = .slice A xs.length c ∧ CntsO w0.heap.size w.heap.size w A xs.length c xs ∧ Below w0.heap.size w0 w := by
  obtain ⟨g, h1, h2, h3⟩ := h
  obtain ⟨cap, e, hr⟩ := h2.row
  have := h2.lt
  exact ⟨_, cap, e, CntsO.mono hr h1 (by omega), h3⟩
theorem CAcc.post (h : CAcc w0 w v xs) : CntsPost xs w0 (.returned v) w := by
  obtain ⟨A, c, rfl, h1, h2⟩ := h.own
  exact ⟨A, c, rfl, h1, h2⟩
theorem CAcc.dest (h : CAcc w0 w v xs) : ∃ g, w0.heap.size ≤ g ∧ g < w.heap.size ∧ Dest 37 4 (some g) w v xs.length (xs.flatMap Cnt.cells) ∧ Below w0.heap.size w0 w := by
  obtain ⟨g, h1, h2, h3⟩ := h
  exact ⟨g, h1, h2.lt, .inr ⟨g, rfl, h2⟩, h3⟩
end
/-- What append makes of it. -/
theorem cacc_app {w0 w w' : World} {v' : Value} {xs ys : List Cnt} {g : Nat} {g' : Option Nat} (hg0 : w0.heap.size ≤ g) (hb : Below w0.heap.size w0 w) (hd : Dest 37 4 g' w' v' (xs.length + ys.length) (xs.flatMap Cnt.cells ++ ys.flatMap Cnt.cells))
    (hg : g' = some g ∨ ∃ k, g' = some k ∧ w.heap.size ≤ k) (hgr : w.grownBy w' (some g)) : CAcc w0 w' v' (xs ++ ys) := by
  have hb' : Below w0.heap.size w0 w' := hb.grown hgr hb.size fun k hk => by cases hk; exact hg0
  have hs := hb.size
  rcases hd with ⟨rfl, _⟩ | ⟨k, rfl, ha⟩
  · rcases hg with h | ⟨k, h, _⟩ <;> cases h
  · refine ⟨k, ?_, by rw [List.length_append, List.flatMap_append]; exact ha, hb'⟩
    rcases hg with h | ⟨q, h, hq⟩
    · cases h; exact hg0
    · cases h; omega

section
variable {o : Oper} {a : Act} {Q : Exit → Act → World → Prop} {K : Act → World → Prop}
/-- append(out, c), in a region of a fixed order. -/
theorem wpList_cApp {ops : Array Oper} {rest : List Oper} (w0 w : World) (v : Value) (xs : List Cnt) (hacc : CAcc w0 w v xs) (c : Cnt) (hl : xs.length ≤ 100000) (s y : Operand)
    (hgd : o.guard = none) (ho : o.op = .call { callee := .builtin .append, args := #[s, y], argTypes := #[23, 23] }) (hs : a.eval s = v) (hy : a.eval y = .slice (some ⟨w.heap.size, 0, none⟩) 1 1)
    (h : ∀ v' w', CAcc w0 w' v' (xs ++ [c]) → Below w0.heap.size w w' → wpList Try.prog ops Q rest (a.put o.dst v') w') :
    wpList Try.prog ops Q (o :: rest) a (w.alloc (.cells #[.int .i64 c.fr, .int .i64 c.to_, .int .i64 c.se, .int .i64 c.ba] 37)) := by
  obtain ⟨g, h1, h2, h3, h4⟩ := (hacc.alloc (.cells #[.int .i64 c.fr, .int .i64 c.to_, .int .i64 c.se, .int .i64 c.ba] 37)).dest
  have hb0 := hacc.below
  refine wpList_appD elCnt (some g) _ v _ _ h3 w.heap.size (w.heap.size + 1) _ 1 1 c.cells (row_lit w _ c.cells rfl) (cells_one c) (by omega) s y hgd ho hs hy fun g' v' w' q1 q2 q3 => ?_
  have hsz : (w.alloc (.cells #[.int .i64 c.fr, .int .i64 c.to_, .int .i64 c.se, .int .i64 c.ba] 37)).heap.size = w.heap.size + 1 := by simp
  have := cacc_app (ys := [c]) h1 h4 (by simpa using q1) q2 q3
  refine h v' w' this ?_
  exact ((Below.refl w0.heap.size w).alloc hb0.size _).grown q3 (by have := hb0.size; omega) fun k hk => by cases hk; exact h1
/-- .. in a region that draws its order. -/
theorem step_cApp {ops : Array Oper} {E : Prop} (w0 w : World) (v : Value) (xs : List Cnt) (hacc : CAcc w0 w v xs) (c : Cnt) (hl : xs.length ≤ 100000) (s y : Operand)
    (hgd : o.guard = none) (ho : o.op = .call { callee := .builtin .append, args := #[s, y], argTypes := #[23, 23] }) (hs : a.eval s = v) (hy : a.eval y = .slice (some ⟨w.heap.size, 0, none⟩) 1 1)
    (h : ∀ v' w', CAcc w0 w' v' (xs ++ [c]) → Below w0.heap.size w w' → K (a.put o.dst v') w') :
    if Region.wanted o (yielded ops a.tmps) = true then Oper.wp Try.prog o a (w.alloc (.cells #[.int .i64 c.fr, .int .i64 c.to_, .int .i64 c.se, .int .i64 c.ba] 37)) K Q else E := by
  obtain ⟨g, h1, h2, h3, h4⟩ := (hacc.alloc (.cells #[.int .i64 c.fr, .int .i64 c.to_, .int .i64 c.se, .int .i64 c.ba] 37)).dest
  have hb0 := hacc.below
  refine step_appD elCnt (some g) _ v _ _ h3 w.heap.size (w.heap.size + 1) _ 1 1 c.cells (row_lit w _ c.cells rfl) (cells_one c) (by omega) s y hgd ho hs hy fun g' v' w' q1 q2 q3 => ?_
  have hsz : (w.alloc (.cells #[.int .i64 c.fr, .int .i64 c.to_, .int .i64 c.se, .int .i64 c.ba] 37)).heap.size = w.heap.size + 1 := by simp
  have := cacc_app (ys := [c]) h1 h4 (by simpa using q1) q2 q3
  refine h v' w' this ?_
  exact ((Below.refl w0.heap.size w).alloc hb0.size _).grown q3 (by have := hb0.size; omega) fun k hk => by cases hk; exact h1
/-- append(out, list...), in a region of a fixed order. -/
theorem wpList_cAppL {ops : Array Oper} {rest : List Oper} (w0 w : World) (v : Value) (xs : List Cnt) (hacc : CAcc w0 w v xs) (lo hi : Nat) (B : Option Addr) (m d : Nat) (ys : List Cnt) (hx : Cnts lo hi w B m d ys) (hl : xs.length + m ≤ 1000000) (s y : Operand)
    (hgd : o.guard = none) (ho : o.op = .call { callee := .builtin .append, args := #[s, y], argTypes := #[23, 23] }) (hs : a.eval s = v) (hy : a.eval y = .slice B m d)
    (h : ∀ v' w', CAcc w0 w' v' (xs ++ ys) → Below w0.heap.size w w' → wpList Try.prog ops Q rest (a.put o.dst v') w') :
    wpList Try.prog ops Q (o :: rest) a w := by
  obtain ⟨g, h1, h2, h3, h4⟩ := hacc.dest
  have hyl := hx.len_
  subst hyl
  refine wpList_appD elCnt (some g) _ v _ _ h3 lo hi B ys.length d _ hx (flat_one ys) hl s y hgd ho hs hy fun g' v' w' q1 q2 q3 => ?_
  exact h v' w' (cacc_app h1 h4 q1 q2 q3) ((Below.refl w0.heap.size w).grown q3 h4.size fun k hk => by cases hk; exact h1)
end

end Lc
end Go.Proofs.Ytbhafchdcofceaa
