/-
  Rows of impl.Flow, a struct of 3 integers: plain lists, and how they lie in memory; lists gathered by append. Nothing of any program but the type's numbers. (gen_rec.py)
-/
import Derived.Test.YtcbhjnjallnidabAv
import Derived.IntWalk
namespace Go.Proofs.Ytcbhjnjallnidab
open Go.RowKit
namespace Fc
open Il Sl

structure Fl where
  fr : Int
  to : Int
  nm : Int
def Fl.zero : Fl := ⟨0, 0, 0⟩
def Fl.cells (c : Fl) : List Value := [.int .i64 c.fr, .int .i64 c.to, .int .i64 c.nm]
def Fl.val (c : Fl) : Value := .agg #[.int .i64 c.fr, .int .i64 c.to, .int .i64 c.nm]
theorem cells_len (c : Fl) : c.cells.length = 3 := rfl
theorem cells_one (c : Fl) : ∀ u ∈ c.cells, u.oneCell' = true := by
  intro u hu
  simp only [Fl.cells, List.mem_cons, List.not_mem_nil, or_false] at hu
  rcases hu with rfl | rfl | rfl <;> rfl
theorem flat_one (xs : List Fl) : ∀ u ∈ xs.flatMap Fl.cells, u.oneCell' = true := by
  intro u hu
  obtain ⟨s, _, h⟩ := List.mem_flatMap.1 hu
  exact cells_one s u h
theorem fl_eq {a b : Fl} (h0 : a.fr = b.fr) (h1 : a.to = b.to) (h2 : a.nm = b.nm) : a = b := by
  cases a; cases b; simp_all

/-- The slice A, of n places and room for c, holds xs. -/
def Fls (lo hi : Nat) (w : World) (A : Option Addr) (n c : Nat) (xs : List Fl) : Prop := Row lo hi w A n c 3 (xs.flatMap Fl.cells)
def FlsO (lo hi : Nat) (w : World) (A : Option Addr) (n c : Nat) (xs : List Fl) : Prop := RowO lo hi w A n c 3 (xs.flatMap Fl.cells)
def flAt (xs : List Fl) (k : Nat) : Fl := xs.getD k Fl.zero
theorem flAt_get {xs : List Fl} {k : Nat} (h : k < xs.length) : xs[k]? = some (flAt xs k) := by
  unfold flAt
  rw [List.getD_eq_getElem?_getD, List.getElem?_eq_getElem h]; rfl
theorem flAt_mem {xs : List Fl} {k : Nat} (h : k < xs.length) : flAt xs k ∈ xs := List.mem_of_getElem? (flAt_get h)
theorem take_fl {xs : List Fl} {k : Nat} (h : k < xs.length) : xs.take (k + 1) = xs.take k ++ [flAt xs k] := by
  rw [List.take_add_one, flAt_get h]; rfl

section
variable {lo hi lo' hi' : Nat} {w w' : World} {A : Option Addr} {n c : Nat} {xs : List Fl}
theorem FlsO.row_ (h : FlsO lo hi w A n c xs) : Fls lo hi w A n c xs := h.1
theorem Fls.len_ (h : Fls lo hi w A n c xs) : xs.length = n := by
  have := h.1
  rw [flat_len cells_len] at this
  omega
theorem Fls.cap_ (h : Fls lo hi w A n c xs) : n ≤ c := h.2.1
theorem Fls.max_ (h : Fls lo hi w A n c xs) : c ≤ 9223372036854775807 := by
  have := h.2.2.1
  unfold maxLen at this
  exact this
theorem Fls.keep (h : Fls lo hi w A n c xs) (hs : w.heap.size ≤ w'.heap.size) (hk : ∀ b, lo ≤ b → b < hi → b < w.heap.size → w'.heap[b]? = w.heap[b]?) : Fls lo hi w' A n c xs := Row.keep h hs hk
theorem Fls.mono (h : Fls lo hi w A n c xs) (h1 : lo' ≤ lo) (h2 : hi ≤ hi') : Fls lo' hi' w A n c xs := Row.mono h h1 h2
theorem Fls.top (h : Fls lo hi w A n c xs) (hl : lo' ≤ lo) : Fls lo' w.heap.size w A n c xs := Row.top h hl
theorem Fls.below {B : Nat} (h : Fls lo hi w A n c xs) (hb : Below B w w') (hB : w.heap.size ≤ B) : Fls lo hi w' A n c xs := h.keep hb.size fun b _ _ hz => hb.block b (by omega)
theorem Fls.below' {B : Nat} (h : Fls lo hi w A n c xs) (hb : Below B w w') (hB : hi ≤ B) : Fls lo hi w' A n c xs := h.keep hb.size fun b _ h2 _ => hb.block b (by omega)
theorem Fls.grown {row : Option Nat} (h : Fls lo hi w A n c xs) (hg : w.grownBy w' row) (hr : ∀ k, row = some k → k < lo ∨ hi ≤ k) : Fls lo hi w' A n c xs :=
  h.keep hg.size fun b h1 h2 hz => hg.block b hz (fun e => by have := hr b e.symm; omega)
theorem Fls.kept {l2 h2 : Nat} (h : Fls lo hi w A n c xs) (hk : Kept l2 h2 w w') (hd : hi ≤ l2 ∨ h2 ≤ lo) : Fls lo hi w' A n c xs := h.keep (Nat.le_of_eq hk.size.symm) fun b h1 h2 _ => hk.block b (by omega)
theorem Fls.drewN (h : Fls lo hi w A n c xs) (d : Nat) : Fls lo hi (w.drewN d) A n c xs := h
theorem Fls.nil_ (hc : c ≤ maxLen) : Fls lo hi w A 0 c [] := Row.nil_ hc
theorem FlsO.keep (h : FlsO lo hi w A n c xs) (hs : w.heap.size ≤ w'.heap.size) (hk : ∀ b, lo ≤ b → b < hi → b < w.heap.size → w'.heap[b]? = w.heap[b]?) : FlsO lo hi w' A n c xs := RowO.keep h hs hk
theorem FlsO.mono (h : FlsO lo hi w A n c xs) (h1 : lo' ≤ lo) (h2 : hi ≤ hi') : FlsO lo' hi' w A n c xs := ⟨Row.mono h.1 h1 h2, h.2⟩
theorem FlsO.top (h : FlsO lo hi w A n c xs) (hl : lo' ≤ lo) : FlsO lo' w.heap.size w A n c xs := ⟨Row.top h.1 hl, h.2⟩
theorem FlsO.below {B : Nat} (h : FlsO lo hi w A n c xs) (hb : Below B w w') (hB : w.heap.size ≤ B) : FlsO lo hi w' A n c xs := h.keep hb.size fun b _ _ hz => hb.block b (by omega)
theorem FlsO.below' {B : Nat} (h : FlsO lo hi w A n c xs) (hb : Below B w w') (hB : hi ≤ B) : FlsO lo hi w' A n c xs := h.keep hb.size fun b _ h2 _ => hb.block b (by omega)
theorem FlsO.grown {row : Option Nat} (h : FlsO lo hi w A n c xs) (hg : w.grownBy w' row) (hr : ∀ k, row = some k → k < lo ∨ hi ≤ k) : FlsO lo hi w' A n c xs :=
  h.keep hg.size fun b h1 h2 hz => hg.block b hz (fun e => by have := hr b e.symm; omega)
theorem FlsO.kept {l2 h2 : Nat} (h : FlsO lo hi w A n c xs) (hk : Kept l2 h2 w w') (hd : hi ≤ l2 ∨ h2 ≤ lo) : FlsO lo hi w' A n c xs := h.keep (Nat.le_of_eq hk.size.symm) fun b h1 h2 _ => hk.block b (by omega)
theorem FlsO.drewN (h : FlsO lo hi w A n c xs) (d : Nat) : FlsO lo hi (w.drewN d) A n c xs := h
theorem FlsO.nil_ (hc : c ≤ maxLen) : FlsO lo hi w A 0 c [] := RowO.nil_ hc
theorem Fls.take {k : Nat} (h : Fls lo hi w A n c xs) (hk : k ≤ n) : Fls lo hi w A k c (xs.take k) := by
  unfold Fls
  rw [flat_take cells_len]
  exact Row.take h hk
/-- One place. -/
theorem Fls.at_ {k : Nat} (h : Fls lo hi w A n c xs) (hk : k < n) : ∃ b off, A = some ⟨b, off, none⟩ ∧ lo ≤ b ∧ b < hi ∧ b < w.heap.size ∧
    w.cell? ⟨b, off + k * 3, none⟩ = some (.int .i64 (flAt xs k).fr) ∧ w.cell? ⟨b, off + k * 3 + 1, none⟩ = some (.int .i64 (flAt xs k).to) ∧ w.cell? ⟨b, off + k * 3 + 2, none⟩ = some (.int .i64 (flAt xs k).nm) := by
  have hl := h.len_
  obtain ⟨b, off, rfl, hb, hb', hz, hc⟩ := h.2.2.2 (by omega)
  have hx := flAt_get (xs := xs) (k := k) (by omega)
  have hcell : ∀ i v, i < 3 → (flAt xs k).cells[i]? = some v → w.cell? ⟨b, off + k * 3 + i, none⟩ = some v := fun i v hi hv => by
    rw [Nat.add_assoc]
    exact hc _ v (by rw [flat_at cells_len hx hi]; exact hv)
  exact ⟨b, off, rfl, hb, hb', hz, hcell 0 _ (by omega) rfl, hcell 1 _ (by omega) rfl, hcell 2 _ (by omega) rfl⟩
end

theorem infoFl : (Try.prog.info? 30).map (fun i => (i.zero, i.size, i.bytes)) = some (some (.agg #[.int .i64 0, .int .i64 0, .int .i64 0]), 3, 24) := by kernel_rfl
theorem elFl : ElT 26 30 (.agg #[.int .i64 0, .int .i64 0, .int .i64 0]) 3 24 := ⟨Try.underlying26, infoFl, rfl, by omega, by omega⟩

/-- A new list is returned, the call's own. -/
def FlsPost (xs : List Fl) (w : World) (e : Ending) (w' : World) : Prop :=
  ∃ A c, e = .returned (.slice A xs.length c) ∧ FlsO w.heap.size w'.heap.size w' A xs.length c xs ∧ Below w.heap.size w w'

/-! ### lists gathered by append -/
/-- The slice v, gathered since w0, holds xs. -/
def Acc (w0 w : World) (v : Value) (xs : List Fl) : Prop := ∃ g, w0.heap.size ≤ g ∧ AccV 30 3 g w v xs.length (xs.flatMap Fl.cells) ∧ Below w0.heap.size w0 w
section
variable {w0 w w' : World} {v : Value} {xs : List Fl}
theorem acc_new (w : World) : Acc w (w.alloc (.cells #[] 30)) (.slice (some ⟨w.heap.size, 0, none⟩) 0 0) [] :=
  ⟨w.heap.size, Nat.le_refl _, accV_new w _ _, (Below.refl _ _).alloc (Nat.le_refl _) _⟩
theorem Acc.below (h : Acc w0 w v xs) : Below w0.heap.size w0 w := by obtain ⟨g, _, _, hb⟩ := h; exact hb
theorem Acc.step {B : Nat} (h : Acc w0 w v xs) (hb : Below B w w') (hB : w.heap.size ≤ B) : Acc w0 w' v xs := by
  obtain ⟨g, h1, h2, h3⟩ := h
  exact ⟨g, h1, h2.block (hb.block g (by have := h2.lt; omega)), h3.trans (hb.mono (by have := h3.size; omega))⟩
theorem Acc.alloc (h : Acc w0 w v xs) (o : Obj) : Acc w0 (w.alloc o) v xs := h.step ((Below.refl _ _).alloc (Nat.le_refl _) o) (Nat.le_refl _)
theorem Acc.drewN (h : Acc w0 w v xs) (d : Nat) : Acc w0 (w.drewN d) v xs := by
  obtain ⟨g, h1, ⟨cap, e, ho⟩, h3⟩ := h
  exact ⟨g, h1, ⟨cap, e, ho⟩, ⟨h3.os, h3.tape, h3.output, h3.size, h3.block⟩⟩
theorem Acc.own (h : Acc w0 w v xs) : ∃ A c, v = .slice A xs.length c ∧ FlsO w0.heap.size w.heap.size w A xs.length c xs ∧ Below w0.heap.size w0 w := by
  obtain ⟨g, h1, h2, h3⟩ := h
  obtain ⟨cap, e, hr⟩ := h2.row
  have := h2.lt
  exact ⟨_, cap, e, FlsO.mono hr h1 (by omega), h3⟩
theorem Acc.post (h : Acc w0 w v xs) : FlsPost xs w0 (.returned v) w := by
  obtain ⟨A, c, rfl, h1, h2⟩ := h.own
  exact ⟨A, c, rfl, h1, h2⟩
theorem Acc.dest (h : Acc w0 w v xs) : ∃ g, w0.heap.size ≤ g ∧ g < w.heap.size ∧ Dest 30 3 (some g) w v xs.length (xs.flatMap Fl.cells) ∧ Below w0.heap.size w0 w := by
  obtain ⟨g, h1, h2, h3⟩ := h
  exact ⟨g, h1, h2.lt, .inr ⟨g, rfl, h2⟩, h3⟩
end
/-- What append makes of it. -/
theorem acc_app {w0 w w' : World} {v' : Value} {xs ys : List Fl} {g : Nat} {g' : Option Nat} (hg0 : w0.heap.size ≤ g) (hb : Below w0.heap.size w0 w) (hd : Dest 30 3 g' w' v' (xs.length + ys.length) (xs.flatMap Fl.cells ++ ys.flatMap Fl.cells))
    (hg : g' = some g ∨ ∃ k, g' = some k ∧ w.heap.size ≤ k) (hgr : w.grownBy w' (some g)) : Acc w0 w' v' (xs ++ ys) := by
  have hb' : Below w0.heap.size w0 w' := hb.grown hgr hb.size fun k hk => by cases hk; exact hg0
  have hs := hb.size
  rcases hd with ⟨rfl, _⟩ | ⟨k, rfl, ha⟩
  · rcases hg with h | ⟨k, h, _⟩ <;> cases h
  · refine ⟨k, ?_, by rw [List.length_append, List.flatMap_append]; exact ha, hb'⟩
    rcases hg with h | ⟨q, h, hq⟩
    · cases h; exact hg0
    · cases h; omega
/-- Every object but rows of this type is as it was. -/
def Others (w w' : World) : Prop := ∀ (q : Nat) (o : Obj), w.heap[q]? = some o → (∀ cs fr, o ≠ Obj.cells cs 30 fr) → w'.heap[q]? = some o
theorem typed {e : TypeId} {sz g : Nat} {w : World} {v : Value} {n : Nat} {vs : List Value} (h : AccV e sz g w v n vs) : ∃ cs fr, w.heap[g]? = some (.cells cs e fr) := by
  obtain ⟨cap, rfl, ho⟩ := h
  rcases ho.2 with ⟨q, _⟩ | ⟨g1, cap1, cur, q, hb, hh, h1, h2, h3, h4⟩
  · simp at q
  · simp only [Value.slice.injEq, Option.some.injEq, Addr.mk.injEq, and_true] at q
    obtain ⟨rfl, _, rfl⟩ := q
    exact ⟨cur, (0, 0), hh⟩
theorem others_of {w w' : World} {g : Nat} (ht : ∃ cs fr, w.heap[g]? = some (.cells cs 30 fr)) (hg : w.grownBy w' (some g)) : Others w w' := fun q o hq ho => by
  have hne : q ≠ g := fun e => by
    subst e
    obtain ⟨cs, fr, h⟩ := ht
    rw [h] at hq
    exact ho cs fr (Option.some.inj hq).symm
  exact (hg.block q (Array.getElem?_eq_some_iff.1 hq).1 (by simpa using hne)).trans hq
section
variable {o : Oper} {a : Act} {Q : Exit → Act → World → Prop} {K : Act → World → Prop}
/-- append(out, c), in a region of a fixed order. -/
theorem wpList_cApp {ops : Array Oper} {rest : List Oper} (w0 w : World) (v : Value) (xs : List Fl) (hacc : Acc w0 w v xs) (c : Fl) (hl : xs.length ≤ 100000) (s y : Operand)
    (hgd : o.guard = none) (ho : o.op = .call { callee := .builtin .append, args := #[s, y], argTypes := #[26, 26] }) (hs : a.eval s = v) (hy : a.eval y = .slice (some ⟨w.heap.size, 0, none⟩) 1 1)
    (h : ∀ v' w', Acc w0 w' v' (xs ++ [c]) → Below w0.heap.size w w' → Others w w' → wpList Try.prog ops Q rest (a.put o.dst v') w') :
    wpList Try.prog ops Q (o :: rest) a (w.alloc (.cells #[.int .i64 c.fr, .int .i64 c.to, .int .i64 c.nm] 30)) := by
  obtain ⟨g, h1, h2, h3, h4⟩ := (hacc.alloc (.cells #[.int .i64 c.fr, .int .i64 c.to, .int .i64 c.nm] 30)).dest
  have hb0 := hacc.below
  refine wpList_appD elFl (some g) _ v _ _ h3 w.heap.size (w.heap.size + 1) _ 1 1 c.cells (row_lit w _ c.cells rfl) (cells_one c) (by omega) s y hgd ho hs hy fun g' v' w' q1 q2 q3 => ?_
  have hsz : (w.alloc (.cells #[.int .i64 c.fr, .int .i64 c.to, .int .i64 c.nm] 30)).heap.size = w.heap.size + 1 := by simp
  have := acc_app (ys := [c]) h1 h4 (by simpa using q1) q2 q3
  have hty : ∃ cs fr, (w.alloc (.cells #[.int .i64 c.fr, .int .i64 c.to, .int .i64 c.nm] 30)).heap[g]? = some (.cells cs 30 fr) := by
    rcases h3 with ⟨q, _⟩ | ⟨k, e, ha⟩
    · cases q
    · cases e; exact typed ha
  refine h v' w' this ?_ ?_
  · exact ((Below.refl w0.heap.size w).alloc hb0.size _).grown q3 (by have := hb0.size; omega) fun k hk => by cases hk; exact h1
  · intro q o2 hq ho2
    exact others_of hty q3 q o2 (by rw [Below.heap_alloc w _ q (Array.getElem?_eq_some_iff.1 hq).1]; exact hq) ho2
/-- append(out, c), in a region that draws its order. -/
theorem step_cApp {ops : Array Oper} {E : Prop} (w0 w : World) (v : Value) (xs : List Fl) (hacc : Acc w0 w v xs) (c : Fl) (hl : xs.length ≤ 100000) (s y : Operand)
    (hgd : o.guard = none) (ho : o.op = .call { callee := .builtin .append, args := #[s, y], argTypes := #[26, 26] }) (hs : a.eval s = v) (hy : a.eval y = .slice (some ⟨w.heap.size, 0, none⟩) 1 1)
    (h : ∀ v' w', Acc w0 w' v' (xs ++ [c]) → Below w0.heap.size w w' → Others w w' → K (a.put o.dst v') w') :
    if Region.wanted o (yielded ops a.tmps) = true then Oper.wp Try.prog o a (w.alloc (.cells #[.int .i64 c.fr, .int .i64 c.to, .int .i64 c.nm] 30)) K Q else E := by
  obtain ⟨g, h1, h2, h3, h4⟩ := (hacc.alloc (.cells #[.int .i64 c.fr, .int .i64 c.to, .int .i64 c.nm] 30)).dest
  have hb0 := hacc.below
  refine step_appD elFl (some g) _ v _ _ h3 w.heap.size (w.heap.size + 1) _ 1 1 c.cells (row_lit w _ c.cells rfl) (cells_one c) (by omega) s y hgd ho hs hy fun g' v' w' q1 q2 q3 => ?_
  have hsz : (w.alloc (.cells #[.int .i64 c.fr, .int .i64 c.to, .int .i64 c.nm] 30)).heap.size = w.heap.size + 1 := by simp
  have := acc_app (ys := [c]) h1 h4 (by simpa using q1) q2 q3
  have hty : ∃ cs fr, (w.alloc (.cells #[.int .i64 c.fr, .int .i64 c.to, .int .i64 c.nm] 30)).heap[g]? = some (.cells cs 30 fr) := by
    rcases h3 with ⟨q, _⟩ | ⟨k, e, ha⟩
    · cases q
    · cases e; exact typed ha
  refine h v' w' this ?_ ?_
  · exact ((Below.refl w0.heap.size w).alloc hb0.size _).grown q3 (by have := hb0.size; omega) fun k hk => by cases hk; exact h1
  · intro q o2 hq ho2
    exact others_of hty q3 q o2 (by rw [Below.heap_alloc w _ q (Array.getElem?_eq_some_iff.1 hq).1]; exact hq) ho2
/-- append(out, list...), in a region of a fixed order. -/
theorem wpList_cAppL {ops : Array Oper} {rest : List Oper} (w0 w : World) (v : Value) (xs : List Fl) (hacc : Acc w0 w v xs) (lo hi : Nat) (B : Option Addr) (m d : Nat) (ys : List Fl) (hx : Fls lo hi w B m d ys) (hl : xs.length + m ≤ 1000000) (s y : Operand)
    (hgd : o.guard = none) (ho : o.op = .call { callee := .builtin .append, args := #[s, y], argTypes := #[26, 26] }) (hs : a.eval s = v) (hy : a.eval y = .slice B m d)
    (h : ∀ v' w', Acc w0 w' v' (xs ++ ys) → Below w0.heap.size w w' → wpList Try.prog ops Q rest (a.put o.dst v') w') :
    wpList Try.prog ops Q (o :: rest) a w := by
  obtain ⟨g, h1, h2, h3, h4⟩ := hacc.dest
  have hyl := hx.len_
  subst hyl
  refine wpList_appD elFl (some g) _ v _ _ h3 lo hi B ys.length d _ hx (flat_one ys) hl s y hgd ho hs hy fun g' v' w' q1 q2 q3 => ?_
  exact h v' w' (acc_app h1 h4 q1 q2 q3) ((Below.refl w0.heap.size w).grown q3 h4.size fun k hk => by cases hk; exact h1)
/-- append(out, list...), in a region that draws its order. -/
theorem step_cAppL {ops : Array Oper} {E : Prop} (w0 w : World) (v : Value) (xs : List Fl) (hacc : Acc w0 w v xs) (lo hi : Nat) (B : Option Addr) (m d : Nat) (ys : List Fl) (hx : Fls lo hi w B m d ys) (hl : xs.length + m ≤ 1000000) (s y : Operand)
    (hgd : o.guard = none) (ho : o.op = .call { callee := .builtin .append, args := #[s, y], argTypes := #[26, 26] }) (hs : a.eval s = v) (hy : a.eval y = .slice B m d)
    (h : ∀ v' w', Acc w0 w' v' (xs ++ ys) → Below w0.heap.size w w' → K (a.put o.dst v') w') :
    if Region.wanted o (yielded ops a.tmps) = true then Oper.wp Try.prog o a w K Q else E := by
  obtain ⟨g, h1, h2, h3, h4⟩ := hacc.dest
  have hyl := hx.len_
  subst hyl
  refine step_appD elFl (some g) _ v _ _ h3 lo hi B ys.length d _ hx (flat_one ys) hl s y hgd ho hs hy fun g' v' w' q1 q2 q3 => ?_
  exact h v' w' (acc_app h1 h4 q1 q2 q3) ((Below.refl w0.heap.size w).grown q3 h4.size fun k hk => by cases hk; exact h1)
end
/-- The gathered slice v lies in block g. -/
def Gat (g : Nat) (w : World) (v : Value) (xs : List Fl) : Prop := AccV 30 3 g w v xs.length (xs.flatMap Fl.cells)
theorem Gat.lt {g : Nat} {w : World} {v : Value} {xs : List Fl} (h : Gat g w v xs) : g < w.heap.size := AccV.lt h
theorem Gat.block {g : Nat} {w w' : World} {v : Value} {xs : List Fl} (h : Gat g w v xs) (hs : w'.heap[g]? = w.heap[g]?) : Gat g w' v xs := AccV.block h hs
theorem Gat.below {g B : Nat} {w w' : World} {v : Value} {xs : List Fl} (h : Gat g w v xs) (hb : Below B w w') (hB : w.heap.size ≤ B) : Gat g w' v xs := h.block (hb.block g (by have := h.lt; omega))
theorem Gat.own {g : Nat} {w : World} {v : Value} {xs : List Fl} (h : Gat g w v xs) : ∃ A c, v = .slice A xs.length c ∧ FlsO g (g + 1) w A xs.length c xs := by
  obtain ⟨cap, e, hr⟩ := AccV.row h
  exact ⟨_, cap, e, hr⟩
theorem gat_new (w : World) : Gat w.heap.size (w.alloc (.cells #[] 30)) (.slice (some ⟨w.heap.size, 0, none⟩) 0 0) [] := accV_new w _ _
section
variable {o : Oper} {a : Act} {Q : Exit → Act → World → Prop} {K : Act → World → Prop}
/-- append(out, c), the block known, in a region of a fixed order. -/
theorem wpList_gApp {ops : Array Oper} {rest : List Oper} (g : Nat) (w : World) (v : Value) (xs : List Fl) (hg : Gat g w v xs) (c : Fl) (hl : xs.length ≤ 100000) (s y : Operand)
    (hgd : o.guard = none) (ho : o.op = .call { callee := .builtin .append, args := #[s, y], argTypes := #[26, 26] }) (hs : a.eval s = v) (hy : a.eval y = .slice (some ⟨w.heap.size, 0, none⟩) 1 1)
    (h : ∀ g' v' w', Gat g' w' v' (xs ++ [c]) → (g' = g ∨ w.heap.size ≤ g') → w.grownBy w' (some g) → wpList Try.prog ops Q rest (a.put o.dst v') w') :
    wpList Try.prog ops Q (o :: rest) a (w.alloc (.cells #[.int .i64 c.fr, .int .i64 c.to, .int .i64 c.nm] 30)) := by
  have hsz : (w.alloc (.cells #[.int .i64 c.fr, .int .i64 c.to, .int .i64 c.nm] 30)).heap.size = w.heap.size + 1 := by simp
  have hglt := hg.lt
  have hd : Dest 30 3 (some g) (w.alloc (.cells #[.int .i64 c.fr, .int .i64 c.to, .int .i64 c.nm] 30)) v xs.length (xs.flatMap Fl.cells) := .inr ⟨g, rfl, AccV.alloc hg _⟩
  refine wpList_appD elFl (some g) _ v _ _ hd w.heap.size (w.heap.size + 1) _ 1 1 c.cells (row_lit w _ c.cells rfl) (cells_one c) (by omega) s y hgd ho hs hy fun g' v' w' q1 q2 q3 => ?_
  have hgr : w.grownBy w' (some g) := grown_trans (row := some g) (grown_alloc (World.grownBy.refl w (some g)) _) q3
  rcases q1 with ⟨rfl, _⟩ | ⟨k, rfl, ha⟩
  · rcases q2 with e | ⟨k, e, _⟩ <;> cases e
  · refine h k v' w' (by unfold Gat; rw [List.length_append, List.flatMap_append]; simpa using ha) ?_ hgr
    rcases q2 with e | ⟨q, e, hq⟩
    · cases e; exact .inl rfl
    · cases e; right; omega
/-- append(out, c), the block known, in a region that draws its order. -/
theorem step_gApp {ops : Array Oper} {E : Prop} (g : Nat) (w : World) (v : Value) (xs : List Fl) (hg : Gat g w v xs) (c : Fl) (hl : xs.length ≤ 100000) (s y : Operand)
    (hgd : o.guard = none) (ho : o.op = .call { callee := .builtin .append, args := #[s, y], argTypes := #[26, 26] }) (hs : a.eval s = v) (hy : a.eval y = .slice (some ⟨w.heap.size, 0, none⟩) 1 1)
    (h : ∀ g' v' w', Gat g' w' v' (xs ++ [c]) → (g' = g ∨ w.heap.size ≤ g') → w.grownBy w' (some g) → K (a.put o.dst v') w') :
    if Region.wanted o (yielded ops a.tmps) = true then Oper.wp Try.prog o a (w.alloc (.cells #[.int .i64 c.fr, .int .i64 c.to, .int .i64 c.nm] 30)) K Q else E := by
  have hsz : (w.alloc (.cells #[.int .i64 c.fr, .int .i64 c.to, .int .i64 c.nm] 30)).heap.size = w.heap.size + 1 := by simp
  have hglt := hg.lt
  have hd : Dest 30 3 (some g) (w.alloc (.cells #[.int .i64 c.fr, .int .i64 c.to, .int .i64 c.nm] 30)) v xs.length (xs.flatMap Fl.cells) := .inr ⟨g, rfl, AccV.alloc hg _⟩
  refine step_appD elFl (some g) _ v _ _ hd w.heap.size (w.heap.size + 1) _ 1 1 c.cells (row_lit w _ c.cells rfl) (cells_one c) (by omega) s y hgd ho hs hy fun g' v' w' q1 q2 q3 => ?_
  have hgr : w.grownBy w' (some g) := grown_trans (row := some g) (grown_alloc (World.grownBy.refl w (some g)) _) q3
  rcases q1 with ⟨rfl, _⟩ | ⟨k, rfl, ha⟩
  · rcases q2 with e | ⟨k, e, _⟩ <;> cases e
  · refine h k v' w' (by unfold Gat; rw [List.length_append, List.flatMap_append]; simpa using ha) ?_ hgr
    rcases q2 with e | ⟨q, e, hq⟩
    · cases e; exact .inl rfl
    · cases e; right; omega
end
/-- A struct in a block of its own. -/
def Blk1 (w : World) (b : Nat) (x : Fl) : Prop := w.heap[b]? = some (.cells #[.int .i64 x.fr, .int .i64 x.to, .int .i64 x.nm] 30 (0, 0))
theorem Blk1.cells {w : World} {b : Nat} {x : Fl} (h : Blk1 w b x) : w.cell? ⟨b, 0, none⟩ = some (.int .i64 x.fr) ∧ w.cell? ⟨b, 1, none⟩ = some (.int .i64 x.to) ∧ w.cell? ⟨b, 2, none⟩ = some (.int .i64 x.nm) ∧
    w.frozen? ⟨b, 0, none⟩ = false ∧ w.frozen? ⟨b, 1, none⟩ = false ∧ w.frozen? ⟨b, 2, none⟩ = false := by
  unfold Blk1 at h
  refine ⟨?_, ?_, ?_, ?_, ?_, ?_⟩
  iterate 3 (rw [cell_of_row _ _ _ _ _ _ h]; rfl)
  all_goals simp [World.frozen?, h]
theorem Blk1.lt {w : World} {b : Nat} {x : Fl} (h : Blk1 w b x) : b < w.heap.size := (Array.getElem?_eq_some_iff.1 h).1
theorem Blk1.same {w w' : World} {b : Nat} {x : Fl} (h : Blk1 w b x) (hs : w'.heap[b]? = w.heap[b]?) : Blk1 w' b x := hs.trans h
theorem Blk1.below {B : Nat} {w w' : World} {b : Nat} {x : Fl} (h : Blk1 w b x) (hb : Below B w w') (hB : w.heap.size ≤ B) : Blk1 w' b x := h.same (hb.block b (by have := h.lt; omega))
theorem Blk1.set0 {w : World} {b : Nat} {x : Fl} (h : Blk1 w b x) (v : Int) : Blk1 (w.setCell ⟨b, 0, none⟩ (.int .i64 v)) b ⟨v, x.to, x.nm⟩ := by
  unfold Blk1 at *
  simp [World.setCell, Array.getElem?_modify, h]
theorem Blk1.set1 {w : World} {b : Nat} {x : Fl} (h : Blk1 w b x) (v : Int) : Blk1 (w.setCell ⟨b, 1, none⟩ (.int .i64 v)) b ⟨x.fr, v, x.nm⟩ := by
  unfold Blk1 at *
  simp [World.setCell, Array.getElem?_modify, h]
theorem Blk1.set2 {w : World} {b : Nat} {x : Fl} (h : Blk1 w b x) (v : Int) : Blk1 (w.setCell ⟨b, 2, none⟩ (.int .i64 v)) b ⟨x.fr, x.to, v⟩ := by
  unfold Blk1 at *
  simp [World.setCell, Array.getElem?_modify, h]
theorem Blk1.put {w : World} {b : Nat} {x : Fl} (h : Blk1 w b x) (y : Fl) : Blk1 (((w.setCell ⟨b, 0, none⟩ (.int .i64 y.fr)).setCell ⟨b, 1, none⟩ (.int .i64 y.to)).setCell ⟨b, 2, none⟩ (.int .i64 y.nm)) b y := by
  unfold Blk1 at *
  simp [World.setCell, Array.getElem?_modify, h]
theorem set_other {w : World} {b q : Nat} {i : Nat} {v : Value} (h : q ≠ b) : (w.setCell ⟨b, i, none⟩ v).heap[q]? = w.heap[q]? := Below.heap_setCell w ⟨b, i, none⟩ v q h

end Fc
end Go.Proofs.Ytcbhjnjallnidab
