/-
  The program's heap of waiting packets in memory: its methods.
-/
import Derived.Test.YtmnhobapjncbfaaHpm
import Derived.BigRegion
import Derived.Deep.RegionLaw
namespace Go.Proofs.Ytmnhobapjncbfaa
open Go.RowKit
namespace Im6
open Il Gm Mm Tm Lm Pm Pq Hlp5 Sl Mm6 Hp6

def wcells (x : Wt) : List Value := [.int .i64 x.s.p.kind, .int .i64 x.s.p.next, .int .i64 x.s.p.pk.el, .slice x.s.A x.s.p.pk.hd.length x.s.c, .int .i64 x.s.p.pk.tag, .slice x.s.B x.s.p.pk.bd.length x.s.d, .int .i64 x.k]
theorem wcells_len (x : Wt) : (wcells x).length = 7 := rfl
theorem wcells_one (x : Wt) : ∀ u ∈ wcells x, u.oneCell' = true := by
  intro u hu
  simp only [wcells, List.mem_cons, List.not_mem_nil, or_false] at hu
  rcases hu with rfl | rfl | rfl | rfl | rfl | rfl | rfl <;> rfl
theorem infoWt : (Try.prog.info? 70).map (fun i => (i.zero, i.size, i.bytes)) = some (some (.agg #[.int .i64 0, .int .i64 0, .int .i64 0, .slice none 0 0, .int .i64 0, .slice none 0 0, .int .i64 0]), 7, 88) := by kernel_rfl
theorem elWt : ElT 89 70 (.agg #[.int .i64 0, .int .i64 0, .int .i64 0, .slice none 0 0, .int .i64 0, .slice none 0 0, .int .i64 0]) 7 88 := ⟨Try.underlying89, infoWt, rfl, by omega, by omega⟩
theorem wt_cells {g n k : Nat} {w : World} {v : Value} {ws : List Wt} {x : Wt} (h : AccV 70 7 g w v n (ws.flatMap wcells)) (hx : ws[k]? = some x) :
    (w.cell? ⟨g, k * 7, none⟩ = some (.int .i64 x.s.p.kind) ∧ w.cell? ⟨g, k * 7 + 1, none⟩ = some (.int .i64 x.s.p.next) ∧ w.cell? ⟨g, k * 7 + 2, none⟩ = some (.int .i64 x.s.p.pk.el) ∧ w.cell? ⟨g, k * 7 + 3, none⟩ = some (.slice x.s.A x.s.p.pk.hd.length x.s.c) ∧ w.cell? ⟨g, k * 7 + 4, none⟩ = some (.int .i64 x.s.p.pk.tag) ∧ w.cell? ⟨g, k * 7 + 5, none⟩ = some (.slice x.s.B x.s.p.pk.bd.length x.s.d) ∧ w.cell? ⟨g, k * 7 + 6, none⟩ = some (.int .i64 x.k)) ∧ w.frozen? ⟨g, k * 7, none⟩ = false ∧ w.frozen? ⟨g, k * 7 + 1, none⟩ = false ∧ w.frozen? ⟨g, k * 7 + 2, none⟩ = false ∧ w.frozen? ⟨g, k * 7 + 3, none⟩ = false ∧ w.frozen? ⟨g, k * 7 + 4, none⟩ = false ∧ w.frozen? ⟨g, k * 7 + 5, none⟩ = false ∧ w.frozen? ⟨g, k * 7 + 6, none⟩ = false := by
  have hkl := (List.getElem?_eq_some_iff.1 hx).1
  obtain ⟨cap, rfl, hr, hf⟩ := h.row
  have hl := hr.1
  rw [flat_len wcells_len] at hl
  have hn : 0 < n := by omega
  obtain ⟨b, off, e, _, _, _, hc⟩ := hr.2.2.2 hn
  simp only [Option.some.injEq, Addr.mk.injEq, and_true] at e
  obtain ⟨rfl, rfl⟩ := e
  have hcell : ∀ i u, i < 7 → (wcells x)[i]? = some u → w.cell? ⟨g, k * 7 + i, none⟩ = some u := fun i u hi hu => by
    have := hc (k * 7 + i) u (by rw [flat_at wcells_len hx hi]; exact hu)
    rwa [Nat.zero_add] at this
  have hfz : ∀ i, i < 7 → w.frozen? ⟨g, k * 7 + i, none⟩ = false := fun i hi => by
    have := hf g 0 hn rfl (k * 7 + i) (by omega)
    rwa [Nat.zero_add] at this
  exact ⟨⟨hcell 0 _ (by omega) rfl, hcell 1 _ (by omega) rfl, hcell 2 _ (by omega) rfl, hcell 3 _ (by omega) rfl, hcell 4 _ (by omega) rfl, hcell 5 _ (by omega) rfl, hcell 6 _ (by omega) rfl⟩, hfz 0 (by omega), hfz 1 (by omega), hfz 2 (by omega), hfz 3 (by omega), hfz 4 (by omega), hfz 5 (by omega), hfz 6 (by omega)⟩
theorem flat_set7 {ws : List Wt} {k : Nat} (y : Wt) (hk : k < ws.length) :
    ((((((((ws.flatMap wcells).set (k * 7) (.int .i64 y.s.p.kind)).set (k * 7 + 1) (.int .i64 y.s.p.next)).set (k * 7 + 2) (.int .i64 y.s.p.pk.el)).set (k * 7 + 3) (.slice y.s.A y.s.p.pk.hd.length y.s.c)).set (k * 7 + 4) (.int .i64 y.s.p.pk.tag)).set (k * 7 + 5) (.slice y.s.B y.s.p.pk.bd.length y.s.d)).set (k * 7 + 6) (.int .i64 y.k)) = (ws.set k y).flatMap wcells := by
  induction ws generalizing k with
  | nil => simp at hk
  | cons x ws ih =>
    cases k with
    | zero => rw [List.set_cons_zero, List.flatMap_cons, List.flatMap_cons]; rfl
    | succ k =>
      have h7 : (wcells x).length = 7 := rfl
      rw [List.set_cons_succ, List.flatMap_cons, List.flatMap_cons, ← ih (by simpa using hk)]
      rw [List.set_append_right _ _ (by rw [h7]; omega), List.set_append_right _ _ (by rw [h7]; omega), List.set_append_right _ _ (by rw [h7]; omega), List.set_append_right _ _ (by rw [h7]; omega), List.set_append_right _ _ (by rw [h7]; omega), List.set_append_right _ _ (by rw [h7]; omega), List.set_append_right _ _ (by rw [h7]; omega), h7]
      have q0 : (k + 1) * 7 - 7 = k * 7 := by omega
      have q1 : (k + 1) * 7 + 1 - 7 = k * 7 + 1 := by omega
      have q2 : (k + 1) * 7 + 2 - 7 = k * 7 + 2 := by omega
      have q3 : (k + 1) * 7 + 3 - 7 = k * 7 + 3 := by omega
      have q4 : (k + 1) * 7 + 4 - 7 = k * 7 + 4 := by omega
      have q5 : (k + 1) * 7 + 5 - 7 = k * 7 + 5 := by omega
      have q6 : (k + 1) * 7 + 6 - 7 = k * 7 + 6 := by omega
      rw [q0, q1, q2, q3, q4, q5, q6]
/-- A place of the heap is written whole. -/
theorem put7 {g n k : Nat} {w : World} {v : Value} {ws : List Wt} (h : AccV 70 7 g w v n (ws.flatMap wcells)) (y : Wt) (hk : k < ws.length) :
    AccV 70 7 g (((((((w.setCell ⟨g, k * 7, none⟩ (.int .i64 y.s.p.kind)).setCell ⟨g, k * 7 + 1, none⟩ (.int .i64 y.s.p.next)).setCell ⟨g, k * 7 + 2, none⟩ (.int .i64 y.s.p.pk.el)).setCell ⟨g, k * 7 + 3, none⟩ (.slice y.s.A y.s.p.pk.hd.length y.s.c)).setCell ⟨g, k * 7 + 4, none⟩ (.int .i64 y.s.p.pk.tag)).setCell ⟨g, k * 7 + 5, none⟩ (.slice y.s.B y.s.p.pk.bd.length y.s.d)).setCell ⟨g, k * 7 + 6, none⟩ (.int .i64 y.k)) v n ((ws.set k y).flatMap wcells) := by
  rw [← flat_set7 y hk]
  exact (((((((h.set (k * 7) _).set (k * 7 + 1) _).set (k * 7 + 2) _).set (k * 7 + 3) _).set (k * 7 + 4) _).set (k * 7 + 5) _).set (k * 7 + 6) _)
theorem dest_form {e : TypeId} {sz : Nat} {g : Option Nat} {w : World} {v : Value} {n : Nat} {vs : List Value} (h : Dest e sz g w v n vs) : ∃ A c, v = .slice A n c ∧ n ≤ c ∧ c ≤ maxLen ∧ (0 < n → ∃ k, g = some k ∧ A = some ⟨k, 0, none⟩ ∧ AccV e sz k w v n vs) := by
  rcases h with ⟨rfl, rfl, rfl, A, rfl⟩ | ⟨k, rfl, hA⟩
  · exact ⟨A, 0, rfl, Nat.le_refl _, Nat.zero_le _, fun h => absurd h (by omega)⟩
  · obtain ⟨cap, rfl, hr, _⟩ := hA.row
    exact ⟨_, cap, rfl, hr.2.1, hr.2.2.1, fun _ => ⟨k, rfl, rfl, hA⟩⟩
/-- The heap in memory: its pointer's block, the block of its row. -/
def HpM (hb : Nat) (g : Option Nat) (w : World) (v : Value) (ws : List Wt) : Prop := Blk w hb #[v] 89 ∧ Dest 70 7 g w v ws.length (ws.flatMap wcells) ∧ g ≠ some hb
/-- Of the blocks that were there, only the heap's two may have turned. -/
structure KeptH (hb : Nat) (g : Option Nat) (w w' : World) : Prop where
  os : w'.os = w.os
  tape : w'.tape = w.tape
  output : w'.output = w.output
  size : w.heap.size ≤ w'.heap.size
  block : ∀ z, z < w.heap.size → z ≠ hb → g ≠ some z → w'.heap[z]? = w.heap[z]?
theorem KeptH.refl (hb : Nat) (g : Option Nat) (w : World) : KeptH hb g w w := ⟨rfl, rfl, rfl, Nat.le_refl _, fun _ _ _ _ => rfl⟩
theorem KeptH.below {hb : Nat} {g : Option Nat} {w w' : World} (h : Below w.heap.size w w') : KeptH hb g w w' := ⟨h.os, h.tape, h.output, h.size, fun z hz _ _ => h.block z hz⟩
theorem KeptH.trans {hb : Nat} {g g' : Option Nat} {w w' w2 : World} (h : KeptH hb g w w') (h2 : KeptH hb g' w' w2) (hg : g' = g ∨ ∃ k, g' = some k ∧ w.heap.size ≤ k) : KeptH hb g w w2 :=
  ⟨h2.os.trans h.os, h2.tape.trans h.tape, h2.output.trans h.output, Nat.le_trans h.size h2.size, fun z hz h1 h3 => (h2.block z (Nat.lt_of_lt_of_le hz h.size) h1 (by
    rcases hg with rfl | ⟨k, rfl, hk⟩
    · exact h3
    · intro e; simp only [Option.some.injEq] at e; omega)).trans (h.block z hz h1 h3)⟩
theorem HpM.keep {hb : Nat} {g : Option Nat} {w w' : World} {v : Value} {ws : List Wt} (h : HpM hb g w v ws) (h1 : w'.heap[hb]? = w.heap[hb]?) (h2 : ∀ k, g = some k → w'.heap[k]? = w.heap[k]?) : HpM hb g w' v ws :=
  ⟨h1.trans h.1, dest_keep h.2.1 h2, h.2.2⟩
theorem HpM.lt {hb : Nat} {g : Option Nat} {w : World} {v : Value} {ws : List Wt} (h : HpM hb g w v ws) : hb < w.heap.size := (Array.getElem?_eq_some_iff.1 h.1).1
theorem HpM.below {hb : Nat} {g : Option Nat} {w w' : World} {v : Value} {ws : List Wt} (h : HpM hb g w v ws) (hB : Below w.heap.size w w') : HpM hb g w' v ws :=
  h.keep (hB.block hb h.lt) fun k e => hB.block k (dest_lt h.2.1 k e)
/-- What the interface's methods are. -/
theorem one_cell {w : World} {b : Nat} {v : Value} {t : TypeId} (h : Blk w b #[v] t) : w.cell? ⟨b, 0, none⟩ = some v ∧ ∀ j, w.frozen? ⟨b, j, none⟩ = false := by
  refine ⟨?_, fun j => by unfold Blk at h; simp [World.frozen?, h]⟩
  rw [cell_of_row _ _ _ _ _ _ h]; rfl

set_option maxRecDepth 20000 in
set_option maxHeartbeats 1000000 in
theorem heapLess (k n cap i j : Nat) (ws : List Wt) (x y : Wt) (w : World) (h : AccV 70 7 k w (.slice (some ⟨k, 0, none⟩) n cap) n (ws.flatMap wcells)) (hn : ws.length = n) (_hm : n ≤ 100000) (hx : ws[i]? = some x) (hy : ws[j]? = some y) :
    Calls Try.prog 104 #[.slice (some ⟨k, 0, none⟩) n cap, .int .i64 i, .int .i64 j] w (BoolB (ltb x y) w) := by
  obtain ⟨⟨c0, c1, c2, c3, c4, c5, c6⟩, f0, f1, f2, f3, f4, f5, f6⟩ := wt_cells h hx
  obtain ⟨⟨d0, d1, d2, d3, d4, d5, d6⟩, g0, g1, g2, g3, g4, g5, g6⟩ := wt_cells h hy
  have hi := (List.getElem?_eq_some_iff.1 hx).1
  have hj := (List.getElem?_eq_some_iff.1 hy).1
  rw [hn] at hi hj
  clear f0 f1 f2 f3 f4 f5 f6 g0 g1 g2 g3 g4 g5 g6 h hx hy hn
  go_enter Try.func104, Try.ntmps104
  go_wp2_with fail
  go_still_tail 8, (by kernel_rfl)
  change wpList _ _ _ _ _ w.drew
  have HB : Hid (Below w.heap.size w w.drew) := below_drew2 (Below.refl _ _)
  have hs : w.drew.heap.size = w.heap.size := rfl
  have HS := Lib.hid hs
  clear c0 c1 c2 c3 c4 c5 c6 d0 d1 d2 d3 d4 d5 d6 hs
  generalize w.drew = w1 at *
  go_wp2_with fail
  ((with_reducible refine (before x y _).mono ?_); rintro e w2 ⟨rfl, hb⟩)
  have H2 := Lib.hid (HB.out.trans (hb.mono (by rw [HS.out]; exact Nat.le_refl _)))
  clear hb
  go_wp2
  go_ret
  exact ⟨rfl, H2.out⟩
/-- Only block k may have turned. -/
structure SameB (k : Nat) (w w' : World) : Prop where
  os : w'.os = w.os
  tape : w'.tape = w.tape
  output : w'.output = w.output
  size : w'.heap.size = w.heap.size
  block : ∀ z, z ≠ k → w'.heap[z]? = w.heap[z]?
theorem SameB.refl (k : Nat) (w : World) : SameB k w w := ⟨rfl, rfl, rfl, rfl, fun _ _ => rfl⟩
theorem SameB.set {k : Nat} {w w' : World} (h : SameB k w w') (o : Nat) (v : Value) : SameB k w (w'.setCell ⟨k, o, none⟩ v) :=
  ⟨h.os, h.tape, h.output, by rw [← h.size]; simp [World.setCell], fun z hz => (Below.heap_setCell _ _ _ _ hz).trans (h.block z hz)⟩
theorem SameB.drew {k : Nat} {w w' : World} (h : SameB k w w') : SameB k w w'.drew := ⟨h.os, h.tape, h.output, h.size, h.block⟩
theorem accV_drew {e : TypeId} {sz g : Nat} {w : World} {v : Value} {n : Nat} {vs : List Value} (h : AccV e sz g w v n vs) : AccV e sz g w.drew v n vs := h.block rfl
theorem results_none {fn : Func} (h : fn.results = #[]) (tmps : Array Value) (P : Program) (w : World) : (results fn tmps).run P w = .ok (.tuple #[]) w := by
  simp [results, h]
set_option maxRecDepth 20000 in
set_option maxHeartbeats 2000000 in
theorem heapSwap (k n cap i j : Nat) (ws : List Wt) (x y : Wt) (w : World) (h : AccV 70 7 k w (.slice (some ⟨k, 0, none⟩) n cap) n (ws.flatMap wcells)) (hn : ws.length = n) (_hm : n ≤ 100000) (hx : ws[i]? = some x) (hy : ws[j]? = some y) :
    Calls Try.prog 107 #[.slice (some ⟨k, 0, none⟩) n cap, .int .i64 i, .int .i64 j] w
      fun e w' => e = .returned (.tuple #[]) ∧ AccV 70 7 k w' (.slice (some ⟨k, 0, none⟩) n cap) n (((ws.set i y).set j x).flatMap wcells) ∧ SameB k w w' := by
  obtain ⟨⟨c0, c1, c2, c3, c4, c5, c6⟩, f0, f1, f2, f3, f4, f5, f6⟩ := wt_cells h hx
  obtain ⟨⟨d0, d1, d2, d3, d4, d5, d6⟩, g0, g1, g2, g3, g4, g5, g6⟩ := wt_cells h hy
  have hi := (List.getElem?_eq_some_iff.1 hx).1
  have hj := (List.getElem?_eq_some_iff.1 hy).1
  have h1 := put7 (put7 h y hi) x (by simpa using hj)
  rw [hn] at hi hj
  by_cases hij : i = j
  · subst hij
    obtain rfl : x = y := by rw [hx] at hy; simpa using hy
    have H1 := Lib.hid h1
    clear h hx hy hn h1
    go_enter Try.func107, Try.ntmps107
    go_wp2_with fail
    go_region
    all_goals
      refine bodyPost_end (results_none rfl _ _ _) rfl ?_
      refine ⟨rfl, accV_drew H1.out, SameB.drew ?_⟩
      iterate 14 (refine SameB.set ?_ _ _)
      exact SameB.refl _ _
  · have H1 := Lib.hid h1
    clear h hx hy hn h1
    have o1 : ∀ r s, r < 7 → s < 7 → ¬ (i * 7 + r = j * 7 + s) := fun r s _ _ => by omega
    go_enter Try.func107, Try.ntmps107
    go_wp2_with fail
    go_region
    all_goals
      refine bodyPost_end (results_none rfl _ _ _) rfl ?_
      refine ⟨rfl, accV_drew H1.out, SameB.drew ?_⟩
      iterate 14 (refine SameB.set ?_ _ _)
      exact SameB.refl _ _

end Im6
end Go.Proofs.Ytmnhobapjncbfaa
