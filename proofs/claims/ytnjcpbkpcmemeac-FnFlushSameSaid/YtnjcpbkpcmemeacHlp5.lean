/-
  Contracts of the laws' helpers on packets: equal ones are found equal; marking and looking for marks.
-/
import Derived.Test.YtnjcpbkpcmemeacHlp
import Derived.Test.YtnjcpbkpcmemeacPq
import Derived.Test.YtnjcpbkpcmemeacIla
namespace Go.Proofs.Ytnjcpbkpcmemeac
open Go.RowKit
namespace Hlp5
open Il Pm Pq LawB

/-- A block holds these cells. -/
def Blk (w : World) (b : Nat) (cs : Array Value) (t : TypeId) : Prop := w.heap[b]? = some (.cells cs t (0, 0))
theorem Blk.below {w w' : World} {b B : Nat} {cs : Array Value} {t : TypeId} (h : Blk w b cs t) (hb : Below B w w') (hB : w.heap.size ≤ B) : Blk w' b cs t :=
  (hb.block b (by have := (Array.getElem?_eq_some_iff.1 h).1; omega)).trans h

/-- []int{x} -/
theorem ints_lit1 (w : World) (x : Int) : Ints w.heap.size (w.heap.size + 1) (w.alloc (.cells #[.int .i64 x] 3)) (some ⟨w.heap.size, 0, none⟩) 1 1 [x] := by
  have hh : (w.alloc (.cells #[.int .i64 x] 3)).heap[w.heap.size]? = some (.cells #[.int .i64 x] 3 (0, 0)) := heap_alloc_new _ _
  refine ⟨rfl, Nat.le_refl _, by unfold maxLen; omega, fun _ => ⟨_, 0, rfl, Nat.le_refl _, by omega, by simp, fun j hj => ?_⟩⟩
  rw [Nat.zero_add, cell_of_row _ _ j _ _ _ hh]
  obtain rfl : j = 0 := by omega
  rfl

set_option maxRecDepth 20000 in
theorem samePacket (p : Pkt) (A B A2 B2 : Option Addr) (c d c2 d2 l1 h1 l2 h2 l3 h3 l4 h4 : Nat) (w : World) (i1 : Ints l1 h1 w A p.hd.length c p.hd) (i2 : Ints l2 h2 w B p.bd.length d p.bd) (i3 : Ints l3 h3 w A2 p.hd.length c2 p.hd) (i4 : Ints l4 h4 w B2 p.bd.length d2 p.bd) :
    Calls Try.prog 46 #[.agg #[.int .i64 p.el, .slice A p.hd.length c, .int .i64 p.tag, .slice B p.bd.length d], .agg #[.int .i64 p.el, .slice A2 p.hd.length c2, .int .i64 p.tag, .slice B2 p.bd.length d2]] w (BoolB true w) := by
  have h0 : Below w.heap.size w (w.alloc (.cells #[.int .i64 p.el, .slice A p.hd.length c, .int .i64 p.tag, .slice B p.bd.length d] 37)) := (Below.refl _ _).alloc (Nat.le_refl _) _
  have hb0 := h0.alloc h0.size (.cells #[.int .i64 p.el, .slice A2 p.hd.length c2, .int .i64 p.tag, .slice B2 p.bd.length d2] 37)
  have I1 := Lib.hid (i1.below hb0 (Nat.le_refl _))
  have I2 := Lib.hid (i2.below hb0 (Nat.le_refl _))
  have I3 := Lib.hid (i3.below hb0 (Nat.le_refl _))
  have I4 := Lib.hid (i4.below hb0 (Nat.le_refl _))
  have B0 := Lib.hid hb0
  clear i1 i2 i3 i4 h0 hb0
  obtain ⟨el, hd, tag, bd⟩ := p
  dsimp only at *
  go_enter Try.func46, Try.ntmps46
  go_wp2_with fail
  ((with_reducible refine (Hlp.sameInts _ _ _ _ _ _ _ _ _ _ _ _ _ I1.out I3.out).mono ?_); rintro e w1 ⟨rfl, nn, rfl⟩)
  rw [decide_eq_true rfl]
  go_wp2_with fail
  ((with_reducible refine (Hlp.sameInts _ _ _ _ _ _ _ _ _ _ _ _ _ (I2.out.drewN _) (I4.out.drewN _)).mono ?_); rintro e w1 ⟨rfl, nm, rfl⟩)
  rw [decide_eq_true rfl]
  go_wp2
  go_ret
  exact ⟨rfl, B0.out.os, B0.out.tape, B0.out.output, B0.out.size, B0.out.block⟩

set_option maxRecDepth 20000 in
theorem samePeeled (p : Pld) (A B A2 B2 : Option Addr) (c d c2 d2 l1 h1 l2 h2 l3 h3 l4 h4 : Nat) (w : World) (i1 : Ints l1 h1 w A p.pk.hd.length c p.pk.hd) (i2 : Ints l2 h2 w B p.pk.bd.length d p.pk.bd) (i3 : Ints l3 h3 w A2 p.pk.hd.length c2 p.pk.hd) (i4 : Ints l4 h4 w B2 p.pk.bd.length d2 p.pk.bd) :
    Calls Try.prog 15 #[.agg #[.int .i64 p.kind, .int .i64 p.next, .int .i64 p.pk.el, .slice A p.pk.hd.length c, .int .i64 p.pk.tag, .slice B p.pk.bd.length d], .agg #[.int .i64 p.kind, .int .i64 p.next, .int .i64 p.pk.el, .slice A2 p.pk.hd.length c2, .int .i64 p.pk.tag, .slice B2 p.pk.bd.length d2]] w (BoolB true w) := by
  have h0 : Below w.heap.size w (w.alloc (.cells #[.int .i64 p.kind, .int .i64 p.next, .int .i64 p.pk.el, .slice A p.pk.hd.length c, .int .i64 p.pk.tag, .slice B p.pk.bd.length d] 39)) := (Below.refl _ _).alloc (Nat.le_refl _) _
  have hb0 := h0.alloc h0.size (.cells #[.int .i64 p.kind, .int .i64 p.next, .int .i64 p.pk.el, .slice A2 p.pk.hd.length c2, .int .i64 p.pk.tag, .slice B2 p.pk.bd.length d2] 39)
  have I1 := Lib.hid (i1.below hb0 (Nat.le_refl _))
  have I2 := Lib.hid (i2.below hb0 (Nat.le_refl _))
  have I3 := Lib.hid (i3.below hb0 (Nat.le_refl _))
  have I4 := Lib.hid (i4.below hb0 (Nat.le_refl _))
  have B0 := Lib.hid hb0
  clear i1 i2 i3 i4 h0 hb0
  go_enter Try.func15, Try.ntmps15
  go_wp2_with fail
  ((with_reducible refine (samePacket p.pk _ _ _ _ _ _ _ _ _ _ _ _ _ _ _ _ _ I1.out I2.out I3.out I4.out).mono ?_); rintro e w1 ⟨rfl, hb⟩)
  have B1 := Lib.hid (B0.out.trans (hb.mono B0.out.size))
  clear hb
  go_wp2
  go_ret
  exact ⟨rfl, B1.out⟩

/-- Only blocks b1 (if n is not 0) and b2 (if m is not 0) of those that were there have been written. -/
structure Kept2 (n m b1 b2 : Nat) (w w' : World) : Prop where
  os : w'.os = w.os
  tape : w'.tape = w.tape
  output : w'.output = w.output
  size : w.heap.size ≤ w'.heap.size
  block : ∀ b, b < w.heap.size → (0 < n → b ≠ b1) → (0 < m → b ≠ b2) → w'.heap[b]? = w.heap[b]?
theorem ints_kept2 {lo hi N M b1 b2 : Nat} {w w' : World} {A : Option Addr} {n c : Nat} {xs : List Int} (h : Ints lo hi w A n c xs) (hk : Kept2 N M b1 b2 w w') (h1 : 0 < N → hi ≤ b1 ∨ b1 < lo) (h2 : 0 < M → hi ≤ b2 ∨ b2 < lo) : Ints lo hi w' A n c xs :=
  h.keep hk.size fun b q1 q2 q3 => hk.block b q3 (fun e => by have := h1 e; omega) (fun e => by have := h2 e; omega)
/-- A packet in other blocks. -/
theorem lies_kept2 {N M b1 b2 g1 g2 : Nat} {w w' : World} {A B : Option Addr} {c d : Nat} {p : Pkt} (h : Lies w g1 g2 A c B d p) (hk : Kept2 N M b1 b2 w w') (l1 : 0 < p.hd.length → (0 < N → g1 ≠ b1) ∧ (0 < M → g1 ≠ b2)) (l2 : 0 < p.bd.length → (0 < N → g2 ≠ b1) ∧ (0 < M → g2 ≠ b2)) : Lies w' g1 g2 A c B d p := by
  have key : ∀ (g n c : Nat) (A : Option Addr) (xs : List Int), Il.Own g (g + 1) w A n c xs → (0 < n → (0 < N → g ≠ b1) ∧ (0 < M → g ≠ b2)) → Il.Own g (g + 1) w' A n c xs := fun g n c A xs ho hd => by
    rcases Nat.eq_zero_or_pos n with rfl | hn
    · exact ⟨⟨ho.1.1, ho.1.2.1, ho.1.2.2.1, fun h => absurd h (by omega)⟩, fun _ _ h => absurd h (by omega)⟩
    · exact ho.keep hk.size fun b q1 q2 q3 => hk.block b q3 (fun e => by have := (hd hn).1 e; omega) (fun e => by have := (hd hn).2 e; omega)
  exact ⟨key _ _ _ _ _ h.1 l1, key _ _ _ _ _ h.2.1 l2, h.2.2⟩
theorem lies_lt {w : World} {b1 b2 : Nat} {A B : Option Addr} {c d : Nat} {p : Pkt} (h : Lies w b1 b2 A c B d p) : (0 < p.hd.length → b1 < w.heap.size) ∧ (0 < p.bd.length → b2 < w.heap.size) := by
  refine ⟨fun hn => ?_, fun hn => ?_⟩
  · obtain ⟨b, off, e, q1, q2, q3, q4⟩ := h.1.1.2.2.2 hn
    omega
  · obtain ⟨b, off, e, q1, q2, q3, q4⟩ := h.2.1.1.2.2.2 hn
    omega
theorem blk_kept2 {N M b b1 b2 : Nat} {w w' : World} {cs : Array Value} {t : TypeId} (h : Blk w b cs t) (hk : Kept2 N M b1 b2 w w') (e1 : 0 < N → b ≠ b1) (e2 : 0 < M → b ≠ b2) : Blk w' b cs t :=
  (hk.block b (Array.getElem?_eq_some_iff.1 h).1 e1 e2).trans h
theorem below_kept2 {N M B b1 b2 : Nat} {w0 w w' : World} (h : Below B w0 w) (hk : Kept2 N M b1 b2 w w') (hs : B ≤ w.heap.size) (e1 : B ≤ b1) (e2 : B ≤ b2) : Below B w0 w' :=
  ⟨hk.os.trans h.os, hk.tape.trans h.tape, hk.output.trans h.output, Nat.le_trans h.size hk.size, fun b hb => (hk.block b (by omega) (by omega) (by omega)).trans (h.block b hb)⟩
theorem lies_kept {lo hi b1 b2 : Nat} {w w' : World} {A B : Option Addr} {c d : Nat} {p : Pkt} (h : Lies w b1 b2 A c B d p) (hk : Kept lo hi w w') (hd : (b1 + 1 ≤ lo ∨ hi ≤ b1) ∧ (b2 + 1 ≤ lo ∨ hi ≤ b2)) : Lies w' b1 b2 A c B d p :=
  h.keep (Nat.le_of_eq hk.size.symm) fun b hb _ => hk.block b (by omega)
theorem ints_keptC {lo hi b1 : Nat} {w w' : World} {A : Option Addr} {n c : Nat} {xs : List Int} (h : Il.Own b1 (b1 + 1) w A n c xs) (hk : Kept lo hi w w') (hd : 0 < n → b1 + 1 ≤ lo ∨ hi ≤ b1) : Il.Own b1 (b1 + 1) w' A n c xs := by
  rcases Nat.eq_zero_or_pos n with rfl | hn
  · exact ⟨⟨h.1.1, h.1.2.1, h.1.2.2.1, fun h => absurd h (by omega)⟩, fun _ _ h => absurd h (by omega)⟩
  · exact h.kept hk (hd hn)
theorem lies_keptC {lo hi b1 b2 : Nat} {w w' : World} {A B : Option Addr} {c d : Nat} {p : Pkt} (h : Lies w b1 b2 A c B d p) (hk : Kept lo hi w w') (h1 : 0 < p.hd.length → b1 + 1 ≤ lo ∨ hi ≤ b1) (h2 : 0 < p.bd.length → b2 + 1 ≤ lo ∨ hi ≤ b2) : Lies w' b1 b2 A c B d p :=
  ⟨ints_keptC h.1 hk h1, ints_keptC h.2.1 hk h2, h.2.2⟩
theorem blk_kept {lo hi b : Nat} {w w' : World} {cs : Array Value} {t : TypeId} (h : Blk w b cs t) (hk : Kept lo hi w w') (hd : b < lo ∨ hi ≤ b) : Blk w' b cs t := (hk.block b hd).trans h

/-- One cell of a block of four is written. -/
theorem blk_set1 {w : World} {b : Nat} {v0 v1 v2 v3 v : Value} {t : TypeId} (h : Blk w b #[v0, v1, v2, v3] t) : Blk (w.setCell ⟨b, 1, none⟩ v) b #[v0, v, v2, v3] t := by
  unfold Blk at h ⊢
  simp [World.setCell, Array.getElem?_modify, h]
theorem blk_set2 {w : World} {b : Nat} {v0 v1 v2 v3 v : Value} {t : TypeId} (h : Blk w b #[v0, v1, v2, v3] t) : Blk (w.setCell ⟨b, 2, none⟩ v) b #[v0, v1, v, v3] t := by
  unfold Blk at h ⊢
  simp [World.setCell, Array.getElem?_modify, h]
theorem blk_set3 {w : World} {b : Nat} {v0 v1 v2 v3 v : Value} {t : TypeId} (h : Blk w b #[v0, v1, v2, v3] t) : Blk (w.setCell ⟨b, 3, none⟩ v) b #[v0, v1, v2, v] t := by
  unfold Blk at h ⊢
  simp [World.setCell, Array.getElem?_modify, h]
theorem blk_far {w : World} {b : Nat} {cs : Array Value} {t : TypeId} (h : Blk w b cs t) {q : Addr} (hq : b ≠ q.block) (v : Value) : Blk (w.setCell q v) b cs t :=
  (Below.heap_setCell w q v b hq).trans h
theorem ints_far {lo hi : Nat} {w : World} {A : Option Addr} {n c : Nat} {xs : List Int} (h : Ints lo hi w A n c xs) {q : Addr} (hq : q.block < lo ∨ hi ≤ q.block) (v : Value) : Ints lo hi (w.setCell q v) A n c xs :=
  h.keep (by simp [World.setCell]) fun b q1 q2 _ => Below.heap_setCell w q v b (by omega)
set_option maxRecDepth 20000 in
theorem own_far {lo hi : Nat} {w : World} {A : Option Addr} {n c : Nat} {xs : List Int} (h : Il.Own lo hi w A n c xs) {q : Addr} (hq : q.block < lo ∨ hi ≤ q.block) (v : Value) : Il.Own lo hi (w.setCell q v) A n c xs :=
  h.keep (by simp [World.setCell]) fun b q1 q2 _ => Below.heap_setCell w q v b (by omega)

set_option maxRecDepth 20000 in
theorem eqPacket (p : Pkt) (A B A2 B2 : Option Addr) (c d c2 d2 l1 h1 l2 h2 l3 h3 l4 h4 : Nat) (w : World) (i1 : Ints l1 h1 w A p.hd.length c p.hd) (i2 : Ints l2 h2 w B p.bd.length d p.bd) (i3 : Ints l3 h3 w A2 p.hd.length c2 p.hd) (i4 : Ints l4 h4 w B2 p.bd.length d2 p.bd) :
    Calls Try.prog 24 #[.agg #[.int .i64 p.el, .slice A p.hd.length c, .int .i64 p.tag, .slice B p.bd.length d], .agg #[.int .i64 p.el, .slice A2 p.hd.length c2, .int .i64 p.tag, .slice B2 p.bd.length d2]] w (BoolB true w) := by
  have h0 : Below w.heap.size w (w.alloc (.cells #[.int .i64 p.el, .slice A p.hd.length c, .int .i64 p.tag, .slice B p.bd.length d] 37)) := (Below.refl _ _).alloc (Nat.le_refl _) _
  have hb0 := h0.alloc h0.size (.cells #[.int .i64 p.el, .slice A2 p.hd.length c2, .int .i64 p.tag, .slice B2 p.bd.length d2] 37)
  have I1 := Lib.hid (i1.below hb0 (Nat.le_refl _))
  have I2 := Lib.hid (i2.below hb0 (Nat.le_refl _))
  have I3 := Lib.hid (i3.below hb0 (Nat.le_refl _))
  have I4 := Lib.hid (i4.below hb0 (Nat.le_refl _))
  have B0 := Lib.hid hb0
  clear i1 i2 i3 i4 h0 hb0
  obtain ⟨el, hd, tag, bd⟩ := p
  dsimp only at *
  go_enter Try.func24, Try.ntmps24
  go_wp2_with fail
  ((with_reducible refine (Hlp.eqIntS _ _ _ _ _ _ _ _ _ _ _ _ _ I1.out I3.out).mono ?_); rintro e w1 ⟨rfl, nn, rfl⟩)
  rw [decide_eq_true rfl]
  go_wp2_with fail
  ((with_reducible refine (Hlp.eqIntS _ _ _ _ _ _ _ _ _ _ _ _ _ (I2.out.drewN _) (I4.out.drewN _)).mono ?_); rintro e w1 ⟨rfl, nm, rfl⟩)
  rw [decide_eq_true rfl]
  go_wp2
  go_ret
  exact ⟨rfl, B0.out.os, B0.out.tape, B0.out.output, B0.out.size, B0.out.block⟩

def MarkP (n m b1 b2 : Nat) (A B : Option Addr) (c d : Nat) (k0 : Int) (w : World) (e : Ending) (w' : World) : Prop :=
  e = .returned (.int .i64 (k0 + n + m)) ∧ Il.Own b1 (b1 + 1) w' A n c (marks k0 n) ∧ Il.Own b2 (b2 + 1) w' B m d (marks (k0 + n) m) ∧ Kept2 n m b1 b2 w w'
/-- The range of blocks that marking a slice may write. -/
theorem own_rng {b n c : Nat} {w : World} {A : Option Addr} {xs : List Int} (h : Il.Own b (b + 1) w A n c xs) : ∃ lo hi, Il.Own lo hi w A n c xs ∧ (n = 0 → lo = 0 ∧ hi = 0) ∧ (0 < n → lo = b ∧ hi = b + 1 ∧ b < w.heap.size) := by
  rcases Nat.eq_zero_or_pos n with rfl | hn
  · exact ⟨0, 0, ⟨⟨h.1.1, h.1.2.1, h.1.2.2.1, fun h => absurd h (by omega)⟩, fun _ _ h => absurd h (by omega)⟩, fun _ => ⟨rfl, rfl⟩, fun h => absurd h (by omega)⟩
  · obtain ⟨b', _, _, q1, q2, q3, _⟩ := h.1.2.2.2 hn
    exact ⟨b, b + 1, h, fun e => absurd e (by omega), fun _ => ⟨rfl, rfl, by omega⟩⟩
theorem own_back {lo hi b n c : Nat} {w : World} {A : Option Addr} {xs : List Int} (h : Il.Own lo hi w A n c xs) (h2 : 0 < n → lo = b ∧ hi = b + 1) : Il.Own b (b + 1) w A n c xs := by
  rcases Nat.eq_zero_or_pos n with rfl | hn
  · exact ⟨⟨h.1.1, h.1.2.1, h.1.2.2.1, fun h => absurd h (by omega)⟩, fun _ _ h => absurd h (by omega)⟩
  · obtain ⟨rfl, rfl⟩ := h2 hn
    exact h
set_option maxRecDepth 20000 in
theorem markPacket (el tag : Int) (n m b1 b2 : Nat) (A B : Option Addr) (c d : Nat) (xs ys : List Int) (k0 : Int) (w : World) (o1 : Il.Own b1 (b1 + 1) w A n c xs) (o2 : Il.Own b2 (b2 + 1) w B m d ys) (hne : b1 ≠ b2) (hn : n ≤ 2000000) (hm : m ≤ 2000000) (h0 : 0 ≤ k0) (h1 : k0 ≤ 2000000) :
    Calls Try.prog 26 #[.agg #[.int .i64 el, .slice A n c, .int .i64 tag, .slice B m d], .int .i64 k0] w (MarkP n m b1 b2 A B c d k0 w) := by
  have hal : Below w.heap.size w (w.alloc (.cells #[.int .i64 el, .slice A n c, .int .i64 tag, .slice B m d] 37)) := (Below.refl _ _).alloc (Nat.le_refl _) _
  have hz : Blk (w.alloc (.cells #[.int .i64 el, .slice A n c, .int .i64 tag, .slice B m d] 37)) w.heap.size #[.int .i64 el, .slice A n c, .int .i64 tag, .slice B m d] 37 := heap_alloc_new _ _
  obtain ⟨lo1, hi1, o1', e1, f1⟩ := own_rng o1
  obtain ⟨lo2, hi2, o2', e2, f2⟩ := own_rng o2
  have O1 := Lib.hid (o1'.below hal (Nat.le_refl _))
  have O2 := Lib.hid (o2'.below hal (Nat.le_refl _))
  have HZ := Lib.hid hz
  have HAL := Lib.hid hal
  have g12 : hi1 ≤ lo2 ∨ hi2 ≤ lo1 := by
    rcases Nat.eq_zero_or_pos n with q | q <;> rcases Nat.eq_zero_or_pos m with q' | q'
    · have := e1 q; omega
    · have := e1 q; omega
    · have := e2 q'; omega
    · have := f1 q; have := f2 q'; omega
  have g1 : w.heap.size < lo1 ∨ hi1 ≤ w.heap.size := by
    rcases Nat.eq_zero_or_pos n with q | q
    · have := e1 q; omega
    · have := f1 q; omega
  have g2 : w.heap.size < lo2 ∨ hi2 ≤ w.heap.size := by
    rcases Nat.eq_zero_or_pos m with q | q
    · have := e2 q; omega
    · have := f2 q; omega
  have F1 := Lib.hid f1
  have F2 := Lib.hid f2
  have E1 := Lib.hid e1
  have E2 := Lib.hid e2
  clear o1 o2 o1' o2' hal hz f1 f2 e1 e2
  go_enter Try.func26, Try.ntmps26
  go_wp2_with fail
  ((with_reducible refine (Hlp.markIntS _ _ _ _ _ _ k0 _ O1.out (by omega) (by omega) (by omega)).mono ?_); rintro e w1 ⟨rfl, m1, k1⟩)
  have O2' := Lib.hid (O2.out.kept k1 (by omega))
  have HZ1 := Lib.hid (blk_kept HZ.out k1 (by omega))
  have M1 := Lib.hid m1
  have K1 := Lib.hid k1
  clear m1 k1 O2 HZ O1
  obtain ⟨p0, p1, p2, p3, pf⟩ := four_cells HZ1.out
  go_wp2_with fail
  ((with_reducible refine (Hlp.markIntS _ _ _ _ _ _ (k0 + n) _ O2'.out (by omega) (by omega) (by omega)).mono ?_); rintro e w2 ⟨rfl, m2, k2⟩)
  have HP : Hid (MarkP n m b1 b2 A B c d k0 w (.returned (.int .i64 (k0 + n + m))) w2) := by
    refine ⟨rfl, own_back (M1.out.kept k2 (by omega)) (fun h => ⟨(F1.out h).1, (F1.out h).2.1⟩), own_back m2 (fun h => ⟨(F2.out h).1, (F2.out h).2.1⟩), ⟨?_, ?_, ?_, ?_, ?_⟩⟩
    · exact k2.os.trans (K1.out.os.trans HAL.out.os)
    · exact k2.tape.trans (K1.out.tape.trans HAL.out.tape)
    · exact k2.output.trans (K1.out.output.trans HAL.out.output)
    · have q1 := HAL.out.size
      have q2 := K1.out.size
      have q3 := k2.size
      omega
    · intro b hb n1 n2
      have r1 : b < lo1 ∨ hi1 ≤ b := by
        rcases Nat.eq_zero_or_pos n with q | q
        · have := E1.out q; omega
        · have := F1.out q; have := n1 q; omega
      have r2 : b < lo2 ∨ hi2 ≤ b := by
        rcases Nat.eq_zero_or_pos m with q | q
        · have := E2.out q; omega
        · have := F2.out q; have := n2 q; omega
      exact (k2.block b r2).trans ((K1.out.block b r1).trans (HAL.out.block b hb))
  clear m2 k2 p0 p1 p2 p3 pf
  go_wp2
  go_ret
  exact HP.out


end Hlp5
end Go.Proofs.Ytnjcpbkpcmemeac
