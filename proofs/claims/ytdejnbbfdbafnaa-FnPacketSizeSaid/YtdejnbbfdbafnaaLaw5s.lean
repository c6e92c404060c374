/-
  The law of chapter 5 on the size of packets, by the contracts of the functions that they call: it returns true and writes nothing that was there.
-/
import Derived.Test.YtdejnbbfdbafnaaSp5b
import Derived.Test.YtdejnbbfdbafnaaIm5e
import Derived.Test.YtdejnbbfdbafnaaDr5
import Derived.Test.YtdejnbbfdbafnaaHlp5
import Derived.Test.YtdejnbbfdbafnaaPo2
import Derived.Test.YtdejnbbfdbafnaaSec
import Derived.Deep.RegionLaw
import Derived.Deep.RegionHeld3
import Derived.Deep.QuietTactic
import Derived.Deep.Cut
import Derived.BigQuiet
namespace Go.Proofs.Ytdejnbbfdbafnaa
open Go.RowKit
namespace Law5s
open Gm Mm Tm Lm Pm Po Pq Il Rd Hlp5 LawB Sec
open Sp5 (pathOk pathF)

theorem pubL_ok (s : Int) {k : Nat} (h1 : 1 ≤ k) (h3 : k ≤ 3) : pubsOk (pubL s k) = true := by
  unfold pubsOk
  have ha : (pubL s k).all inG = true := by
    rw [List.all_eq_true]
    intro x hx
    unfold pubL at hx
    obtain ⟨y, hy, rfl⟩ := List.mem_map.1 hx
    exact mulG_pos (secL_in s k y hy) (by decide)
  rw [ha, pubL_len]
  simp
  omega
theorem way_ok {x r : Int} {ps ns ls : List Int} (s : Int) (h : makeOk x ps ns r ls = true) : makeOk x (pubL s ns.length) ns r ls = true ∧ 1 ≤ ns.length ∧ ns.length ≤ 3 := by
  obtain ⟨q1, q2, q3, q4, q5, q6⟩ := makeOk_iff.1 h
  have hl : 1 ≤ ns.length ∧ ns.length ≤ 3 := by
    unfold pubsOk at q3
    simp at q3
    omega
  exact ⟨makeOk_iff.2 ⟨q1, q2, pubL_ok s hl.1 hl.2, (pubL_len s ns.length).symm, q5, q6⟩, hl⟩

theorem take_sec (s : Int) {k : Nat} (h : k ≤ 3) : (secL s 3).take k = secL s k := by
  unfold secL
  rw [← List.map_take, List.take_range, Nat.min_eq_left h]
theorem take_pub (s : Int) {k : Nat} (h : k ≤ 3) : (pubL s 3).take k = pubL s k := by
  unfold pubL
  rw [← List.map_take, take_sec s h]
theorem size_ok {x r : Int} {ps ns ls : List Int} (s : Int) (h : makeOk x ps ns r ls = true) {k : Nat} (hk : k < 3) :
    makeOk x ((pubL s 3).take (k + 1)) (([1, 2, 3] : List Int).take (k + 1)) r ls = true ∧
    peelOk ((secL s 3).getD 0 0) (makeF x ((pubL s 3).take (k + 1)) (([1, 2, 3] : List Int).take (k + 1)) r ls) = true := by
  obtain ⟨q1, q2, q3, q4, q5, q6⟩ := makeOk_iff.1 h
  have hm : makeOk x ((pubL s 3).take (k + 1)) (([1, 2, 3] : List Int).take (k + 1)) r ls = true := by
    rw [take_pub s (by omega)]
    refine makeOk_iff.2 ⟨q1, q2, pubL_ok s (by omega) (by omega), ?_, ?_, q6⟩
    · rw [pubL_len, List.length_take]; simp; omega
    · intro y hy
      have : y ∈ ([1, 2, 3] : List Int) := List.mem_of_mem_take hy
      rw [inName_iff]
      simp at this
      omega
  refine ⟨hm, ?_⟩
  rw [makeF_yes hm]
  have hb := packL_ok q1
  have hb6 := packL_len (packOk_iff.1 q1).2
  have he : ∀ i : Int, inG (1 + (s * 29 + i * 101 + 3) % 996) = true := fun i => inG_iff.2 (by omega)
  have h0 : (secL s 3).getD 0 0 = 1 + (s * 29 + ((0 : Nat) : Int) * 101 + 3) % 996 := rfl
  have h3 : pubL s 3 = [mulG (1 + (s * 29 + ((0 : Nat) : Int) * 101 + 3) % 996) 5, mulG (1 + (s * 29 + ((1 : Nat) : Int) * 101 + 3) % 996) 5, mulG (1 + (s * 29 + ((2 : Nat) : Int) * 101 + 3) % 996) 5] := rfl
  rw [h0, h3]
  have g0 := he ((0 : Nat) : Int)
  generalize 1 + (s * 29 + ((0 : Nat) : Int) * 101 + 3) % 996 = e0 at *
  generalize 1 + (s * 29 + ((1 : Nat) : Int) * 101 + 3) % 996 = e1 at *
  generalize 1 + (s * 29 + ((2 : Nat) : Int) * 101 + 3) % 996 = e2 at *
  obtain rfl | rfl | rfl : k = 0 ∨ k = 1 ∨ k = 2 := by omega
  · exact (step_last (pre := []) (names := [1]) q2 g0 (by simp) rfl q6 hb hb6).1
  · exact (step_next (pre := []) («as» := []) (a2 := e1) (names := [1, 2]) q2 g0 (by simp) rfl (by decide) hb hb6).1
  · exact (step_next (pre := []) («as» := [e2]) (a2 := e1) (names := [1, 2, 3]) q2 g0 (by simp) rfl (by decide) hb hb6).1
theorem lies_ne {w : World} {b1 b2 g : Nat} {A B : Option Addr} {c d : Nat} {p : Pkt} (h : Lies w b1 b2 A c B d p) (h1 : g ≠ b1) (h2 : g ≠ b2) (w' : World) (hs : w.heap.size ≤ w'.heap.size) (hk : ∀ i, i ≠ g → w'.heap[i]? = w.heap[i]?) : Lies w' b1 b2 A c B d p :=
  ⟨⟨h.1.1.keep hs fun b hb hb2 _ => hk b (by omega), fun b off hn e j hj => by
      obtain ⟨b', off', e', hb, hb2, _⟩ := h.1.1.2.2.2 hn
      rw [e] at e'
      cases e'
      have := h.1.2 b off hn e j hj
      simpa [World.frozen?, hk b (by omega)] using this⟩, ⟨h.2.1.1.keep hs fun b hb hb2 _ => hk b (by omega), fun b off hn e j hj => by
      obtain ⟨b', off', e', hb, hb2, _⟩ := h.2.1.1.2.2.2 hn
      rw [e] at e'
      cases e'
      have := h.2.1.2 b off hn e j hj
      simpa [World.frozen?, hk b (by omega)] using this⟩, h.2.2⟩
/-- A packet stored in a block of its own. -/
def MidP (w1 w' : World) (g : Nat) (q : Pkt) (A : Option Addr) (c : Nat) (B : Option Addr) (d b1 b2 : Nat) : Prop :=
  Blk w' g #[.int .i64 q.el, .slice A q.hd.length c, .int .i64 q.tag, .slice B q.bd.length d] 27 ∧ Lies w' b1 b2 A c B d q ∧ Below w1.heap.size w1 w' ∧ w1.heap.size ≤ g
theorem mid_new {w1 V w' : World} {q : Pkt} {A B : Option Addr} {c d b1 b2 : Nat} (hv : Below w1.heap.size w1 V) (hl : Lies w' b1 b2 A c B d q) (hb : Below V.drew.heap.size V.drew w') :
    MidP w1 (w'.alloc (.cells #[.int .i64 q.el, .slice A q.hd.length c, .int .i64 q.tag, .slice B q.bd.length d] 27)) w'.heap.size q A c B d b1 b2 := by
  have hb' : Below V.heap.size V w' := below_drew hb
  have h1 := hv.trans (hb'.mono hv.size)
  have h2 : Below w'.heap.size w' (w'.alloc (.cells #[.int .i64 q.el, .slice A q.hd.length c, .int .i64 q.tag, .slice B q.bd.length d] 27)) := (Below.refl _ _).alloc (Nat.le_refl _) _
  exact ⟨heap_alloc_new _ _, hl.below h2 (Nat.le_refl _), h1.trans (h2.mono h1.size), h1.size⟩
theorem mid_blk {V w' : World} {g : Nat} {cs : Array Value} {t : TypeId} (hz : Blk V g cs t) (hb : Below V.drew.heap.size V.drew w') : Blk w' g cs t := hz.below (show Below V.heap.size V w' from below_drew hb) (Nat.le_refl _)
theorem mid_set {w1 V w' : World} {q : Pkt} {A B : Option Addr} {c d b1 b2 g : Nat} {u0 u1 u2 u3 : Value} (hv : Below w1.heap.size w1 V) (hl : Lies w' b1 b2 A c B d q) (hb : Below V.drew.heap.size V.drew w')
    (hz : Blk w' g #[u0, u1, u2, u3] 27) (hg : w1.heap.size ≤ g) (hg2 : g < V.heap.size) (h1 : V.drew.heap.size ≤ b1) (h2 : V.drew.heap.size ≤ b2) :
    MidP w1 ((((w'.setCell ⟨g, 0, none⟩ (.int .i64 q.el)).setCell ⟨g, 1, none⟩ (.slice A q.hd.length c)).setCell ⟨g, 2, none⟩ (.int .i64 q.tag)).setCell ⟨g, 3, none⟩ (.slice B q.bd.length d)) g q A c B d b1 b2 := by
  have hb' : Below V.heap.size V w' := below_drew hb
  have h1' : V.heap.size ≤ b1 := h1
  have h2' : V.heap.size ≤ b2 := h2
  have h3 := hv.trans (hb'.mono hv.size)
  obtain ⟨s1, s2, s3⟩ := set4 (v0 := .int .i64 q.el) (v1 := .slice A q.hd.length c) (v2 := .int .i64 q.tag) (v3 := .slice B q.bd.length d) hz
  have hfar : ∀ i, i ≠ g → ((((w'.setCell ⟨g, 0, none⟩ (.int .i64 q.el)).setCell ⟨g, 1, none⟩ (.slice A q.hd.length c)).setCell ⟨g, 2, none⟩ (.int .i64 q.tag)).setCell ⟨g, 3, none⟩ (.slice B q.bd.length d)).heap[i]? = w'.heap[i]? := fun i hi => (Below.heap_setCell _ _ _ _ hi).trans ((Below.heap_setCell _ _ _ _ hi).trans ((Below.heap_setCell _ _ _ _ hi).trans (Below.heap_setCell _ _ _ _ hi)))
  have n1 : g ≠ b1 := Nat.ne_of_lt (Nat.lt_of_lt_of_le hg2 h1')
  have n2 : g ≠ b2 := Nat.ne_of_lt (Nat.lt_of_lt_of_le hg2 h2')
  clear h1 h2 h1' h2' hz hb hb' hv
  generalize ((((w'.setCell ⟨g, 0, none⟩ (.int .i64 q.el)).setCell ⟨g, 1, none⟩ (.slice A q.hd.length c)).setCell ⟨g, 2, none⟩ (.int .i64 q.tag)).setCell ⟨g, 3, none⟩ (.slice B q.bd.length d)) = W at s1 s2 s3 hfar ⊢
  exact ⟨s1, lies_ne hl n1 n2 W (Nat.le_of_eq s2.symm) hfar, h3.trans (s3 _ hg), hg⟩
theorem four_out {w : World} {b : Nat} {v0 v1 v2 v3 : Value} {t : TypeId} (h : Blk w b #[v0, v1, v2, v3] t) {C : Prop} (k : w.cell? ⟨b, 0, none⟩ = some v0 → w.cell? ⟨b, 1, none⟩ = some v1 → w.cell? ⟨b, 2, none⟩ = some v2 → w.cell? ⟨b, 3, none⟩ = some v3 → (∀ j, w.frozen? ⟨b, j, none⟩ = false) → C) : C := by
  obtain ⟨h0, h1, h2, h3, hf⟩ := four_cells h
  exact k h0 h1 h2 h3 hf
theorem pkt_out {q : Pkt} {ok : Bool} {w w' : World} {e : Ending} (h : PktPost q ok w e w') {C : Prop} (k : ∀ A c B d b1 b2, e = .returned (.tuple #[.agg #[.int .i64 q.el, .slice A q.hd.length c, .int .i64 q.tag, .slice B q.bd.length d], .bool ok]) → Lies w' b1 b2 A c B d q → w.heap.size ≤ b1 → w.heap.size ≤ b2 → Below w.heap.size w w' → C) : C := by
  obtain ⟨A, c, B, d, b1, b2, he, h1, h2, h3, h4⟩ := h
  exact k A c B d b1 b2 he h1 h2 h3 h4
theorem pld_out {y : Pld} {ok : Bool} {w w' : World} {e : Ending} (h : PldPost y ok w e w') {C : Prop} (k : ∀ A c B d b1 b2, e = .returned (.tuple #[.agg #[.int .i64 y.kind, .int .i64 y.next, .int .i64 y.pk.el, .slice A y.pk.hd.length c, .int .i64 y.pk.tag, .slice B y.pk.bd.length d], .bool ok]) → Lies w' b1 b2 A c B d y.pk → w.heap.size ≤ b1 → w.heap.size ≤ b2 → Below w.heap.size w w' → C) : C := by
  obtain ⟨A, c, B, d, b1, b2, he, h1, h2, h3, h4⟩ := h
  exact k A c B d b1 b2 he h1 h2 h3 h4
theorem ints_lit3 (w : World) (x y z : Int) : Ints w.heap.size (w.heap.size + 1) (w.alloc (.cells #[.int .i64 x, .int .i64 y, .int .i64 z] 3)) (some ⟨w.heap.size, 0, none⟩) 3 3 [x, y, z] := by
  have hh : (w.alloc (.cells #[.int .i64 x, .int .i64 y, .int .i64 z] 3)).heap[w.heap.size]? = some (.cells #[.int .i64 x, .int .i64 y, .int .i64 z] 3 (0, 0)) := heap_alloc_new _ _
  refine ⟨rfl, Nat.le_refl _, by unfold maxLen; omega, fun _ => ⟨_, 0, rfl, Nat.le_refl _, by omega, by simp, fun j hj => ?_⟩⟩
  rw [Nat.zero_add, cell_of_row _ _ j _ _ _ hh]
  obtain rfl | rfl | rfl : j = 0 ∨ j = 1 ∨ j = 2 := by omega
  all_goals rfl
theorem ints_lit3g (w : World) (x y z : Int) {g : Nat} (hg : w.heap.size = g) : Ints g (g + 1) (w.alloc (.cells #[.int .i64 x, .int .i64 y, .int .i64 z] 3)) (some ⟨g, 0, none⟩) 3 3 [x, y, z] := by
  subst hg
  exact ints_lit3 w x y z

/-- What was peeled, stored in a block of its own. -/
def MidL (w1 w' : World) (g : Nat) (y : Pld) (A : Option Addr) (c : Nat) (B : Option Addr) (d b1 b2 : Nat) : Prop :=
  Blk w' g #[.int .i64 y.kind, .int .i64 y.next, .int .i64 y.pk.el, .slice A y.pk.hd.length c, .int .i64 y.pk.tag, .slice B y.pk.bd.length d] 37 ∧ Lies w' b1 b2 A c B d y.pk ∧ Below w1.heap.size w1 w'
theorem midl_new {V w' : World} {y : Pld} {A B : Option Addr} {c d b1 b2 : Nat} (hl : Lies w' b1 b2 A c B d y.pk) (hb : Below V.drew.heap.size V.drew w') :
    MidL V (w'.alloc (.cells #[.int .i64 y.kind, .int .i64 y.next, .int .i64 y.pk.el, .slice A y.pk.hd.length c, .int .i64 y.pk.tag, .slice B y.pk.bd.length d] 37)) w'.heap.size y A c B d b1 b2 := by
  have hb' : Below V.heap.size V w' := below_drew hb
  have h2 : Below w'.heap.size w' (w'.alloc (.cells #[.int .i64 y.kind, .int .i64 y.next, .int .i64 y.pk.el, .slice A y.pk.hd.length c, .int .i64 y.pk.tag, .slice B y.pk.bd.length d] 37)) := (Below.refl _ _).alloc (Nat.le_refl _) _
  exact ⟨heap_alloc_new _ _, hl.below h2 (Nat.le_refl _), hb'.trans (h2.mono hb'.size)⟩
theorem set6s {w : World} {g : Nat} {u0 u1 u2 u3 u4 u5 v0 v1 v2 v3 v4 v5 : Value} {t : TypeId} (h : w.heap[g]? = some (.cells #[u0, u1, u2, u3, u4, u5] t (0, 0))) :
    ((((((w.setCell ⟨g, 0, none⟩ v0).setCell ⟨g, 1, none⟩ v1).setCell ⟨g, 2, none⟩ v2).setCell ⟨g, 3, none⟩ v3).setCell ⟨g, 4, none⟩ v4).setCell ⟨g, 5, none⟩ v5).heap[g]? = some (.cells #[v0, v1, v2, v3, v4, v5] t (0, 0)) ∧
    ((((((w.setCell ⟨g, 0, none⟩ v0).setCell ⟨g, 1, none⟩ v1).setCell ⟨g, 2, none⟩ v2).setCell ⟨g, 3, none⟩ v3).setCell ⟨g, 4, none⟩ v4).setCell ⟨g, 5, none⟩ v5).heap.size = w.heap.size ∧
    ∀ B, B ≤ g → Below B w ((((((w.setCell ⟨g, 0, none⟩ v0).setCell ⟨g, 1, none⟩ v1).setCell ⟨g, 2, none⟩ v2).setCell ⟨g, 3, none⟩ v3).setCell ⟨g, 4, none⟩ v4).setCell ⟨g, 5, none⟩ v5) := by
  refine ⟨?_, by simp [World.setCell], fun B hB => ((((((Below.refl B w).setCell hB _).setCell hB _).setCell hB _).setCell hB _).setCell hB _).setCell hB _⟩
  simp [World.setCell, Array.getElem?_modify, h]
theorem midl_set {w1 V w' : World} {y : Pld} {A B : Option Addr} {c d b1 b2 g : Nat} {u0 u1 u2 u3 u4 u5 : Value} (hv : Below w1.heap.size w1 V) (hl : Lies w' b1 b2 A c B d y.pk) (hb : Below V.drew.heap.size V.drew w')
    (hz : Blk w' g #[u0, u1, u2, u3, u4, u5] 37) (hg : w1.heap.size ≤ g) (hg2 : g < V.heap.size) (h1 : V.drew.heap.size ≤ b1) (h2 : V.drew.heap.size ≤ b2) :
    MidL w1 ((((((w'.setCell ⟨g, 0, none⟩ (.int .i64 y.kind)).setCell ⟨g, 1, none⟩ (.int .i64 y.next)).setCell ⟨g, 2, none⟩ (.int .i64 y.pk.el)).setCell ⟨g, 3, none⟩ (.slice A y.pk.hd.length c)).setCell ⟨g, 4, none⟩ (.int .i64 y.pk.tag)).setCell ⟨g, 5, none⟩ (.slice B y.pk.bd.length d)) g y A c B d b1 b2 := by
  have hb' : Below V.heap.size V w' := below_drew hb
  have h1' : V.heap.size ≤ b1 := h1
  have h2' : V.heap.size ≤ b2 := h2
  have h3 := hv.trans (hb'.mono hv.size)
  obtain ⟨s1, s2, s3⟩ := set6s (v0 := .int .i64 y.kind) (v1 := .int .i64 y.next) (v2 := .int .i64 y.pk.el) (v3 := .slice A y.pk.hd.length c) (v4 := .int .i64 y.pk.tag) (v5 := .slice B y.pk.bd.length d) hz
  have hfar : ∀ i, i ≠ g → ((((((w'.setCell ⟨g, 0, none⟩ (.int .i64 y.kind)).setCell ⟨g, 1, none⟩ (.int .i64 y.next)).setCell ⟨g, 2, none⟩ (.int .i64 y.pk.el)).setCell ⟨g, 3, none⟩ (.slice A y.pk.hd.length c)).setCell ⟨g, 4, none⟩ (.int .i64 y.pk.tag)).setCell ⟨g, 5, none⟩ (.slice B y.pk.bd.length d)).heap[i]? = w'.heap[i]? := fun i hi => (Below.heap_setCell _ _ _ _ hi).trans ((Below.heap_setCell _ _ _ _ hi).trans ((Below.heap_setCell _ _ _ _ hi).trans ((Below.heap_setCell _ _ _ _ hi).trans ((Below.heap_setCell _ _ _ _ hi).trans (Below.heap_setCell _ _ _ _ hi)))))
  have n1 : g ≠ b1 := Nat.ne_of_lt (Nat.lt_of_lt_of_le hg2 h1')
  have n2 : g ≠ b2 := Nat.ne_of_lt (Nat.lt_of_lt_of_le hg2 h2')
  clear h1 h2 h1' h2' hz hb hb' hv
  generalize ((((((w'.setCell ⟨g, 0, none⟩ (.int .i64 y.kind)).setCell ⟨g, 1, none⟩ (.int .i64 y.next)).setCell ⟨g, 2, none⟩ (.int .i64 y.pk.el)).setCell ⟨g, 3, none⟩ (.slice A y.pk.hd.length c)).setCell ⟨g, 4, none⟩ (.int .i64 y.pk.tag)).setCell ⟨g, 5, none⟩ (.slice B y.pk.bd.length d)) = W at s1 s2 s3 hfar ⊢
  exact ⟨s1, lies_ne hl n1 n2 W (Nat.le_of_eq s2.symm) hfar, h3.trans (s3 _ hg)⟩
theorem six_out {w : World} {b : Nat} {v0 v1 v2 v3 v4 v5 : Value} {t : TypeId} (h : Blk w b #[v0, v1, v2, v3, v4, v5] t) {C : Prop} (k : w.cell? ⟨b, 0, none⟩ = some v0 → w.cell? ⟨b, 1, none⟩ = some v1 → w.cell? ⟨b, 2, none⟩ = some v2 → w.cell? ⟨b, 3, none⟩ = some v3 → w.cell? ⟨b, 4, none⟩ = some v4 → w.cell? ⟨b, 5, none⟩ = some v5 → (∀ j, w.frozen? ⟨b, j, none⟩ = false) → C) : C := by
  obtain ⟨h0, h1, h2, h3, h4, h5, hf⟩ := six_cells h
  exact k h0 h1 h2 h3 h4 h5 hf
theorem peelY (lo hi lo2 hi2 : Nat) (A B : Option Addr) (c d : Nat) (x : Int) (q : Pkt) (y : Pld) (w : World) (hh : Ints lo hi w A q.hd.length c q.hd) (hb : Ints lo2 hi2 w B q.bd.length d q.bd) (h : peelOk x q = true) (hy : peelF x q = y) :
    Calls Try.prog 18 #[.int .i64 x, .agg #[.int .i64 q.el, .slice A q.hd.length c, .int .i64 q.tag, .slice B q.bd.length d]] w (PldPost y true w) := by
  have := Im5.PacketPeel lo hi lo2 hi2 A B q.hd.length c q.bd.length d x q.el q.tag q.hd q.bd w hh hb
  have e1 : peelF x ⟨q.el, q.hd, q.tag, q.bd⟩ = y := hy
  have e2 : peelOk x ⟨q.el, q.hd, q.tag, q.bd⟩ = true := h
  rwa [e1, e2] at this
theorem validY (lo hi lo2 hi2 : Nat) (A B : Option Addr) (c d : Nat) (q : Pkt) (w : World) (hh : Ints lo hi w A q.hd.length c q.hd) (hb : Ints lo2 hi2 w B q.bd.length d q.bd) (h : pktOk q = true) :
    Calls Try.prog 15 #[.agg #[.int .i64 q.el, .slice A q.hd.length c, .int .i64 q.tag, .slice B q.bd.length d]] w (BoolB true w) := by
  have := Im5.PacketValid lo hi lo2 hi2 A B q.hd.length c q.bd.length d q.el q.tag q.hd q.bd w hh hb
  have e1 : pktOk ⟨q.el, q.hd, q.tag, q.bd⟩ = true := h
  rwa [e1] at this
theorem secrets3 (s : Int) (w : World) (h0 : 0 ≤ s) (h1 : s ≤ 1048576) : Calls Try.prog 17 #[.int .i64 3, .int .i64 s] w (SecPost s 3 w) := secrets 3 s w (by omega) h0 h1
set_option maxRecDepth 20000 in
set_option maxHeartbeats 2000000 in
theorem fnPacketSize (A : Option Addr) (n c : Nat) (A1 : Option Addr) (n1 c1 : Nat) (w : World) (h : CodeIs w A n c) :
    Calls Try.prog 4 #[.slice A n c, .slice A1 n1 c1] w (TruePost w) := by
  have HC := Lib.hid h
  clear h
  by_cases hn : 1048576 < n
  · go_enter Try.func4, Try.ntmps4
    go_wp2
    go_ret
    exact ⟨rfl, Below.refl _ _⟩
  by_cases hn1 : 1048576 < n1
  · go_enter Try.func4, Try.ntmps4
    go_wp2
    go_ret
    exact ⟨rfl, Below.refl _ _⟩
  have B : Hid (Below w.heap.size w w) := Below.refl _ _
  go_enter Try.func4, Try.ntmps4
  have hq : n ≤ 1048576 := by omega
  go_wp2_with fail
  ((with_reducible refine (DrawPacketMake _ _ _ _ HC.out).mono ?_); rintro e w1 ⟨x, r, AP, AN, AL, cp, cn, cl, ps, ns, ls, rfl, hx, hl1, hl2, hl3, i1, i2, i3, hb⟩)
  replace B := Lib.hid (B.out.trans (hb.mono B.out.size))
  have z1 := hb.size
  have IP := Lib.hid i1
  have IN := Lib.hid i2
  have IL := Lib.hid i3
  clear i1 i2 i3 hb
  go_wp2_with fail
  ((with_reducible refine (Im5.PacketMake _ _ _ _ _ _ _ _ _ _ _ _ _ _ _ ps ns ls x r _ IP.out IN.out IL.out).mono ?_); rintro e w2 ⟨AM, cm, BM, dm, g1, g2, rfl, hlie, hg1, hg2, hb⟩)
  replace IP := Lib.hid (IP.out.below hb (Nat.le_refl _))
  replace IN := Lib.hid (IN.out.below hb (Nat.le_refl _))
  replace IL := Lib.hid (IL.out.below hb (Nat.le_refl _))
  replace B := Lib.hid (B.out.trans (hb.mono B.out.size))
  have z2 := hb.size
  have LM := Lib.hid hlie
  clear hlie hb
  generalize hpe : makeF x ps ns r ls = p at *
  have hal : Below w2.heap.size w2 (w2.alloc (.cells #[.int .i64 p.el, .slice AM p.hd.length cm, .int .i64 p.tag, .slice BM p.bd.length dm] 27)) := (Below.refl _ _).alloc (Nat.le_refl _) _
  have hzz : Blk (w2.alloc (.cells #[.int .i64 p.el, .slice AM p.hd.length cm, .int .i64 p.tag, .slice BM p.bd.length dm] 27)) w2.heap.size #[.int .i64 p.el, .slice AM p.hd.length cm, .int .i64 p.tag, .slice BM p.bd.length dm] 27 := heap_alloc_new _ _
  replace IP := Lib.hid (IP.out.below hal (Nat.le_refl _))
  replace IN := Lib.hid (IN.out.below hal (Nat.le_refl _))
  replace IL := Lib.hid (IL.out.below hal (Nat.le_refl _))
  replace LM := Lib.hid (LM.out.below hal (Nat.le_refl _))
  replace B := Lib.hid (B.out.trans (hal.mono B.out.size))
  have ZM := Lib.hid hzz
  clear hzz
  clear hal
  go_wp2_with fail
  ((with_reducible refine (Sp5.PacketMake _ _ _ _ _ _ _ _ _ _ _ _ _ _ _ ps ns ls x r _ IP.out IN.out IL.out).mono ?_); rintro e w4 ⟨AS, cs, BS, ds, g3, g4, rfl, hlie, hg3, hg4, hb⟩)
  replace IP := Lib.hid (IP.out.below hb (Nat.le_refl _))
  replace IN := Lib.hid (IN.out.below hb (Nat.le_refl _))
  replace IL := Lib.hid (IL.out.below hb (Nat.le_refl _))
  replace LM := Lib.hid (LM.out.below hb (Nat.le_refl _))
  replace ZM := Lib.hid (ZM.out.below hb (Nat.le_refl _))
  replace B := Lib.hid (B.out.trans (hb.mono B.out.size))
  have z4 := hb.size
  have LS := Lib.hid hlie
  clear hlie hb
  rw [hpe] at LS ⊢
  have HPE := Lib.hid hpe
  clear hpe
  have hal : Below w4.heap.size w4 (w4.alloc (.cells #[.int .i64 p.el, .slice AS p.hd.length cs, .int .i64 p.tag, .slice BS p.bd.length ds] 27)) := (Below.refl _ _).alloc (Nat.le_refl _) _
  have hzz : Blk (w4.alloc (.cells #[.int .i64 p.el, .slice AS p.hd.length cs, .int .i64 p.tag, .slice BS p.bd.length ds] 27)) w4.heap.size #[.int .i64 p.el, .slice AS p.hd.length cs, .int .i64 p.tag, .slice BS p.bd.length ds] 27 := heap_alloc_new _ _
  replace IP := Lib.hid (IP.out.below hal (Nat.le_refl _))
  replace IN := Lib.hid (IN.out.below hal (Nat.le_refl _))
  replace IL := Lib.hid (IL.out.below hal (Nat.le_refl _))
  replace LM := Lib.hid (LM.out.below hal (Nat.le_refl _))
  replace ZM := Lib.hid (ZM.out.below hal (Nat.le_refl _))
  replace LS := Lib.hid (LS.out.below hal (Nat.le_refl _))
  replace B := Lib.hid (B.out.trans (hal.mono B.out.size))
  have ZS := Lib.hid hzz
  clear hzz
  clear hal
  cases hok : makeOk x ps ns r ls
  · obtain ⟨m0, m1, m2, m3, mf⟩ := four_cells ZM.out
    obtain ⟨s0, s1, s2, s3, sf⟩ := four_cells ZS.out
    go_wp2_with fail
    ((with_reducible refine (samePacket p _ _ _ _ _ _ _ _ _ _ _ _ _ _ _ _ _ LM.out.hdr.ints LM.out.bdy.ints LS.out.hdr.ints LS.out.bdy.ints).mono ?_); rintro e w6 ⟨rfl, hb⟩)
    replace IP := Lib.hid (IP.out.below hb (Nat.le_refl _))
    replace IN := Lib.hid (IN.out.below hb (Nat.le_refl _))
    replace IL := Lib.hid (IL.out.below hb (Nat.le_refl _))
    replace LM := Lib.hid (LM.out.below hb (Nat.le_refl _))
    replace ZM := Lib.hid (ZM.out.below hb (Nat.le_refl _))
    replace LS := Lib.hid (LS.out.below hb (Nat.le_refl _))
    replace ZS := Lib.hid (ZS.out.below hb (Nat.le_refl _))
    replace B := Lib.hid (B.out.trans (hb.mono B.out.size))
    have z6 := hb.size
    clear hb
    clear m0 m1 m2 m3 mf s0 s1 s2 s3 sf
    obtain ⟨m0, m1, m2, m3, mf⟩ := four_cells ZM.out
    obtain ⟨s0, s1, s2, s3, sf⟩ := four_cells ZS.out
    go_wp2_with fail
    ((with_reducible refine (samePacket p _ _ _ _ _ _ _ _ _ _ _ _ _ _ _ _ _ LM.out.hdr.ints LM.out.bdy.ints LS.out.hdr.ints LS.out.bdy.ints).mono ?_); rintro e w7 ⟨rfl, hb⟩)
    replace IP := Lib.hid (IP.out.below hb (Nat.le_refl _))
    replace IN := Lib.hid (IN.out.below hb (Nat.le_refl _))
    replace IL := Lib.hid (IL.out.below hb (Nat.le_refl _))
    replace LM := Lib.hid (LM.out.below hb (Nat.le_refl _))
    replace ZM := Lib.hid (ZM.out.below hb (Nat.le_refl _))
    replace LS := Lib.hid (LS.out.below hb (Nat.le_refl _))
    replace ZS := Lib.hid (ZS.out.below hb (Nat.le_refl _))
    replace B := Lib.hid (B.out.trans (hb.mono B.out.size))
    have z7 := hb.size
    clear hb
    clear m0 m1 m2 m3 mf s0 s1 s2 s3 sf
    clear hok
    go_wp2
    go_ret
    exact ⟨rfl, B.out⟩
  obtain ⟨m0, m1, m2, m3, mf⟩ := four_cells ZM.out
  obtain ⟨s0, s1, s2, s3, sf⟩ := four_cells ZS.out
  go_wp2_with fail
  ((with_reducible refine (samePacket p _ _ _ _ _ _ _ _ _ _ _ _ _ _ _ _ _ LM.out.hdr.ints LM.out.bdy.ints LS.out.hdr.ints LS.out.bdy.ints).mono ?_); rintro e w6 ⟨rfl, hb⟩)
  replace IP := Lib.hid (IP.out.below hb (Nat.le_refl _))
  replace IN := Lib.hid (IN.out.below hb (Nat.le_refl _))
  replace IL := Lib.hid (IL.out.below hb (Nat.le_refl _))
  replace LM := Lib.hid (LM.out.below hb (Nat.le_refl _))
  replace ZM := Lib.hid (ZM.out.below hb (Nat.le_refl _))
  replace LS := Lib.hid (LS.out.below hb (Nat.le_refl _))
  replace ZS := Lib.hid (ZS.out.below hb (Nat.le_refl _))
  replace B := Lib.hid (B.out.trans (hb.mono B.out.size))
  have z6 := hb.size
  clear hb
  clear m0 m1 m2 m3 mf s0 s1 s2 s3 sf
  have HK := Lib.hid hok
  clear hok
  clear LM LS ZS IP IN
  have HP9 : Hid (p.hd.length = 9 ∧ p.bd.length = 6) := by
    have hv := (Po.make_valid HK.out).1
    rw [HPE.out] at hv
    have := pktOk_iff.1 hv
    exact ⟨this.2.2.1, this.2.2.2.2.2⟩
  go_wp2_with fail
  ((with_reducible refine (secrets3 (n1 : Int) _ (by omega) (by omega)).mono ?_); rintro e w7 ⟨AA, ca, AB, cb, rfl, ia, ib, hb⟩)
  replace IL := Lib.hid (IL.out.below hb (Nat.le_refl _))
  replace ZM := Lib.hid (ZM.out.below hb (Nat.le_refl _))
  replace B := Lib.hid (B.out.trans (hb.mono B.out.size))
  have z7 := hb.size
  have IA := Lib.hid ia
  have IB := Lib.hid ib
  clear ia ib hb
  have HSZ := Lib.hid (fun (k : Nat) (hk : k < 3) => size_ok (n1 : Int) HK.out hk)
  generalize pubL (n1 : Int) 3 = bs at *
  generalize secL (n1 : Int) 3 = ss at *
  have HM0 : Hid (Below w7.heap.size w7 w7) := Below.refl _ _
  go_wp2
  go_loopw [16] (fun i wr => ∃ k : Nat, k ≤ 3 ∧ i = .int .i64 ((k : Int) + 1) ∧ Hid (Below w7.heap.size w7 wr)) (fun i _ => 4 - (intOf i).toNat)
  case atStart => exact ⟨0, Nat.zero_le _, rfl, HM0.out⟩
  case round =>
    obtain ⟨k, hk, rfl, hR⟩ := hrel
    clear HM0
    have ZR := Lib.hid (ZM.out.below hR.out (Nat.le_refl _))
    have BR := Lib.hid (B.out.trans (hR.out.mono B.out.size))
    have hsz := hR.out.size
    by_cases hlt : k < 3
    · have hk3 : decide ((k : Int) + 1 ≤ 3) = true := by simp; omega
      obtain ⟨hmk, hpl⟩ := HSZ.out k hlt
      have hcb := IB.out.2.1
      have hkc : k + 1 ≤ cb := by omega
      obtain ⟨bb, ob, rfl, _, _, _⟩ := IB.out.at_ (k := 0) (by omega)
      obtain ⟨ba, oa, rfl, _, _, cA9⟩ := IA.out.at_ (k := 0) (by omega)
      have hba9 : ba < w7.heap.size := World.block_lt_of_cell? w7 _ cA9
      have cA0 := (hR.out.cell (p := ⟨ba, oa + 0, none⟩) hba9).trans cA9
      have hba : ba < wr.heap.size := Nat.lt_of_lt_of_le hba9 hR.out.size
      rw [Nat.add_zero] at cA0
      clear cA9
      generalize ss.getD 0 0 = a0 at *
      have hkc2 : (k : Int) + 1 ≤ (cb : Int) := by omega
      have hk4 : k + 1 ≤ 3 := by omega
      have hk5 : (k : Int) + 1 ≤ 3 := by omega
      have hk6 : (0 : Int) ≤ (k : Int) + 1 := by omega
      have hk7 : ((k : Int) + 1).toNat = k + 1 := by omega
      have hsL : (wr.alloc (.cells #[.int .i64 1, .int .i64 2, .int .i64 3] 3)).heap.size = wr.heap.size + 1 := by simp
      have hsZ : (wr.alloc (.cells #[.int .i64 0, .slice none 0 0, .int .i64 0, .slice none 0 0] 27)).heap.size = wr.heap.size + 1 := by simp
      have haL : Below wr.heap.size wr (wr.alloc (.cells #[.int .i64 1, .int .i64 2, .int .i64 3] 3)) := (Below.refl _ _).alloc (Nat.le_refl _) _
      have haZ : Below wr.heap.size wr (wr.alloc (.cells #[.int .i64 0, .slice none 0 0, .int .i64 0, .slice none 0 0] 27)) := (Below.refl _ _).alloc (Nat.le_refl _) _
      have hVHA : Below wr.heap.size wr (wr.alloc (.cells #[.int .i64 1, .int .i64 2, .int .i64 3] 3)) := haL
      have hHA1 : Ints _ _ (wr.alloc (.cells #[.int .i64 1, .int .i64 2, .int .i64 3] 3)) (some ⟨bb, ob, none⟩) (k + 1) cb (bs.take (k + 1)) := ((IB.out.below hR.out (Nat.le_refl _)).below hVHA (Nat.le_refl _)).take (k := k + 1) (by omega)
      have HA1 := Lib.hid (show Ints _ _ (wr.alloc (.cells #[.int .i64 1, .int .i64 2, .int .i64 3] 3)).drew (some ⟨bb, ob, none⟩) (k + 1) cb (bs.take (k + 1)) from hHA1)
      have hHA2 : Ints _ _ (wr.alloc (.cells #[.int .i64 1, .int .i64 2, .int .i64 3] 3)) (some ⟨wr.heap.size, 0, none⟩) (k + 1) 3 (([1, 2, 3] : List Int).take (k + 1)) := (ints_lit3 wr 1 2 3).take (k := k + 1) (by omega)
      have HA2 := Lib.hid (show Ints _ _ (wr.alloc (.cells #[.int .i64 1, .int .i64 2, .int .i64 3] 3)).drew (some ⟨wr.heap.size, 0, none⟩) (k + 1) 3 (([1, 2, 3] : List Int).take (k + 1)) from hHA2)
      have hHA3 : Ints _ _ (wr.alloc (.cells #[.int .i64 1, .int .i64 2, .int .i64 3] 3)) AL ls.length cl ls := (IL.out.below hR.out (Nat.le_refl _)).below hVHA (Nat.le_refl _)
      have HA3 := Lib.hid (show Ints _ _ (wr.alloc (.cells #[.int .i64 1, .int .i64 2, .int .i64 3] 3)).drew AL ls.length cl ls from hHA3)
      have HVHA := Lib.hid hVHA
      clear hVHA hHA1 hHA2 hHA3
      have hVHB : Below wr.heap.size wr ((wr.alloc (.cells #[.int .i64 1, .int .i64 2, .int .i64 3] 3)).alloc (.cells #[.int .i64 0, .slice none 0 0, .int .i64 0, .slice none 0 0] 27)) := haL.alloc haL.size _
      have hHB1 : Ints _ _ ((wr.alloc (.cells #[.int .i64 1, .int .i64 2, .int .i64 3] 3)).alloc (.cells #[.int .i64 0, .slice none 0 0, .int .i64 0, .slice none 0 0] 27)) (some ⟨bb, ob, none⟩) (k + 1) cb (bs.take (k + 1)) := ((IB.out.below hR.out (Nat.le_refl _)).below hVHB (Nat.le_refl _)).take (k := k + 1) (by omega)
      have HB1 := Lib.hid (show Ints _ _ ((wr.alloc (.cells #[.int .i64 1, .int .i64 2, .int .i64 3] 3)).alloc (.cells #[.int .i64 0, .slice none 0 0, .int .i64 0, .slice none 0 0] 27)).drew (some ⟨bb, ob, none⟩) (k + 1) cb (bs.take (k + 1)) from hHB1)
      have hHB2 : Ints _ _ ((wr.alloc (.cells #[.int .i64 1, .int .i64 2, .int .i64 3] 3)).alloc (.cells #[.int .i64 0, .slice none 0 0, .int .i64 0, .slice none 0 0] 27)) (some ⟨wr.heap.size, 0, none⟩) (k + 1) 3 (([1, 2, 3] : List Int).take (k + 1)) := ((ints_lit3 wr 1 2 3).below (show Below (wr.alloc (.cells #[.int .i64 1, .int .i64 2, .int .i64 3] 3)).heap.size (wr.alloc (.cells #[.int .i64 1, .int .i64 2, .int .i64 3] 3)) ((wr.alloc (.cells #[.int .i64 1, .int .i64 2, .int .i64 3] 3)).alloc (.cells #[.int .i64 0, .slice none 0 0, .int .i64 0, .slice none 0 0] 27)) from (Below.refl _ _).alloc (Nat.le_refl _) _) (Nat.le_refl _)).take (k := k + 1) (by omega)
      have HB2 := Lib.hid (show Ints _ _ ((wr.alloc (.cells #[.int .i64 1, .int .i64 2, .int .i64 3] 3)).alloc (.cells #[.int .i64 0, .slice none 0 0, .int .i64 0, .slice none 0 0] 27)).drew (some ⟨wr.heap.size, 0, none⟩) (k + 1) 3 (([1, 2, 3] : List Int).take (k + 1)) from hHB2)
      have hHB3 : Ints _ _ ((wr.alloc (.cells #[.int .i64 1, .int .i64 2, .int .i64 3] 3)).alloc (.cells #[.int .i64 0, .slice none 0 0, .int .i64 0, .slice none 0 0] 27)) AL ls.length cl ls := (IL.out.below hR.out (Nat.le_refl _)).below hVHB (Nat.le_refl _)
      have HB3 := Lib.hid (show Ints _ _ ((wr.alloc (.cells #[.int .i64 1, .int .i64 2, .int .i64 3] 3)).alloc (.cells #[.int .i64 0, .slice none 0 0, .int .i64 0, .slice none 0 0] 27)).drew AL ls.length cl ls from hHB3)
      have HVHB := Lib.hid hVHB
      clear hVHB hHB1 hHB2 hHB3
      have hVHC : Below wr.heap.size wr ((wr.alloc (.cells #[.int .i64 0, .slice none 0 0, .int .i64 0, .slice none 0 0] 27)).alloc (.cells #[.int .i64 1, .int .i64 2, .int .i64 3] 3)) := haZ.alloc haZ.size _
      have hHC1 : Ints _ _ ((wr.alloc (.cells #[.int .i64 0, .slice none 0 0, .int .i64 0, .slice none 0 0] 27)).alloc (.cells #[.int .i64 1, .int .i64 2, .int .i64 3] 3)) (some ⟨bb, ob, none⟩) (k + 1) cb (bs.take (k + 1)) := ((IB.out.below hR.out (Nat.le_refl _)).below hVHC (Nat.le_refl _)).take (k := k + 1) (by omega)
      have HC1 := Lib.hid (show Ints _ _ ((wr.alloc (.cells #[.int .i64 0, .slice none 0 0, .int .i64 0, .slice none 0 0] 27)).alloc (.cells #[.int .i64 1, .int .i64 2, .int .i64 3] 3)).drew (some ⟨bb, ob, none⟩) (k + 1) cb (bs.take (k + 1)) from hHC1)
      have hHC2 : Ints _ _ ((wr.alloc (.cells #[.int .i64 0, .slice none 0 0, .int .i64 0, .slice none 0 0] 27)).alloc (.cells #[.int .i64 1, .int .i64 2, .int .i64 3] 3)) (some ⟨wr.heap.size + 1, 0, none⟩) (k + 1) 3 (([1, 2, 3] : List Int).take (k + 1)) := (ints_lit3g (wr.alloc (.cells #[.int .i64 0, .slice none 0 0, .int .i64 0, .slice none 0 0] 27)) 1 2 3 hsZ).take (k := k + 1) (by omega)
      have HC2 := Lib.hid (show Ints _ _ ((wr.alloc (.cells #[.int .i64 0, .slice none 0 0, .int .i64 0, .slice none 0 0] 27)).alloc (.cells #[.int .i64 1, .int .i64 2, .int .i64 3] 3)).drew (some ⟨wr.heap.size + 1, 0, none⟩) (k + 1) 3 (([1, 2, 3] : List Int).take (k + 1)) from hHC2)
      have hHC3 : Ints _ _ ((wr.alloc (.cells #[.int .i64 0, .slice none 0 0, .int .i64 0, .slice none 0 0] 27)).alloc (.cells #[.int .i64 1, .int .i64 2, .int .i64 3] 3)) AL ls.length cl ls := (IL.out.below hR.out (Nat.le_refl _)).below hVHC (Nat.le_refl _)
      have HC3 := Lib.hid (show Ints _ _ ((wr.alloc (.cells #[.int .i64 0, .slice none 0 0, .int .i64 0, .slice none 0 0] 27)).alloc (.cells #[.int .i64 1, .int .i64 2, .int .i64 3] 3)).drew AL ls.length cl ls from hHC3)
      have HVHC := Lib.hid hVHC
      clear hVHC hHC1 hHC2 hHC3
      have hZB : Blk ((wr.alloc (.cells #[.int .i64 1, .int .i64 2, .int .i64 3] 3)).alloc (.cells #[.int .i64 0, .slice none 0 0, .int .i64 0, .slice none 0 0] 27)) (wr.heap.size + 1) #[.int .i64 0, .slice none 0 0, .int .i64 0, .slice none 0 0] 27 := by rw [← hsL]; exact heap_alloc_new _ _
      have hZC : Blk ((wr.alloc (.cells #[.int .i64 0, .slice none 0 0, .int .i64 0, .slice none 0 0] 27)).alloc (.cells #[.int .i64 1, .int .i64 2, .int .i64 3] 3)) wr.heap.size #[.int .i64 0, .slice none 0 0, .int .i64 0, .slice none 0 0] 27 := (show Blk (wr.alloc (.cells #[.int .i64 0, .slice none 0 0, .int .i64 0, .slice none 0 0] 27)) wr.heap.size #[.int .i64 0, .slice none 0 0, .int .i64 0, .slice none 0 0] 27 from heap_alloc_new _ _).below ((Below.refl _ _).alloc (Nat.le_refl _) _) (Nat.le_refl _)
      have ZB := Lib.hid hZB
      have ZC := Lib.hid hZC
      have hsB : ((wr.alloc (.cells #[.int .i64 1, .int .i64 2, .int .i64 3] 3)).alloc (.cells #[.int .i64 0, .slice none 0 0, .int .i64 0, .slice none 0 0] 27)).heap.size = wr.heap.size + 2 := by simp
      have hsC : ((wr.alloc (.cells #[.int .i64 0, .slice none 0 0, .int .i64 0, .slice none 0 0] 27)).alloc (.cells #[.int .i64 1, .int .i64 2, .int .i64 3] 3)).heap.size = wr.heap.size + 2 := by simp
      have HSB := Lib.hid hsB
      have HSC := Lib.hid hsC
      have HMK := Lib.hid hmk
      have hv5 := (Po.make_valid hmk).1
      generalize hq : makeF x (bs.take (k + 1)) (([1, 2, 3] : List Int).take (k + 1)) r ls = q at *
      have HQ := Lib.hid hq
      have hq9 := pktOk_iff.1 hv5
      have hl9 : ((q.hd.length : Int) != (p.hd.length : Int)) = false := by rw [hq9.2.2.1, HP9.out.1]; rfl
      have hl6 : ((q.bd.length : Int) != (p.bd.length : Int)) = false := by rw [hq9.2.2.2.2.2, HP9.out.2]; rfl
      have HPL := Lib.hid hpl
      clear hsL hsZ haL haZ hZB hZC hsB hsC hmk hpl hq hv5 hq9
      go_wp2
      go_region_law (first
        | (go_simp; go_at_call 12; with_reducible refine (Im5.PacketMake _ _ _ _ _ _ _ _ _ _ _ _ _ _ _ (bs.take (k + 1)) (([1, 2, 3] : List Int).take (k + 1)) ls x r _ HA1.out HA2.out HA3.out).mono ?_; intro e w40 hpp; refine pkt_out hpp ?_; intro A5 c5 B5 d5 g5 g6 he; subst he; intro hlie hg5 hg6 hb; clear hpp; rw [HMK.out]; rw [HQ.out] at hlie ⊢
           have HF : Hid (MidP wr (w40.alloc (.cells #[.int .i64 q.el, .slice A5 q.hd.length c5, .int .i64 q.tag, .slice B5 q.bd.length d5] 27)) w40.heap.size q A5 c5 B5 d5 g5 g6) := mid_new HVHA.out hlie hb)
        | (go_simp; go_at_call 12; with_reducible refine (Im5.PacketMake _ _ _ _ _ _ _ _ _ _ _ _ _ _ _ (bs.take (k + 1)) (([1, 2, 3] : List Int).take (k + 1)) ls x r _ HB1.out HB2.out HB3.out).mono ?_; intro e w40 hpp; refine pkt_out hpp ?_; intro A5 c5 B5 d5 g5 g6 he; subst he; intro hlie hg5 hg6 hb; clear hpp; rw [HMK.out]; rw [HQ.out] at hlie ⊢
           have hzz := mid_blk ZB.out hb
           refine four_out hzz ?_; intro y0 y1 y2 y3 yf
           have HF : Hid (MidP wr ((((w40.setCell ⟨wr.heap.size + 1, 0, none⟩ (.int .i64 q.el)).setCell ⟨wr.heap.size + 1, 1, none⟩ (.slice A5 q.hd.length c5)).setCell ⟨wr.heap.size + 1, 2, none⟩ (.int .i64 q.tag)).setCell ⟨wr.heap.size + 1, 3, none⟩ (.slice B5 q.bd.length d5)) (wr.heap.size + 1) q A5 c5 B5 d5 g5 g6) := mid_set HVHB.out hlie hb hzz (by omega) (by have := HSB.out; omega) hg5 hg6)
        | (go_simp; go_at_call 12; with_reducible refine (Im5.PacketMake _ _ _ _ _ _ _ _ _ _ _ _ _ _ _ (bs.take (k + 1)) (([1, 2, 3] : List Int).take (k + 1)) ls x r _ HC1.out HC2.out HC3.out).mono ?_; intro e w40 hpp; refine pkt_out hpp ?_; intro A5 c5 B5 d5 g5 g6 he; subst he; intro hlie hg5 hg6 hb; clear hpp; rw [HMK.out]; rw [HQ.out] at hlie ⊢
           have hzz := mid_blk ZC.out hb
           refine four_out hzz ?_; intro y0 y1 y2 y3 yf
           have HF : Hid (MidP wr ((((w40.setCell ⟨wr.heap.size, 0, none⟩ (.int .i64 q.el)).setCell ⟨wr.heap.size, 1, none⟩ (.slice A5 q.hd.length c5)).setCell ⟨wr.heap.size, 2, none⟩ (.int .i64 q.tag)).setCell ⟨wr.heap.size, 3, none⟩ (.slice B5 q.bd.length d5)) wr.heap.size q A5 c5 B5 d5 g5 g6) := mid_set HVHC.out hlie hb hzz (Nat.le_refl _) (by have := HSC.out; omega) hg5 hg6)
        | (trace_state; fail))
      all_goals
        first
          | (have hmk : Hid (MidP wr (w40.alloc (.cells #[.int .i64 q.el, .slice A5 q.hd.length c5, .int .i64 q.tag, .slice B5 q.bd.length d5] 27)) (w40.heap.size) q A5 c5 B5 d5 g5 g6) := by with_reducible exact HF
             clear hmk; generalize (w40.alloc (.cells #[.int .i64 q.el, .slice A5 q.hd.length c5, .int .i64 q.tag, .slice B5 q.bd.length d5] 27)) = w41 at HF ⊢; generalize hgg : w40.heap.size = g at HF ⊢)
          | (have hmk : Hid (MidP wr ((((w40.setCell ⟨wr.heap.size + 1, 0, none⟩ (.int .i64 q.el)).setCell ⟨wr.heap.size + 1, 1, none⟩ (.slice A5 q.hd.length c5)).setCell ⟨wr.heap.size + 1, 2, none⟩ (.int .i64 q.tag)).setCell ⟨wr.heap.size + 1, 3, none⟩ (.slice B5 q.bd.length d5)) (wr.heap.size + 1) q A5 c5 B5 d5 g5 g6) := by with_reducible exact HF
             clear hmk; generalize ((((w40.setCell ⟨wr.heap.size + 1, 0, none⟩ (.int .i64 q.el)).setCell ⟨wr.heap.size + 1, 1, none⟩ (.slice A5 q.hd.length c5)).setCell ⟨wr.heap.size + 1, 2, none⟩ (.int .i64 q.tag)).setCell ⟨wr.heap.size + 1, 3, none⟩ (.slice B5 q.bd.length d5)) = w41 at HF ⊢; generalize hgg : wr.heap.size + 1 = g at HF ⊢)
          | (have hmk : Hid (MidP wr ((((w40.setCell ⟨wr.heap.size, 0, none⟩ (.int .i64 q.el)).setCell ⟨wr.heap.size, 1, none⟩ (.slice A5 q.hd.length c5)).setCell ⟨wr.heap.size, 2, none⟩ (.int .i64 q.tag)).setCell ⟨wr.heap.size, 3, none⟩ (.slice B5 q.bd.length d5)) (wr.heap.size) q A5 c5 B5 d5 g5 g6) := by with_reducible exact HF
             clear hmk; generalize ((((w40.setCell ⟨wr.heap.size, 0, none⟩ (.int .i64 q.el)).setCell ⟨wr.heap.size, 1, none⟩ (.slice A5 q.hd.length c5)).setCell ⟨wr.heap.size, 2, none⟩ (.int .i64 q.tag)).setCell ⟨wr.heap.size, 3, none⟩ (.slice B5 q.bd.length d5)) = w41 at HF ⊢; generalize hgg : wr.heap.size = g at HF ⊢)
        have hbw := HF.out.2.2.1
        have hsg := HF.out.2.2.2
        have ZR1 := ZR.out.below hbw (Nat.le_refl _)
        have cA := (hbw.cell (p := ⟨ba, oa, none⟩) hba).trans cA0
        obtain ⟨k0, k1, k2, k3, kf⟩ := four_cells ZR1
        obtain ⟨m0, m1, m2, m3, mf⟩ := four_cells HF.out.1
        have P1 := Lib.hid (show Ints _ _ w41.drew A5 q.hd.length c5 q.hd from HF.out.2.1.hdr.ints)
        have P2 := Lib.hid (show Ints _ _ w41.drew B5 q.bd.length d5 q.bd from HF.out.2.1.bdy.ints)
        have hvz : Below w41.heap.size w41 (w41.alloc (.cells #[.int .i64 0, .int .i64 0, .int .i64 0, .slice none 0 0, .int .i64 0, .slice none 0 0] 37)) := (Below.refl _ _).alloc (Nat.le_refl _) _
        obtain ⟨n0, n1, n2, n3, nf⟩ := four_cells (HF.out.1.below hvz (Nat.le_refl _))
        have cB := (hvz.cell (p := ⟨ba, oa, none⟩) (Nat.lt_of_lt_of_le hba hbw.size)).trans cA
        have hP3 := HF.out.2.1.hdr.ints.below hvz (Nat.le_refl _)
        have hP4 := HF.out.2.1.bdy.ints.below hvz (Nat.le_refl _)
        have P3 := Lib.hid (show Ints _ _ (w41.alloc (.cells #[.int .i64 0, .int .i64 0, .int .i64 0, .slice none 0 0, .int .i64 0, .slice none 0 0] 37)).drew A5 q.hd.length c5 q.hd from hP3)
        have P4 := Lib.hid (show Ints _ _ (w41.alloc (.cells #[.int .i64 0, .int .i64 0, .int .i64 0, .slice none 0 0, .int .i64 0, .slice none 0 0] 37)).drew B5 q.bd.length d5 q.bd from hP4)
        have hZ6 : Blk (w41.alloc (.cells #[.int .i64 0, .int .i64 0, .int .i64 0, .slice none 0 0, .int .i64 0, .slice none 0 0] 37)) w41.heap.size #[.int .i64 0, .int .i64 0, .int .i64 0, .slice none 0 0, .int .i64 0, .slice none 0 0] 37 := heap_alloc_new _ _
        have hsV : (w41.alloc (.cells #[.int .i64 0, .int .i64 0, .int .i64 0, .slice none 0 0, .int .i64 0, .slice none 0 0] 37)).heap.size = w41.heap.size + 1 := by simp
        have HVZ := Lib.hid hvz
        have HZ6 := Lib.hid hZ6
        have HSV := Lib.hid hsV
        have hyv := (Po.peel_valid HPL.out).1
        generalize hy : peelF a0 q = y at *
        have HY := Lib.hid hy
        have HYV := Lib.hid hyv
        clear hy hyv hZ6 hsV hvz hP3 hP4 ZR1
        go_wp2
        go_region_law (first
          | (go_simp; go_at_call 18; with_reducible refine (peelY _ _ _ _ _ _ _ _ a0 q y _ P1.out P2.out HPL.out HY.out).mono ?_; intro e w50 hpp; refine pld_out hpp ?_; intro A6 c6 B6 d6 g7 g8 he; subst he; intro hlie7 hg7 hg8 hb7; clear hpp
             have HG : Hid (MidL w41 (w50.alloc (.cells #[.int .i64 y.kind, .int .i64 y.next, .int .i64 y.pk.el, .slice A6 y.pk.hd.length c6, .int .i64 y.pk.tag, .slice B6 y.pk.bd.length d6] 37)) w50.heap.size y A6 c6 B6 d6 g7 g8) := midl_new hlie7 hb7)
          | (go_simp; go_at_call 18; with_reducible refine (peelY _ _ _ _ _ _ _ _ a0 q y _ P3.out P4.out HPL.out HY.out).mono ?_; intro e w50 hpp; refine pld_out hpp ?_; intro A6 c6 B6 d6 g7 g8 he; subst he; intro hlie7 hg7 hg8 hb7; clear hpp
             have hzz7 := mid_blk HZ6.out hb7
             refine six_out hzz7 ?_; intro z0 z1 z2 z3 z4 z5 zf
             have HG : Hid (MidL w41 ((((((w50.setCell ⟨w41.heap.size, 0, none⟩ (.int .i64 y.kind)).setCell ⟨w41.heap.size, 1, none⟩ (.int .i64 y.next)).setCell ⟨w41.heap.size, 2, none⟩ (.int .i64 y.pk.el)).setCell ⟨w41.heap.size, 3, none⟩ (.slice A6 y.pk.hd.length c6)).setCell ⟨w41.heap.size, 4, none⟩ (.int .i64 y.pk.tag)).setCell ⟨w41.heap.size, 5, none⟩ (.slice B6 y.pk.bd.length d6)) w41.heap.size y A6 c6 B6 d6 g7 g8) := midl_set HVZ.out hlie7 hb7 hzz7 (Nat.le_refl _) (by have := HSV.out; omega) hg7 hg8)
          | (trace_state; fail))
        all_goals
          first
            | (have hmk : Hid (MidL w41 (w50.alloc (.cells #[.int .i64 y.kind, .int .i64 y.next, .int .i64 y.pk.el, .slice A6 y.pk.hd.length c6, .int .i64 y.pk.tag, .slice B6 y.pk.bd.length d6] 37)) (w50.heap.size) y A6 c6 B6 d6 g7 g8) := by with_reducible exact HG
               clear hmk; generalize (w50.alloc (.cells #[.int .i64 y.kind, .int .i64 y.next, .int .i64 y.pk.el, .slice A6 y.pk.hd.length c6, .int .i64 y.pk.tag, .slice B6 y.pk.bd.length d6] 37)) = w51 at HG ⊢; generalize hgh : w50.heap.size = gg at HG ⊢)
            | (have hmk : Hid (MidL w41 ((((((w50.setCell ⟨w41.heap.size, 0, none⟩ (.int .i64 y.kind)).setCell ⟨w41.heap.size, 1, none⟩ (.int .i64 y.next)).setCell ⟨w41.heap.size, 2, none⟩ (.int .i64 y.pk.el)).setCell ⟨w41.heap.size, 3, none⟩ (.slice A6 y.pk.hd.length c6)).setCell ⟨w41.heap.size, 4, none⟩ (.int .i64 y.pk.tag)).setCell ⟨w41.heap.size, 5, none⟩ (.slice B6 y.pk.bd.length d6)) (w41.heap.size) y A6 c6 B6 d6 g7 g8) := by with_reducible exact HG
               clear hmk; generalize ((((((w50.setCell ⟨w41.heap.size, 0, none⟩ (.int .i64 y.kind)).setCell ⟨w41.heap.size, 1, none⟩ (.int .i64 y.next)).setCell ⟨w41.heap.size, 2, none⟩ (.int .i64 y.pk.el)).setCell ⟨w41.heap.size, 3, none⟩ (.slice A6 y.pk.hd.length c6)).setCell ⟨w41.heap.size, 4, none⟩ (.int .i64 y.pk.tag)).setCell ⟨w41.heap.size, 5, none⟩ (.slice B6 y.pk.bd.length d6)) = w51 at HG ⊢; generalize hgh : w41.heap.size = gg at HG ⊢)
          have hbx := HG.out.2.2
          obtain ⟨x0, x1, x2, x3, x4, x5, xf⟩ := six_cells HG.out.1
          have Q1 := Lib.hid HG.out.2.1.hdr.ints
          have Q2 := Lib.hid HG.out.2.1.bdy.ints
          have HBX := Lib.hid (hR.out.trans ((hbw.trans (hbx.mono hbw.size)).mono hR.out.size))
          clear hbx k0 k1 k2 k3 kf m0 m1 m2 m3 mf n0 n1 n2 n3 nf cA cB HG HF P1 P2 P3 P4 HVZ HZ6 HSV
          go_wp2_with fail
          ((with_reducible refine (validY _ _ _ _ _ _ _ _ y.pk _ Q1.out Q2.out HYV.out).mono ?_); rintro e w60 ⟨rfl, hb60⟩)
          have HN : Hid (Below w7.heap.size w7 w60) := HBX.out.trans (hb60.mono HBX.out.size)
          clear hb60 x0 x1 x2 x3 x4 x5 xf Q1 Q2 HBX
          go_wp2
          go_roundw
          case rel => exact ⟨k + 1, by omega, by go_num, HN.out⟩
          case measure => simp [intOf]; omega
    · obtain rfl : k = 3 := by omega
      have hd9 : ((p.hd.length : Int) == 9) = true := by rw [HP9.out.1]; rfl
      obtain ⟨k0, k1, k2, k3, kf⟩ := four_cells ZR.out
      clear ZR
      go_wp2
      go_ret
      exact ⟨rfl, BR.out⟩

end Law5s
end Go.Proofs.Ytdejnbbfdbafnaa
