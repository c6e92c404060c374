/-
  The law of chapter 5 on the size of packets, by the contracts of the functions that they call: it returns true and writes nothing that was there.
-/
import Derived.Test.YtljfhddgifacnaaSp5b
import Derived.Test.YtljfhddgifacnaaIm5e
import Derived.Test.YtljfhddgifacnaaDr5
import Derived.Test.YtljfhddgifacnaaHlp5
import Derived.Test.YtljfhddgifacnaaPo2
import Derived.Test.YtljfhddgifacnaaSec
import Derived.Deep.RegionLaw
import Derived.Deep.RegionHeld3
import Derived.Deep.QuietTactic
import Derived.Deep.Cut
import Derived.BigQuiet
namespace Go.Proofs.Ytljfhddgifacnaa
open Go.RowKit
namespace Law5s
open Gm Mm Tm Lm Pm Po Pq Il Rd Hlp5 LawB Sec
open Sp5 (pathOk pathF)

theorem pubL_ok (s : Int) {k : Nat} (h1 : 1 ≤ k) (h3 : k ≤ 3) : pubsOk (pubL s k) = true := by
  unfold pubsOk
  have ha : (pubL s k).all inG = true := by
    rw [List.all_eq_true]
    intro x hx
    unfold pubL at hx
    obtain ⟨y, hy, rfl⟩ := List.mem_map.1 hx
    exact mulG_pos (secL_in s k y hy) (by decide)
  rw [ha, pubL_len]
  simp
  omega
theorem way_ok {x r : Int} {ps ns ls : List Int} (s : Int) (h : makeOk x ps ns r ls = true) : makeOk x (pubL s ns.length) ns r ls = true ∧ 1 ≤ ns.length ∧ ns.length ≤ 3 := by
  obtain ⟨q1, q2, q3, q4, q5, q6⟩ := makeOk_iff.1 h
  have hl : 1 ≤ ns.length ∧ ns.length ≤ 3 := by
    unfold pubsOk at q3
    simp at q3
    omega
  exact ⟨makeOk_iff.2 ⟨q1, q2, pubL_ok s hl.1 hl.2, (pubL_len s ns.length).symm, q5, q6⟩, hl⟩

theorem take_sec (s : Int) {k : Nat} (h : k ≤ 3) : (secL s 3).take k = secL s k := by
  unfold secL
  rw [← List.map_take, List.take_range, Nat.min_eq_left h]
theorem take_pub (s : Int) {k : Nat} (h : k ≤ 3) : (pubL s 3).take k = pubL s k := by
  unfold pubL
  rw [← List.map_take, take_sec s h]
theorem size_ok {x r : Int} {ps ns ls : List Int} (s : Int) (h : makeOk x ps ns r ls = true) {k : Nat} (hk : k < 3) :
    makeOk x ((pubL s 3).take (k + 1)) (([1, 2, 3] : List Int).take (k + 1)) r ls = true ∧
    peelOk ((secL s 3).getD 0 0) (makeF x ((pubL s 3).take (k + 1)) (([1, 2, 3] : List Int).take (k + 1)) r ls) = true := by
  obtain ⟨q1, q2, q3, q4, q5, q6⟩ := makeOk_iff.1 h
  have hm : makeOk x ((pubL s 3).take (k + 1)) (([1, 2, 3] : List Int).take (k + 1)) r ls = true := by
    rw [take_pub s (by omega)]
    refine makeOk_iff.2 ⟨q1, q2, pubL_ok s (by omega) (by omega), ?_, ?_, q6⟩
    · rw [pubL_len, List.length_take]; simp; omega
    · intro y hy
      have : y ∈ ([1, 2, 3] : List Int) := List.mem_of_mem_take hy
      rw [inName_iff]
      simp at this
      omega
  refine ⟨hm, ?_⟩
  rw [makeF_yes hm]
  have hb := packL_ok q1
  have hb6 := packL_len (packOk_iff.1 q1).2
  have he : ∀ i : Int, inG (1 + (s * 29 + i * 101 + 3) % 996) = true := fun i => inG_iff.2 (by omega)
  have h0 : (secL s 3).getD 0 0 = 1 + (s * 29 + ((0 : Nat) : Int) * 101 + 3) % 996 := rfl
  have h3 : pubL s 3 = [mulG (1 + (s * 29 + ((0 : Nat) : Int) * 101 + 3) % 996) 5, mulG (1 + (s * 29 + ((1 : Nat) : Int) * 101 + 3) % 996) 5, mulG (1 + (s * 29 + ((2 : Nat) : Int) * 101 + 3) % 996) 5] := rfl
  rw [h0, h3]
  have g0 := he ((0 : Nat) : Int)
  generalize 1 + (s * 29 + ((0 : Nat) : Int) * 101 + 3) % 996 = e0 at *
  generalize 1 + (s * 29 + ((1 : Nat) : Int) * 101 + 3) % 996 = e1 at *
  generalize 1 + (s * 29 + ((2 : Nat) : Int) * 101 + 3) % 996 = e2 at *
  obtain rfl | rfl | rfl : k = 0 ∨ k = 1 ∨ k = 2 := by omega
  · exact (step_last (pre := []) (names := [1]) q2 g0 (by simp) rfl q6 hb hb6).1
  · exact (step_next (pre := []) («as» := []) (a2 := e1) (names := [1, 2]) q2 g0 (by simp) rfl (by decide) hb hb6).1
  · exact (step_next (pre := []) («as» := [e2]) (a2 := e1) (names := [1, 2, 3]) q2 g0 (by simp) rfl (by decide) hb hb6).1
theorem lies_ne {w : World} {b1 b2 g : Nat} {A B : Option Addr} {c d : Nat} {p : Pkt} (h : Lies w b1 b2 A c B d p) (h1 : g ≠ b1) (h2 : g ≠ b2) (w' : World) (hs : w.heap.size ≤ w'.heap.size) (hk : ∀ i, i ≠ g → w'.heap[i]? = w.heap[i]?) : Lies w' b1 b2 A c B d p :=
  ⟨⟨h.1.1.keep hs fun b hb hb2 _ => hk b (by omega), fun b off hn e j hj => by
      obtain ⟨b', off', e', hb, hb2, _⟩ := h.1.1.2.2.2 hn
      rw [e] at e'
      cases e'
      have := h.1.2 b off hn e j hj
      simpa [World.frozen?, hk b (by omega)] using this⟩, ⟨h.2.1.1.keep hs fun b hb hb2 _ => hk b (by omega), fun b off hn e j hj => by
      obtain ⟨b', off', e', hb, hb2, _⟩ := h.2.1.1.2.2.2 hn
      rw [e] at e'
      cases e'
      have := h.2.1.2 b off hn e j hj
      simpa [World.frozen?, hk b (by omega)] using this⟩, h.2.2⟩
/-- A packet stored in a block of its own. -/
def MidP (w1 w' : World) (g : Nat) (q : Pkt) (A : Option Addr) (c : Nat) (B : Option Addr) (d b1 b2 : Nat) : Prop :=
  Blk w' g #[.int .i64 q.el, .slice A q.hd.length c, .int .i64 q.tag, .slice B q.bd.length d] 39 ∧ Lies w' b1 b2 A c B d q ∧ Below w1.heap.size w1 w' ∧ w1.heap.size ≤ g
theorem mid_new {w1 V w' : World} {q : Pkt} {A B : Option Addr} {c d b1 b2 : Nat} (hv : Below w1.heap.size w1 V) (hl : Lies w' b1 b2 A c B d q) (hb : Below V.drew.heap.size V.drew w') :
    MidP w1 (w'.alloc (.cells #[.int .i64 q.el, .slice A q.hd.length c, .int .i64 q.tag, .slice B q.bd.length d] 39)) w'.heap.size q A c B d b1 b2 := by
  have hb' : Below V.heap.size V w' := below_drew hb
  have h1 := hv.trans (hb'.mono hv.size)
  have h2 : Below w'.heap.size w' (w'.alloc (.cells #[.int .i64 q.el, .slice A q.hd.length c, .int .i64 q.tag, .slice B q.bd.length d] 39)) := (Below.refl _ _).alloc (Nat.le_refl _) _
  exact ⟨heap_alloc_new _ _, hl.below h2 (Nat.le_refl _), h1.trans (h2.mono h1.size), h1.size⟩
theorem mid_blk {V w' : World} {g : Nat} {cs : Array Value} {t : TypeId} (hz : Blk V g cs t) (hb : Below V.drew.heap.size V.drew w') : Blk w' g cs t := hz.below (show Below V.heap.size V w' from below_drew hb) (Nat.le_refl _)
theorem mid_set {w1 V w' : World} {q : Pkt} {A B : Option Addr} {c d b1 b2 g : Nat} {u0 u1 u2 u3 : Value} (hv : Below w1.heap.size w1 V) (hl : Lies w' b1 b2 A c B d q) (hb : Below V.drew.heap.size V.drew w')
    (hz : Blk w' g #[u0, u1, u2, u3] 39) (hg : w1.heap.size ≤ g) (hg2 : g < V.heap.size) (h1 : V.drew.heap.size ≤ b1) (h2 : V.drew.heap.size ≤ b2) :
    MidP w1 ((((w'.setCell ⟨g, 0, none⟩ (.int .i64 q.el)).setCell ⟨g, 1, none⟩ (.slice A q.hd.length c)).setCell ⟨g, 2, none⟩ (.int .i64 q.tag)).setCell ⟨g, 3, none⟩ (.slice B q.bd.length d)) g q A c B d b1 b2 := by
  have hb' : Below V.heap.size V w' := below_drew hb
  have h1' : V.heap.size ≤ b1 := h1
  have h2' : V.heap.size ≤ b2 := h2
  have h3 := hv.trans (hb'.mono hv.size)
  obtain ⟨s1, s2, s3⟩ := set4 (v0 := .int .i64 q.el) (v1 := .slice A q.hd.length c) (v2 := .int .i64 q.tag) (v3 := .slice B q.bd.length d) hz
  have hfar : ∀ i, i ≠ g → ((((w'.setCell ⟨g, 0, none⟩ (.int .i64 q.el)).setCell ⟨g, 1, none⟩ (.slice A q.hd.length c)).setCell ⟨g, 2, none⟩ (.int .i64 q.tag)).setCell ⟨g, 3, none⟩ (.slice B q.bd.length d)).heap[i]? = w'.heap[i]? := fun i hi => (Below.heap_setCell _ _ _ _ hi).trans ((Below.heap_setCell _ _ _ _ hi).trans ((Below.heap_setCell _ _ _ _ hi).trans (Below.heap_setCell _ _ _ _ hi)))
  have n1 : g ≠ b1 := Nat.ne_of_lt (Nat.lt_of_lt_of_le hg2 h1')
  have n2 : g ≠ b2 := Nat.ne_of_lt (Nat.lt_of_lt_of_le hg2 h2')
  clear h1 h2 h1' h2' hz hb hb' hv
  generalize ((((w'.setCell ⟨g, 0, none⟩ (.int .i64 q.el)).setCell ⟨g, 1, none⟩ (.slice A q.hd.length c)).setCell ⟨g, 2, none⟩ (.int .i64 q.tag)).setCell ⟨g, 3, none⟩ (.slice B q.bd.length d)) = W at s1 s2 s3 hfar ⊢
  exact ⟨s1, lies_ne hl n1 n2 W (Nat.le_of_eq s2.symm) hfar, h3.trans (s3 _ hg), hg⟩
theorem four_out {w : World} {b : Nat} {v0 v1 v2 v3 : Value} {t : TypeId} (h : Blk w b #[v0, v1, v2, v3] t) {C : Prop} (k : w.cell? ⟨b, 0, none⟩ = some v0 → w.cell? ⟨b, 1, none⟩ = some v1 → w.cell? ⟨b, 2, none⟩ = some v2 → w.cell? ⟨b, 3, none⟩ = some v3 → (∀ j, w.frozen? ⟨b, j, none⟩ = false) → C) : C := by
  obtain ⟨h0, h1, h2, h3, hf⟩ := four_cells h
  exact k h0 h1 h2 h3 hf
theorem pkt_out {q : Pkt} {ok : Bool} {w w' : World} {e : Ending} (h : PktPost q ok w e w') {C : Prop} (k : ∀ A c B d b1 b2, e = .returned (.tuple #[.agg #[.int .i64 q.el, .slice A q.hd.length c, .int .i64 q.tag, .slice B q.bd.length d], .bool ok]) → Lies w' b1 b2 A c B d q → w.heap.size ≤ b1 → w.heap.size ≤ b2 → Below w.heap.size w w' → C) : C := by
  obtain ⟨A, c, B, d, b1, b2, he, h1, h2, h3, h4⟩ := h
  exact k A c B d b1 b2 he h1 h2 h3 h4
theorem pld_out {y : Pld} {ok : Bool} {w w' : World} {e : Ending} (h : PldPost y ok w e w') {C : Prop} (k : ∀ A c B d b1 b2, e = .returned (.tuple #[.agg #[.int .i64 y.kind, .int .i64 y.next, .int .i64 y.pk.el, .slice A y.pk.hd.length c, .int .i64 y.pk.tag, .slice B y.pk.bd.length d], .bool ok]) → Lies w' b1 b2 A c B d y.pk → w.heap.size ≤ b1 → w.heap.size ≤ b2 → Below w.heap.size w w' → C) : C := by
  obtain ⟨A, c, B, d, b1, b2, he, h1, h2, h3, h4⟩ := h
  exact k A c B d b1 b2 he h1 h2 h3 h4
theorem ints_lit3 (w : World) (x y z : Int) : Ints w.heap.size (w.heap.size + 1) (w.alloc (.cells #[.int .i64 x, .int .i64 y, .int .i64 z] 3)) (some ⟨w.heap.size, 0, none⟩) 3 3 [x, y, z] := by
  have hh : (w.alloc (.cells #[.int .i64 x, .int .i64 y, .int .i64 z] 3)).heap[w.heap.size]? = some (.cells #[.int .i64 x, .int .i64 y, .int .i64 z] 3 (0, 0)) := heap_alloc_new _ _
  refine ⟨rfl, Nat.le_refl _, by unfold maxLen; omega, fun _ => ⟨_, 0, rfl, Nat.le_refl _, by omega, by simp, fun j hj => ?_⟩⟩
  rw [Nat.zero_add, cell_of_row _ _ j _ _ _ hh]
  obtain rfl | rfl | rfl : j = 0 ∨ j = 1 ∨ j = 2 := by omega
  all_goals rfl
theorem ints_lit3g (w : World) (x y z : Int) {g : Nat} (hg : w.heap.size = g) : Ints g (g + 1) (w.alloc (.cells #[.int .i64 x, .int .i64 y, .int .i64 z] 3)) (some ⟨g, 0, none⟩) 3 3 [x, y, z] := by
  subst hg
  exact ints_lit3 w x y z

/-- What was peeled, stored in a block of its own. -/
def MidL (w1 w' : World) (g : Nat) (y : Pld) (A : Option Addr) (c : Nat) (B : Option Addr) (d b1 b2 : Nat) : Prop :=
  Blk w' g #[.int .i64 y.kind, .int .i64 y.next, .int .i64 y.pk.el, .slice A y.pk.hd.length c, .int .i64 y.pk.tag, .slice B y.pk.bd.length d] 43 ∧ Lies w' b1 b2 A c B d y.pk ∧ Below w1.heap.size w1 w'
theorem midl_new {V w' : World} {y : Pld} {A B : Option Addr} {c d b1 b2 : Nat} (hl : Lies w' b1 b2 A c B d y.pk) (hb : Below V.drew.heap.size V.drew w') :
    MidL V (w'.alloc (.cells #[.int .i64 y.kind, .int .i64 y.next, .int .i64 y.pk.el, .slice A y.pk.hd.length c, .int .i64 y.pk.tag, .slice B y.pk.bd.length d] 43)) w'.heap.size y A c B d b1 b2 := by
  have hb' : Below V.heap.size V w' := below_drew hb
  have h2 : Below w'.heap.size w' (w'.alloc (.cells #[.int .i64 y.kind, .int .i64 y.next, .int .i64 y.pk.el, .slice A y.pk.hd.length c, .int .i64 y.pk.tag, .slice B y.pk.bd.length d] 43)) := (Below.refl _ _).alloc (Nat.le_refl _) _
  exact ⟨heap_alloc_new _ _, hl.below h2 (Nat.le_refl _), hb'.trans (h2.mono hb'.size)⟩
theorem set6s {w : World} {g : Nat} {u0 u1 u2 u3 u4 u5 v0 v1 v2 v3 v4 v5 : Value} {t : TypeId} (h : w.heap[g]? = some (.cells #[u0, u1, u2, u3, u4, u5] t (0, 0))) :
    ((((((w.setCell ⟨g, 0, none⟩ v0).setCell ⟨g, 1, none⟩ v1).setCell ⟨g, 2, none⟩ v2).setCell ⟨g, 3, none⟩ v3).setCell ⟨g, 4, none⟩ v4).setCell ⟨g, 5, none⟩ v5).heap[g]? = some (.cells #[v0, v1, v2, v3, v4, v5] t (0, 0)) ∧
    ((((((w.setCell ⟨g, 0, none⟩ v0).setCell ⟨g, 1, none⟩ v1).setCell ⟨g, 2, none⟩ v2).setCell ⟨g, 3, none⟩ v3).setCell ⟨g, 4, none⟩ v4).setCell ⟨g, 5, none⟩ v5).heap.size = w.heap.size ∧
    ∀ B, B ≤ g → Below B w ((((((w.setCell ⟨g, 0, none⟩ v0).setCell ⟨g, 1, none⟩ v1).setCell ⟨g, 2, none⟩ v2).setCell ⟨g, 3, none⟩ v3).setCell ⟨g, 4, none⟩ v4).setCell ⟨g, 5, none⟩ v5) := by
  refine ⟨?_, by simp [World.setCell], fun B hB => ((((((Below.refl B w).setCell hB _).setCell hB _).setCell hB _).setCell hB _).setCell hB _).setCell hB _⟩
  simp [World.setCell, Array.getElem?_modify, h]
theorem midl_set {w1 V w' : World} {y : Pld} {A B : Option Addr} {c d b1 b2 g : Nat} {u0 u1 u2 u3 u4 u5 : Value} (hv : Below w1.heap.size w1 V) (hl : Lies w' b1 b2 A c B d y.pk) (hb : Below V.drew.heap.size V.drew w')
    (hz : Blk w' g #[u0, u1, u2, u3, u4, u5] 43) (hg : w1.heap.size ≤ g) (hg2 : g < V.heap.size) (h1 : V.drew.heap.size ≤ b1) (h2 : V.drew.heap.size ≤ b2) :
    MidL w1 ((((((w'.setCell ⟨g, 0, none⟩ (.int .i64 y.kind)).setCell ⟨g, 1, none⟩ (.int .i64 y.next)).setCell ⟨g, 2, none⟩ (.int .i64 y.pk.el)).setCell ⟨g, 3, none⟩ (.slice A y.pk.hd.length c)).setCell ⟨g, 4, none⟩ (.int .i64 y.pk.tag)).setCell ⟨g, 5, none⟩ (.slice B y.pk.bd.length d)) g y A c B d b1 b2 := by
  have hb' : Below V.heap.size V w' := below_drew hb
  have h1' : V.heap.size ≤ b1 := h1
  have h2' : V.heap.size ≤ b2 := h2
  have h3 := hv.trans (hb'.mono hv.size)
  obtain ⟨s1, s2, s3⟩ := set6s (v0 := .int .i64 y.kind) (v1 := .int .i64 y.next) (v2 := .int .i64 y.pk.el) (v3 := .slice A y.pk.hd.length c) (v4 := .int .i64 y.pk.tag) (v5 := .slice B y.pk.bd.length d) hz
  have hfar : ∀ i, i ≠ g → ((((((w'.setCell ⟨g, 0, none⟩ (.int .i64 y.kind)).setCell ⟨g, 1, none⟩ (.int .i64 y.next)).setCell ⟨g, 2, none⟩ (.int .i64 y.pk.el)).setCell ⟨g, 3, none⟩ (.slice A y.pk.hd.length c)).setCell ⟨g, 4, none⟩ (.int .i64 y.pk.tag)).setCell ⟨g, 5, none⟩ (.slice B y.pk.bd.length d)).heap[i]? = w'.heap[i]? := fun i hi => (Below.heap_setCell _ _ _ _ hi).trans ((Below.heap_setCell _ _ _ _ hi).trans ((Below.heap_setCell _ _ _ _ hi).trans ((Below.heap_setCell _ _ _ _ hi).trans ((Below.heap_setCell _ _ _ _ hi).trans (Below.heap_setCell _ _ _ _ hi)))))
  have n1 : g ≠ b1 := Nat.ne_of_lt (Nat.lt_of_lt_of_le hg2 h1')
  have n2 : g ≠ b2 := Nat.ne_of_lt (Nat.lt_of_lt_of_le hg2 h2')
  clear h1 h2 h1' h2' hz hb hb' hv
  generalize ((((((w'.setCell ⟨g, 0, none⟩ (.int .i64 y.kind)).setCell ⟨g, 1, none⟩ (.int .i64 y.next)).setCell ⟨g, 2, none⟩ (.int .i64 y.pk.el)).setCell ⟨g, 3, none⟩ (.slice A y.pk.hd.length c)).setCell ⟨g, 4, none⟩ (.int .i64 y.pk.tag)).setCell ⟨g, 5, none⟩ (.slice B y.pk.bd.length d)) = W at s1 s2 s3 hfar ⊢
  exact ⟨s1, lies_ne hl n1 n2 W (Nat.le_of_eq s2.symm) hfar, h3.trans (s3 _ hg)⟩
theorem six_out {w : World} {b : Nat} {v0 v1 v2 v3 v4 v5 : Value} {t : TypeId} (h : Blk w b #[v0, v1, v2, v3, v4, v5] t) {C : Prop} (k : w.cell? ⟨b, 0, none⟩ = some v0 → w.cell? ⟨b, 1, none⟩ = some v1 → w.cell? ⟨b, 2, none⟩ = some v2 → w.cell? ⟨b, 3, none⟩ = some v3 → w.cell? ⟨b, 4, none⟩ = some v4 → w.cell? ⟨b, 5, none⟩ = some v5 → (∀ j, w.frozen? ⟨b, j, none⟩ = false) → C) : C := by
  obtain ⟨h0, h1, h2, h3, h4, h5, hf⟩ := six_cells h
  exact k h0 h1 h2 h3 h4 h5 hf

end Law5s
end Go.Proofs.Ytljfhddgifacnaa
