/-
  Contracts of the program's chapter 11: copies of slices, pools and mixes.
-/
import Derived.Test.YtnjcpbkpcmemeacIm6a
import Derived.Test.YtnjcpbkpcmemeacSp6c
import Derived.Deep.RegionLaw
import Derived.Lib.SliceRun
import Derived.Deep.RegionHeld3
namespace Go.Proofs.Ytnjcpbkpcmemeac
open Go.RowKit
namespace Im6
open Il Gm Mm Tm Lm Pm Pq Hlp5 Sl Mm6 Im2 Im5
open Sp6 (three_cells MixB mix_zero lacksTo newM mix_no)

/-- A clone of a slice of ints. -/
def CloneI (xs : List Int) (w : World) (e : Ending) (w' : World) : Prop :=
  ∃ A c g, e = .returned (.slice A xs.length c) ∧ Dest 3 1 g w' (.slice A xs.length c) xs.length (xs.map (Value.int .i64)) ∧ (∀ k, g = some k → w.heap.size ≤ k) ∧ Below w.heap.size w w'
theorem CloneI.own {xs : List Int} {w : World} {e : Ending} {w' : World} (h : CloneI xs w e w') : ∃ A c b, e = .returned (.slice A xs.length c) ∧ Il.Own b (b + 1) w' A xs.length c xs ∧ (0 < xs.length → w.heap.size ≤ b ∧ b < w'.heap.size) ∧ Below w.heap.size w w' := by
  obtain ⟨A, c, g, rfl, hd, hg, hb⟩ := h
  obtain ⟨A', c', b, e, ho, hk⟩ := dest_ints hd
  simp only [Value.slice.injEq, true_and] at e
  obtain ⟨rfl, rfl⟩ := e
  refine ⟨_, _, b, rfl, ho, fun hn => ?_, hb⟩
  obtain ⟨k, q, hlt⟩ := dest_blk hd hn
  have h1 := hk k q
  have h2 := hg k q
  omega

set_option maxRecDepth 20000 in
theorem cloneI (lo hi : Nat) (A : Option Addr) (c : Nat) (xs : List Int) (w : World) (hx : Ints lo hi w A xs.length c xs) (hn : xs.length ≤ 100000) :
    Calls Try.prog 68 #[.slice A xs.length c] w (CloneI xs w) := by
  cases A with
  | none =>
    have hz : xs.length = 0 := by
      rcases Nat.eq_zero_or_pos xs.length with h | h
      · exact h
      · obtain ⟨b, off, e, _⟩ := hx.2.2.2 h
        cases e
    have hxs : xs = [] := List.eq_nil_of_length_eq_zero hz
    subst hxs
    have HP : Hid (CloneI [] w (.returned (.slice none 0 0)) w) := ⟨none, 0, none, rfl, .inl ⟨rfl, rfl, rfl, none, rfl⟩, (fun k h => by cases h), Below.refl _ _⟩
    clear hx hz hn
    have hnil : ∀ w, (binOp .eql 23 (.slice none 0 c) (.slice none 0 0)).run Try.prog w = .ok (.bool true) w := fun w => Lib.run_eql_slice_nil w _ _ _ _ _ _ _ Try.underlying23
    go_enter Try.func68, Try.ntmps68
    go_wp2
    go_ret
    exact HP.out
  | some ad =>
    have hal : Below w.heap.size w (w.alloc (.cells #[] 3)) := (Below.refl _ _).alloc (Nat.le_refl _) _
    have HD : Hid (Dest 3 1 (some w.heap.size) (w.alloc (.cells #[] 3)) (.slice (some ⟨w.heap.size, 0, none⟩) 0 0) 0 []) := .inr ⟨_, rfl, accV_new w _ _⟩
    have HR := Lib.hid (ints_row (hx.below hal (Nat.le_refl _)))
    have HAL := Lib.hid hal
    clear hx hal
    have hnil : ∀ w, (binOp .eql 23 (.slice (some ad) xs.length c) (.slice none 0 0)).run Try.prog w = .ok (.bool false) w := fun w => Lib.run_eql_slice_nil w _ _ _ _ _ _ _ Try.underlying23
    go_enter Try.func68, Try.ntmps68
    go_wp2_with (at_builtin; refine wpList_appD elInt _ _ _ _ _ HD.out _ _ _ _ _ _ HR.out (ints_one_cell _) (by omega) _ _ rfl rfl rfl rfl ?_; intro g5 v5 w5 hd5 hg5 hgr5; rw [List.nil_append, Nat.zero_add] at hd5)
    obtain ⟨A5, c5, b5, rfl, ho5, hk5⟩ := dest_ints hd5
    have HP : Hid (CloneI xs w (.returned (.slice A5 xs.length c5)) w5) := by
      refine ⟨A5, c5, g5, rfl, hd5, fun k e => ?_, HAL.out.grown hgr5 (by simp) fun k e => by simp at e; omega⟩
      rcases hg5 with q | ⟨k', q, hk⟩
      · rw [q] at e; simp at e; omega
      · rw [q] at e; simp at e hk; omega
    clear hd5 hg5 hgr5 ho5 hk5
    go_wp2
    go_ret
    exact HP.out

/-- A clone of a pool: the packets' slices are the same ones. -/
def CloneS (ss : List Slot) (w : World) (e : Ending) (w' : World) : Prop :=
  (ss = [] ∧ e = .returned (.slice none 0 0) ∧ w = w') ∨ ∃ k c, e = .returned (.slice (some ⟨k, 0, none⟩) ss.length c) ∧ AccV 39 6 k w' (.slice (some ⟨k, 0, none⟩) ss.length c) ss.length (ss.flatMap Slot.cells) ∧ w.heap.size ≤ k ∧ Below w.heap.size w w'
set_option maxRecDepth 20000 in
theorem cloneS (lo hi : Nat) (A : Option Addr) (c : Nat) (ss : List Slot) (w : World) (hx : Row lo hi w A ss.length c 6 (ss.flatMap Slot.cells)) (hn : ss.length ≤ 100000) :
    Calls Try.prog 94 #[.slice A ss.length c] w (CloneS ss w) := by
  cases A with
  | none =>
    have hz : ss.length = 0 := by
      rcases Nat.eq_zero_or_pos ss.length with h | h
      · exact h
      · obtain ⟨b, off, e, _⟩ := hx.2.2.2 h
        cases e
    have hxs : ss = [] := List.eq_nil_of_length_eq_zero hz
    subst hxs
    have HP : Hid (CloneS [] w (.returned (.slice none 0 0)) w) := .inl ⟨rfl, rfl, rfl⟩
    clear hx hz hn
    have hnil : ∀ w, (binOp .eql 24 (.slice none 0 c) (.slice none 0 0)).run Try.prog w = .ok (.bool true) w := fun w => Lib.run_eql_slice_nil w _ _ _ _ _ _ _ Try.underlying24
    go_enter Try.func94, Try.ntmps94
    go_wp2
    go_ret
    exact HP.out
  | some ad =>
    have hal : Below w.heap.size w (w.alloc (.cells #[] 39)) := (Below.refl _ _).alloc (Nat.le_refl _) _
    have HD : Hid (Dest 39 6 (some w.heap.size) (w.alloc (.cells #[] 39)) (.slice (some ⟨w.heap.size, 0, none⟩) 0 0) 0 []) := .inr ⟨_, rfl, accV_new w _ _⟩
    have HR := Lib.hid (hx.below hal (Nat.le_refl _))
    have HAL := Lib.hid hal
    clear hx hal
    have hnil : ∀ w, (binOp .eql 24 (.slice (some ad) ss.length c) (.slice none 0 0)).run Try.prog w = .ok (.bool false) w := fun w => Lib.run_eql_slice_nil w _ _ _ _ _ _ _ Try.underlying24
    go_enter Try.func94, Try.ntmps94
    go_wp2_with (at_builtin; refine wpList_appD elPld _ _ _ _ _ HD.out _ _ _ _ _ _ HR.out (flat_one _) (by omega) _ _ rfl rfl rfl rfl ?_; intro g5 v5 w5 hd5 hg5 hgr5; rw [List.nil_append, Nat.zero_add] at hd5)
    have hb5 : Below w.heap.size w w5 := HAL.out.grown hgr5 (by simp) fun k e => by simp at e; omega
    have HP : Hid (CloneS ss w (.returned v5) w5) := by
      rcases hd5 with ⟨q, _⟩ | ⟨k, rfl, ha⟩
      · rcases hg5 with q2 | ⟨k', q2, hk⟩
        · rw [q] at q2; cases q2
        · rw [q] at q2; cases q2
      · have hk : w.heap.size ≤ k := by
          rcases hg5 with q2 | ⟨k', q2, hk⟩
          · simp at q2; omega
          · simp at q2 hk; omega
        obtain ⟨cap, rfl, hr⟩ := ha.row
        exact .inr ⟨k, cap, rfl, ha, hk, hb5⟩
    clear hd5 hg5 hgr5 hb5
    go_wp2
    go_ret
    exact HP.out

/-- A slot whose two slices lie elsewhere. -/
def Slot.at_ (s : Slot) (A : Option Addr) (c : Nat) (B : Option Addr) (d h g : Nat) : Slot := ⟨s.p, A, c, B, d, h, g⟩
theorem flat_set35 {ss : List Slot} {k : Nat} {s : Slot} (A : Option Addr) (c : Nat) (B : Option Addr) (d h g : Nat) (hx : ss[k]? = some s) :
    (((ss.flatMap Slot.cells).set (k * 6 + 3) (.slice A s.p.pk.hd.length c)).set (k * 6 + 5) (.slice B s.p.pk.bd.length d)) = (ss.set k ⟨s.p, A, c, B, d, h, g⟩).flatMap Slot.cells := by
  induction ss generalizing k with
  | nil => simp at hx
  | cons y ys ih =>
    cases k with
    | zero =>
      simp only [List.getElem?_cons_zero, Option.some.injEq] at hx
      subst hx
      rw [List.set_cons_zero, List.flatMap_cons, List.flatMap_cons]
      rfl
    | succ k =>
      rw [List.getElem?_cons_succ] at hx
      have h6 : y.cells.length = 6 := rfl
      rw [List.set_cons_succ, List.flatMap_cons, List.flatMap_cons, ← ih hx]
      rw [List.set_append_right _ _ (by rw [h6]; omega), List.set_append_right _ _ (by rw [h6]; omega), h6]
      have q3 : (k + 1) * 6 + 3 - 6 = k * 6 + 3 := by omega
      have q5 : (k + 1) * 6 + 5 - 6 = k * 6 + 5 := by omega
      rw [q3, q5]

/-- What the loop of copyPool has done: the first j packets are copied. -/
def CpRel (lo k n c j : Nat) (w wr : World) (ss : List Slot) : Prop :=
  ∃ ts : List Slot, ts.length = n ∧ ts.map (·.p) = ss.map (·.p) ∧ AccV 39 6 k wr (.slice (some ⟨k, 0, none⟩) n c) n (ts.flatMap Slot.cells) ∧ (∀ i t, ts[i]? = some t → j ≤ i → SlotR 0 lo wr t) ∧
    (∀ i t, ts[i]? = some t → i < j → SlotO wr t) ∧ Foot ([k] :: (ts.take j).map fpS) ∧ Within lo wr.heap.size ([k] :: (ts.take j).map fpS) ∧ Below lo w wr ∧ lo ≤ wr.heap.size
/-- A copy of a pool, which is the caller's own. -/
def CopyD (ps : List Pld) (w : World) (e : Ending) (w' : World) : Prop := ∃ B d, e = .returned (.slice B ps.length d) ∧ PoolD w.heap.size w'.heap.size w' (.slice B ps.length d) ps ∧ Below w.heap.size w w'
theorem cp_step {lo k n c j : Nat} {w wr w4 w5 : World} {ss ts : List Slot} {s : Slot} {A4 A5 : Option Addr} {e4 e5 b4 b5 : Nat} (t1 : ts.length = n) (t2 : ts.map (·.p) = ss.map (·.p)) (t3 : AccV 39 6 k wr (.slice (some ⟨k, 0, none⟩) n c) n (ts.flatMap Slot.cells))
    (t4 : ∀ i t, ts[i]? = some t → j ≤ i → SlotR 0 lo wr t) (t5 : ∀ i t, ts[i]? = some t → i < j → SlotO wr t) (t6 : Foot ([k] :: (ts.take j).map fpS)) (t7 : Within lo wr.heap.size ([k] :: (ts.take j).map fpS)) (t8 : Below lo w wr) (t9 : lo ≤ wr.heap.size)
    (htj : ts[j]? = some s) (o4 : Il.Own b4 (b4 + 1) w4 A4 s.p.pk.hd.length e4 s.p.pk.hd) (r4 : 0 < s.p.pk.hd.length → wr.heap.size ≤ b4 ∧ b4 < w4.heap.size) (hb4 : Below wr.heap.size wr w4)
    (o5 : Il.Own b5 (b5 + 1) w5 A5 s.p.pk.bd.length e5 s.p.pk.bd) (r5 : 0 < s.p.pk.bd.length → w4.heap.size ≤ b5 ∧ b5 < w5.heap.size) (hb5 : Below w4.heap.size w4 w5) :
    CpRel lo k n c (j + 1) w ((w5.setCell ⟨k, j * 6 + 2 + 1, none⟩ (.slice A4 s.p.pk.hd.length e4)).setCell ⟨k, j * 6 + 2 + 3, none⟩ (.slice A5 s.p.pk.bd.length e5)) ss := by
  have hkl := t3.lt
  have hkw := t7 _ List.mem_cons_self k (by simp)
  have hs4 := hb4.size
  have hs5 := hb5.size
  have hb45 := hb4.trans (hb5.mono hb4.size)
  have hjl : j < ts.length := (List.getElem?_eq_some_iff.1 htj).1
  have hfar : ∀ y, y ≠ k → ((w5.setCell ⟨k, j * 6 + 2 + 1, none⟩ (.slice A4 s.p.pk.hd.length e4)).setCell ⟨k, j * 6 + 2 + 3, none⟩ (.slice A5 s.p.pk.bd.length e5)).heap[y]? = w5.heap[y]? := fun y h => (Below.heap_setCell _ _ _ _ h).trans (Below.heap_setCell _ _ _ _ h)
  have hsz : ((w5.setCell ⟨k, j * 6 + 2 + 1, none⟩ (.slice A4 s.p.pk.hd.length e4)).setCell ⟨k, j * 6 + 2 + 3, none⟩ (.slice A5 s.p.pk.bd.length e5)).heap.size = w5.heap.size := by simp [World.setCell]
  have hacc : AccV 39 6 k ((w5.setCell ⟨k, j * 6 + 2 + 1, none⟩ (.slice A4 s.p.pk.hd.length e4)).setCell ⟨k, j * 6 + 2 + 3, none⟩ (.slice A5 s.p.pk.bd.length e5)) (.slice (some ⟨k, 0, none⟩) n c) n ((ts.set j ⟨s.p, A4, e4, A5, e5, b4, b5⟩).flatMap Slot.cells) := by
    have h1 := ((t3.block (hb45.block k hkl)).set (j * 6 + 3) (.slice A4 s.p.pk.hd.length e4)).set (j * 6 + 5) (.slice A5 s.p.pk.bd.length e5)
    rw [flat_set35 A4 e4 A5 e5 b4 b5 htj] at h1
    exact h1
  have hso : SlotO ((w5.setCell ⟨k, j * 6 + 2 + 1, none⟩ (.slice A4 s.p.pk.hd.length e4)).setCell ⟨k, j * 6 + 2 + 3, none⟩ (.slice A5 s.p.pk.bd.length e5)) ⟨s.p, A4, e4, A5, e5, b4, b5⟩ := by
    refine ⟨own_keepC o4 (by omega) fun hn => ?_, own_keepC o5 (by omega) fun hn => hfar b5 ?_⟩
    · have := r4 hn
      exact (hfar b4 (by omega)).trans (hb5.block b4 this.2)
    · have := r5 hn
      omega
  have hfp : ∀ y ∈ fpS ⟨s.p, A4, e4, A5, e5, b4, b5⟩, wr.heap.size ≤ y ∧ y < w5.heap.size := fun y hy => by
    rcases List.mem_append.1 hy with h | h
    · obtain ⟨q1, q2⟩ := mem_fp.1 h
      have := r4 q1
      dsimp only at q2; omega
    · obtain ⟨q1, q2⟩ := mem_fp.1 h
      have := r5 q1
      dsimp only at q2; omega
  have hnd : (fpS ⟨s.p, A4, e4, A5, e5, b4, b5⟩).Nodup := by
    unfold fpS fp
    dsimp only
    by_cases q1 : s.p.pk.hd.length = 0
    · rw [if_pos q1]; split <;> simp
    · by_cases q2 : s.p.pk.bd.length = 0
      · rw [if_pos q2, if_neg q1]; simp
      · rw [if_neg q1, if_neg q2]
        have h1 := r4 (by omega)
        have h2 := r5 (by omega)
        simp; omega
  have htake : (ts.set j ⟨s.p, A4, e4, A5, e5, b4, b5⟩).take (j + 1) = ts.take j ++ [⟨s.p, A4, e4, A5, e5, b4, b5⟩] := by
    rw [List.take_succ_eq_append_getElem (by simpa using hjl), List.getElem_set_self, List.take_set_of_le (Nat.le_refl _)]
  refine ⟨ts.set j ⟨s.p, A4, e4, A5, e5, b4, b5⟩, by rw [List.length_set]; exact t1, ?_, hacc, fun i t ht hi => ?_, fun i t ht hi => ?_, ?_, ?_, ?_, by omega⟩
  · rw [List.map_set, ← t2]
    apply List.ext_getElem?
    intro i
    by_cases hik : i = j
    · subst hik
      rw [List.getElem?_set_self (by simpa using hjl), List.getElem?_map, htj]
      rfl
    · rw [List.getElem?_set_ne (by omega)]
  · rw [List.getElem?_set_ne (by omega)] at ht
    have hsr := t4 i t ht (by omega)
    have hk : ∀ b, 0 ≤ b → b < lo → b < wr.heap.size → ((w5.setCell ⟨k, j * 6 + 2 + 1, none⟩ (.slice A4 s.p.pk.hd.length e4)).setCell ⟨k, j * 6 + 2 + 3, none⟩ (.slice A5 s.p.pk.bd.length e5)).heap[b]? = wr.heap[b]? := fun b _ h2 h3 => (hfar b (by omega)).trans (hb45.block b h3)
    exact hsr.keep (by omega) hk
  · by_cases hij : i = j
    · subst hij
      rw [List.getElem?_set_self (by omega)] at ht
      simp only [Option.some.injEq] at ht
      rw [← ht]; exact hso
    · rw [List.getElem?_set_ne (by omega)] at ht
      have hto := t5 i t ht (by omega)
      refine hto.keepC (by omega) fun x hx => ?_
      have htm : t ∈ ts.take j := by
        have : (ts.take j)[i]? = some t := by rw [List.getElem?_take_of_lt (by omega)]; exact ht
        exact List.mem_of_getElem? this
      have hne : x ≠ k := fun e => (List.pairwise_cons.1 t6.1).1 _ (List.mem_map_of_mem htm) k (by simp) (e ▸ hx)
      exact (hfar x hne).trans (hb45.block x (slot_lt hto x hx))
  · rw [htake, List.map_append, List.map_singleton]
    obtain ⟨f1, f2⟩ := t6
    rw [List.pairwise_cons] at f1
    refine ⟨List.pairwise_cons.2 ⟨fun f hf y q1 q2 => ?_, List.pairwise_append.2 ⟨f1.2, by simp, fun f hf g hg y q1 q2 => ?_⟩⟩, fun f hf => ?_⟩
    · rcases List.mem_append.1 hf with h | h
      · exact f1.1 f h y q1 q2
      · simp only [List.mem_singleton] at h q1
        subst h
        have := hfp y q2
        omega
    · simp only [List.mem_singleton] at hg
      subst hg
      have h1 := (t7 f (List.mem_cons_of_mem _ hf) y q1).2
      have h2 := hfp y q2
      omega
    · rcases List.mem_cons.1 hf with rfl | hf
      · simp
      · rcases List.mem_append.1 hf with h | h
        · exact f2 f (List.mem_cons_of_mem _ h)
        · simp only [List.mem_singleton] at h; subst h; exact hnd
  · rw [htake, List.map_append, List.map_singleton]
    intro f hf y hy
    rcases List.mem_cons.1 hf with rfl | hf
    · have := t7 _ List.mem_cons_self y hy
      omega
    · rcases List.mem_append.1 hf with h | h
      · have := t7 f (List.mem_cons_of_mem _ h) y hy
        omega
      · simp only [List.mem_singleton] at h; subst h
        have := hfp y hy
        omega
  · exact ((t8.trans (hb45.mono t9)).setCell hkw.1 _).setCell hkw.1 _
set_option maxRecDepth 20000 in
set_option maxHeartbeats 4000000 in
theorem copyPool (lo hi : Nat) (A : Option Addr) (n c : Nat) (ps : List Pld) (w : World) (hx : Pool lo hi w A n c ps) (hn : n ≤ 1000) (hh : ∀ p ∈ ps, p.pk.hd.length ≤ 1000 ∧ p.pk.bd.length ≤ 1000) :
    Calls Try.prog 69 #[.slice A n c] w (CopyD ps w) := by
  have hlen := hx.len_
  obtain ⟨ss, rfl, hrow, hsl⟩ := hx.top (Nat.zero_le _)
  rw [List.length_map] at hlen
  subst hlen
  have HROW := Lib.hid hrow
  have HSL := Lib.hid hsl
  have HH := Lib.hid hh
  clear hx hrow hsl hh
  go_enter Try.func69, Try.ntmps69
  go_wp2_with fail
  ((with_reducible refine (cloneS _ _ _ _ ss _ HROW.out (by omega)).mono ?_); rintro e w1 hcl)
  rcases hcl with ⟨rfl, rfl, rfl⟩ | ⟨k, c1, rfl, ha, hk, hb⟩
  · have HP : Hid (CopyD (List.map (fun s : Slot => s.p) []) w (.returned (.slice none 0 0)) w) := ⟨none, 0, rfl, .inl ⟨rfl, none, rfl⟩, Below.refl _ _⟩
    go_wp2
    go_loop [10] (fun i => i = .int .i64 0) (fun _ => 0)
    case atStart => rfl
    case round =>
      obtain rfl := hrel
      go_wp2
      go_ret
      exact HP.out
  have hkl := ha.lt
  have HR0 : Hid (CpRel w.heap.size k ss.length c1 0 w w1 ss) := by
    refine ⟨ss, rfl, rfl, ha, fun i t ht _ => ?_, fun i t _ h => absurd h (by omega), by simp [Foot], fun f hf x hx => ?_, hb, hb.size⟩
    · have := HSL.out t (List.mem_of_getElem? ht)
      exact ⟨this.1.below hb (Nat.le_refl _), this.2.below hb (Nat.le_refl _)⟩
    · simp at hf; subst hf; simp at hx; omega
  clear ha hb hk hkl
  go_wp2
  go_loopw [10] (fun i wr => ∃ j : Nat, j ≤ ss.length ∧ i = .int .i64 j ∧ Hid (CpRel w.heap.size k ss.length c1 j w wr ss)) (fun i _ => ss.length - (intOf i).toNat)
  case atStart => exact ⟨0, Nat.zero_le _, rfl, HR0.out⟩
  case round =>
    obtain ⟨j, hj, rfl, hR⟩ := hrel
    clear HR0
    by_cases hlj : j < ss.length
    · obtain ⟨ts, t1, t2, t3, t4, t5, t6, t7, t8, t9⟩ := hR.out
      clear hR
      have htj : ts[j]? = some (ts[j]'(by omega)) := List.getElem?_eq_getElem (by omega)
      generalize ts[j]'(by omega) = s at htj
      have hsr := t4 j s htj (Nat.le_refl _)
      have hmem : s.p ∈ ss.map (·.p) := by rw [← t2]; exact List.mem_map_of_mem (List.mem_of_getElem? htj)
      obtain ⟨hh1, hh2⟩ := HH.out _ hmem
      obtain ⟨cap, ecap, hrow⟩ := t3.row
      simp only [Value.slice.injEq, true_and] at ecap
      subst ecap
      obtain ⟨⟨c0, c1', c2, c3, c4, c5⟩, f0, f1, f2, f3, f4, f5⟩ := row_cells hrow hlj htj
      rw [Nat.zero_add] at c0 c1' c2 c3 c4 c5 f0 f1 f2 f3 f4 f5
      have hkl := t3.lt
      have I1 : Hid (Ints 0 w.heap.size wr.drew s.A s.p.pk.hd.length s.c s.p.pk.hd) := hsr.1
      have I2 : Hid (Ints 0 w.heap.size wr.drew s.B s.p.pk.bd.length s.d s.p.pk.bd) := hsr.2
      go_wp2
      go_region_law (first | (go_simp; go_at_call 68; refine (cloneI _ _ _ _ s.p.pk.bd _ (I2.out.below hb4 (Nat.le_refl _)) (by omega)).mono ?_; rintro e w5 hcl5; obtain ⟨A5, e5, b5, rfl, o5, r5, hb5⟩ := hcl5.own; have hb45 := hb4.trans (hb5.mono hb4.size); have c3w := (hb45.cell (p := ⟨k, j * 6 + 3, none⟩) hkl).trans c3; have c5x := (hb45.cell (p := ⟨k, j * 6 + 5, none⟩) hkl).trans c5; have f3w := (hb45.frozen (p := ⟨k, j * 6 + 3, none⟩) hkl).trans f3; have f5w := (hb45.frozen (p := ⟨k, j * 6 + 5, none⟩) hkl).trans f5) | (go_simp; go_at_call 68; refine (cloneI _ _ _ _ s.p.pk.hd _ I1.out (by omega)).mono ?_; rintro e w4 hcl4; obtain ⟨A4, e4, b4, rfl, o4, r4, hb4⟩ := hcl4.own; have c5w := (hb4.cell (p := ⟨k, j * 6 + 5, none⟩) hkl).trans c5))
      all_goals
        have HN := Lib.hid (cp_step t1 t2 t3 t4 t5 t6 t7 t8 t9 htj o4 r4 (below_drew hb4) o5 r5 hb5)
        clear c0 c1' c2 c3 c4 c5 f0 f1 f2 f3 f4 f5 c3w c5x f3w f5w hb45 hcl4 hcl5 o4 o5 r4 r5 hb4 hb5 t1 t2 t3 t4 t5 t6 t7 t8 t9 htj hsr hrow I1 I2
        go_wp2
        go_roundw
        case rel => exact ⟨j + 1, by omega, by go_num, HN.out⟩
        case measure => simp [intOf]; omega
    · obtain rfl : j = ss.length := by omega
      obtain ⟨ts, t1, t2, t3, t4, t5, t6, t7, t8, t9⟩ := hR.out
      have HP : Hid (CopyD (ss.map (·.p)) w (.returned (.slice (some ⟨k, 0, none⟩) ss.length c1)) wr) := by
        rw [List.take_of_length_le (by omega)] at t6 t7
        refine ⟨some ⟨k, 0, none⟩, c1, by rw [List.length_map], .inr ⟨k, ts, ?_, t2, fun s hs => ?_, t6, t7⟩, t8⟩
        · rw [List.length_map]; exact t3
        · obtain ⟨i, hi, e⟩ := List.getElem_of_mem hs
          exact t5 i s (by rw [List.getElem?_eq_getElem hi, e]) (by omega)
      clear hR hlj t1 t2 t3 t4 t5 t6 t7 t8 t9
      go_wp2
      go_ret
      exact HP.out

set_option maxRecDepth 20000 in
set_option maxHeartbeats 2000000 in
theorem copyMix (x : Mx) (A B : Option Addr) (c d lo hi : Nat) (w : World) (hx : MixR lo hi w A x.seen.length c B x.pool.length d x) (hn : x.seen.length ≤ 1000) (hm : x.pool.length ≤ 1000) (hh : ∀ p ∈ x.pool, p.pk.hd.length ≤ 1000 ∧ p.pk.bd.length ≤ 1000) :
    Calls Try.prog 36 #[.agg #[.int .i64 x.sec, .slice A x.seen.length c, .slice B x.pool.length d]] w (Sp6.MixC x w) := by
  obtain ⟨zb0, zb1, hs2, hb2⟩ := Sp6.two_blocks w #[.int .i64 x.sec, .slice A x.seen.length c, .slice B x.pool.length d] #[.int .i64 0, .slice none 0 0, .slice none 0 0] 26 26
  have HX := Lib.hid (hx.below hb2 (Nat.le_refl _))
  have Z0 := Lib.hid zb0
  have Z1 := Lib.hid zb1
  have HB := Lib.hid hb2
  have hsz : w.heap.size + 1 < ((w.alloc (.cells #[.int .i64 x.sec, .slice A x.seen.length c, .slice B x.pool.length d] 26)).alloc (.cells #[.int .i64 0, .slice none 0 0, .slice none 0 0] 26)).heap.size := by rw [hs2]; omega
  have HH := Lib.hid hh
  clear hx zb0 zb1 hs2 hb2 hh
  go_enter Try.func36, Try.ntmps36
  go_wp2_with fail
  generalize ((w.alloc (.cells #[.int .i64 x.sec, .slice A x.seen.length c, .slice B x.pool.length d] 26)).alloc (.cells #[.int .i64 0, .slice none 0 0, .slice none 0 0] 26)) = w0 at *
  have SA : Hid (w0.drew.cell? ⟨w.heap.size, 0, none⟩ = some (.int .i64 x.sec) ∧ w0.drew.cell? ⟨w.heap.size, 1, none⟩ = some (.slice A x.seen.length c) ∧ w0.drew.cell? ⟨w.heap.size, 2, none⟩ = some (.slice B x.pool.length d)) := ⟨(three_cells Z0.out).1, (three_cells Z0.out).2.1, (three_cells Z0.out).2.2.1⟩
  have HNE : Hid (w.heap.size ≠ w.heap.size + 1) := by show _ ≠ _; omega
  have I1 : Hid (Ints lo hi w0.drew A x.seen.length c x.seen) := HX.out.1
  go_region_held3 (fun w' => w'.cell? ⟨w.heap.size, 0, none⟩ = some (.int .i64 x.sec) ∧ w'.cell? ⟨w.heap.size, 1, none⟩ = some (.slice A x.seen.length c) ∧ w'.cell? ⟨w.heap.size, 2, none⟩ = some (.slice B x.pool.length d))
    (first | with_reducible exact SA.out | with_reducible exact kB | with_reducible exact kC | with_reducible exact ⟨(Sp6.far3 HNE.out _ _ _).trans kC.1, (Sp6.far3 HNE.out _ _ _).trans kC.2.1, (Sp6.far3 HNE.out _ _ _).trans kC.2.2⟩ | fail)
    (first
    | (go_at_call 68; refine (cloneI _ _ _ _ x.seen _ I1.out (by omega)).mono ?_; rintro e w5 ⟨A5, c5, g5, rfl, hd5, hg5, hb50⟩; have hb5 : Below w0.heap.size w0 w5 := below_drew hb50; have h5 := Z0.out.below hb5 (Nat.le_refl _); have kB : (w5.cell? ⟨w.heap.size, 0, none⟩ = some (.int .i64 x.sec) ∧ w5.cell? ⟨w.heap.size, 1, none⟩ = some (.slice A x.seen.length c) ∧ w5.cell? ⟨w.heap.size, 2, none⟩ = some (.slice B x.pool.length d)) := ⟨(three_cells h5).1, (three_cells h5).2.1, (three_cells h5).2.2.1⟩)
    | (go_at_call 69; refine (copyPool _ _ _ _ _ x.pool _ (HX.out.2.below hb5 (Nat.le_refl _)) hm HH.out).mono ?_; rintro e w6 ⟨A6, c6, rfl, ho6, hb6⟩; have h6 := (Z0.out.below hb5 (Nat.le_refl _)).below hb6 (Nat.le_refl _); have kC : (w6.cell? ⟨w.heap.size, 0, none⟩ = some (.int .i64 x.sec) ∧ w6.cell? ⟨w.heap.size, 1, none⟩ = some (.slice A x.seen.length c) ∧ w6.cell? ⟨w.heap.size, 2, none⟩ = some (.slice B x.pool.length d)) := ⟨(three_cells h6).1, (three_cells h6).2.1, (three_cells h6).2.2.1⟩; obtain ⟨r0, r1, r2, rf⟩ := three_cells ((Z1.out.below hb5 (Nat.le_refl _)).below hb6 (Nat.le_refl _))))
  all_goals
    have hb06 := hb5.trans (hb6.mono hb5.size)
    have hbw := HB.out.trans (hb06.mono HB.out.size)
    have hs5 := hb5.size
    have hs6 := hb6.size
    have hsz3 : (((w6.setCell ⟨w.heap.size + 1, 0, none⟩ (.int .i64 x.sec)).setCell ⟨w.heap.size + 1, 1, none⟩ (.slice A5 x.seen.length c5)).setCell ⟨w.heap.size + 1, 2, none⟩ (.slice A6 x.pool.length c6)).heap.size = w6.heap.size := by simp [World.setCell]
    have hmg : MixG w0.heap.size w5.heap.size w6.heap.size w6 (.slice A5 x.seen.length c5) (.slice A6 x.pool.length c6) x :=
      ⟨⟨g5, dest_keep hd5 fun k e => hb6.block k (dest_lt hd5 k e), fun k e => ⟨hg5 k e, dest_lt hd5 k e⟩⟩, ho6, hs5, hs6⟩
    have HM := Lib.hid (hmg.keep (w' := (((w6.setCell ⟨w.heap.size + 1, 0, none⟩ (.int .i64 x.sec)).setCell ⟨w.heap.size + 1, 1, none⟩ (.slice A5 x.seen.length c5)).setCell ⟨w.heap.size + 1, 2, none⟩ (.slice A6 x.pool.length c6))) (Nat.le_of_eq hsz3.symm) (fun y q1 q2 q3 => Sp6.farb3 (by omega) _ _ _))
    have HBW := Lib.hid (((hbw.setCell (p := ⟨w.heap.size + 1, 0, none⟩) (show w.heap.size ≤ w.heap.size + 1 by omega) (.int .i64 x.sec)).setCell (p := ⟨w.heap.size + 1, 1, none⟩) (show w.heap.size ≤ w.heap.size + 1 by omega) (.slice A5 x.seen.length c5)).setCell (p := ⟨w.heap.size + 1, 2, none⟩) (show w.heap.size ≤ w.heap.size + 1 by omega) (.slice A6 x.pool.length c6))
    have HS3 := Lib.hid hsz3
    clear hsz3 hmg hbw hb06 kB kC h5 h6 hb5 hb50 hb6 ho6 hd5
    go_wp2
    refine bodyPost_ret (v := .agg #[.int .i64 x.sec, .slice A5 x.seen.length c5, .slice A6 x.pool.length c6]) ?_ rfl ?_
    · rw [Rd.results_cell1 rfl]
      go_simp
    · refine ⟨A5, c5, A6, c6, w5.heap.size, rfl, ?_, HBW.out⟩
      rw [HS3.out]
      obtain ⟨⟨g, q1, q2⟩, q3, q4, q5⟩ := HM.out
      exact ⟨⟨g, q1, fun k e => ⟨by have := (q2 k e).1; omega, (q2 k e).2⟩⟩, q3, by omega, q5⟩

end Im6
end Go.Proofs.Ytnjcpbkpcmemeac
