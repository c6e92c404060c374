/-
  Contracts of the program's chapter 13: oldestSlot.
-/
import Derived.Test.YtmmnpmfkpieoiaaIm8b
import Derived.Test.YtmmnpmfkpieoiaaSp8b
import Derived.Test.YtmmnpmfkpieoiaaRq
import Derived.BigQuiet
import Derived.Deep.RegionLaw
import Derived.RangeFuncNested
import Derived.RangeFuncBound
import Derived.RangeFuncCalls
import Derived.RangeFuncLeaves
import Derived.Shelf.Abstract
import Derived.Shelf.RegionOpen
import Derived.WalkKit
import Derived.OwnWalkIn
import Derived.TacticsInMore
import Derived.LoopNIn
import Derived.LoopIn
namespace Go.Proofs.Ytmmnpmfkpieoiaa
open Go.RowKit Go.Shelf
namespace Im8
open Il (Ints below_of_grown grown_of_below)
open Sl Fo Cm Cs Sg Gm
attribute [local go_sem] Oper.semAt_some

theorem ints_any {lo hi : Nat} {w : World} {A : Option Addr} {n c : Nat} {xs : List Int} (h : Ints lo hi w A n c xs) (w'' : World) (e : w''.heap = w.heap) : Ints lo hi w'' A n c xs := h.keep (Nat.le_of_eq (by rw [e])) fun b _ _ _ => by rw [e]
theorem alloc_cell {b : Nat} {v : Value} (w : World) (h : w.cell? ⟨b, 0, none⟩ = some v) (o : Obj) : (w.alloc o).cell? ⟨b, 0, none⟩ = some v := by
  have hlt : b < w.heap.size := by
    rcases Nat.lt_or_ge b w.heap.size with q | q
    · exact q
    · simp [World.cell?, Array.getElem?_eq_none q] at h
  exact (((Below.refl w.heap.size w).alloc (Nat.le_refl _) o).cell (p := ⟨b, 0, none⟩) hlt).trans h
theorem alloc_frozen {b : Nat} {v : Bool} (w : World) (hlt : b < w.heap.size) (h : w.frozen? ⟨b, 0, none⟩ = v) (o : Obj) : (w.alloc o).frozen? ⟨b, 0, none⟩ = v :=
  (World.frozen?_of_block (a := ⟨b, 0, none⟩) (((Below.refl w.heap.size w).alloc (Nat.le_refl _) o).block b hlt)).trans h
set_option maxRecDepth 100000 in
set_option maxHeartbeats 1000000 in
theorem oldestSlot (c : Ch) (A : Option Addr) (k lo hi : Nat) (w : World) (hx : Sts lo hi w A 3 k c.sl) (hc : 0 ≤ c.ep ∧ c.ep ≤ 99) (hsm : ∀ i, (slAt c.sl i).length ≤ 6) :
    Calls Try.prog 46 #[.agg #[.int .i64 c.ep, .slice A 3 k]] w (OldP c w) := by
  obtain ⟨hc0, hc1⟩ := hc
  have hk := hx.cap_
  have hk2 := hx.max_
  unfold maxLen at hk2
  obtain ⟨ss, hss, hrow, hint⟩ := hx
  have hl3 : ss.length = 3 := by have := hrow.1; rw [List.length_map] at this; omega
  obtain ⟨b, off, rfl, _, _, hbz, hcell⟩ := hrow.2.2.2 (by omega)
  obtain ⟨sg, hsg⟩ : ∃ sg : Fin 3 → Sk, ∀ i : Fin 3, ss[i.1]? = some (sg i) := ⟨fun i => ss[i.1]'(by have := i.2; omega), fun i => List.getElem?_eq_getElem _⟩
  have hrw : ∀ i : Fin 3, w.cell? ⟨b, off + i.1, none⟩ = some (.slice (sg i).A (sg i).xs.length (sg i).c) := fun i => hcell i.1 _ (by rw [List.getElem?_map, hsg i]; rfl)
  have hin : ∀ i : Fin 3, Ints 0 w.heap.size w (sg i).A (sg i).xs.length (sg i).c (sg i).xs := fun i => ints_topS (hint _ (List.mem_of_getElem? (hsg i))) (Nat.zero_le _)
  have hsl : ∀ i : Fin 3, slAt c.sl i.1 = (sg i).xs := fun i => by
    rw [← hss]
    unfold slAt
    rw [List.getD_eq_getElem?_getD, List.getElem?_map, hsg i]; rfl
  have hsm' : ∀ i : Fin 3, (sg i).xs.length ≤ 6 := fun i => by rw [← hsl i]; exact hsm i.1
  clear hcell hint hsg hss hrow hl3 hsm
  refine (callsIn_wide (n := 5)).1 ?_
  refine callsIn_of_wp_marks Try.func46 rfl trivial ?_ rfl
  simp only [Try.ntmps46, List.size_toArray, List.length_cons, List.length_nil, Nat.reduceAdd, Nat.reduceSub, Array.replicate_succ, Array.replicate_zero, List.push_toArray, List.append_toArray, List.nil_append, List.cons_append]
  gi_wp2_with (refine ⟨trivial, ?_⟩; (gi_at_call 63; refine (callsIn_wide.2 (backward (some ⟨b, off, none⟩) 3 k _)).mono ?_; rintro e w' ⟨rfl, rfl⟩))
  obtain ⟨zb0, zb1, zb2, hs3, hb3⟩ := Sp8.three_blocks w #[.int .i64 c.ep, .slice (some ⟨b, off, none⟩) 3 k] #[.pointer none] #[.slice (some ⟨b, off, none⟩) 3 k] 26 57 24
  have hs3' : w.heap.size + 1 + 1 < (((w.alloc (.cells #[.int .i64 c.ep, .slice (some ⟨b, off, none⟩) 3 k] 26)).alloc (.cells #[.pointer none] 57)).alloc (.cells #[.slice (some ⟨b, off, none⟩) 3 k] 24)).heap.size := by rw [hs3]; omega
  clear hs3
  generalize (((w.alloc (.cells #[.int .i64 c.ep, .slice (some ⟨b, off, none⟩) 3 k] 26)).alloc (.cells #[.pointer none] 57)).alloc (.cells #[.slice (some ⟨b, off, none⟩) 3 k] 24)) = w3 at *
  have hbox : w3.cell? ⟨w.heap.size + 1 + 1, 0, none⟩ = some (.slice (some ⟨b, off, none⟩) 3 k) := by rw [cell_of_row _ _ _ _ _ _ zb2]; rfl
  have hrw3 : ∀ i : Fin 3, w3.cell? ⟨b, off + i.1, none⟩ = some (.slice (sg i).A (sg i).xs.length (sg i).c) := fun i => (hb3.cell (p := ⟨b, off + i.1, none⟩) hbz).trans (hrw i)
  refine wpIn_rangeFunc_ownG rfl (by omega) (gf := 70) (lb := #[.pointer (some ⟨w.heap.size + 1 + 1, 0, none⟩)]) rfl trivial (enters_of Try.func70 (by kernel_rfl) rfl)
    (back_stops 4 (by omega) w.heap.size (w.heap.size + 1 + 1) b off k sg w3 (by omega) (by omega) hbz hk hk2 hbox hrw3) kpQ_t (kpQ_b (by omega) (by omega)) (Below.refl _ _) (fun _ => rfl)
    (fun pre W => OInv c (some ⟨b, off, none⟩) 3 k w pre W ∧ Below w.heap.size w W) (fun _ _ _ => False)
    (OwnFrom.and (fun s X Y row hs hg hr => by
      obtain ⟨h0, h1, a, L, h2, h3, h4⟩ := hs
      exact ⟨Nat.lt_of_lt_of_le h0 hg.size, h1.same (cells_same h1 hg fun r e => (hr r e).2), a, L, h2.same (cells_same h2 hg fun r e => (hr r e).2), ⟨h3.1.keep fun f hf x hx => by
        obtain ⟨cs, t, fr, hh⟩ := chN_cells h3.1 f hf x hx
        exact cells_same hh hg fun r e => (hr r e).2, h3.2.1, h3.2.2.mono (Nat.le_refl _) hg.size⟩, h4⟩) (ownFrom_below (Nat.le_refl _) (by omega)))
    (fun _ _ _ _ _ hs _ _ => hs)
    ⟨⟨hs3', zb0, none, [], zb1, ChG.nil_, rfl⟩, hb3⟩ ?a1 ?assign ?body ?done ?stop
  case assign =>
    intro l x W K hK
    gi_wp2
    exact hK
  case body =>
    rintro l pre x W ⟨⟨hs2, kc, a, L, kp, hch, hL⟩, hB⟩ _
    obtain ⟨z0, z1, zf⟩ := two_cells kc
    have hp : W.cell? ⟨w.heap.size + 1, 0, none⟩ = some (.pointer a) := by rw [cell_of_row _ _ _ _ _ _ kp]; rfl
    have hpf : W.frozen? ⟨w.heap.size + 1, 0, none⟩ = false := by unfold Blk at kp; simp [World.frozen?, kp]
    have hxl := x.2
    have HI := Lib.hid ((hin x).below' hB (Nat.le_refl _))
    have hsx := hsm' x
    have e1 : IntKind.i64.wrap (c.ep - 3) = c.ep - 3 := IntWalk.i64_in _ (by omega)
    have e2 : IntKind.i64.wrap (c.ep - 3 + 1) = c.ep - 3 + 1 := IntWalk.i64_in _ (by omega)
    have e3 : IntKind.i64.wrap (c.ep - 3 + 1 + (x.1 : Int)) = c.ep - 3 + 1 + (x.1 : Int) := IntWalk.i64_in _ (by omega)
    have hmx : Try.prog.follows .mixedOrders = true := by kernel_rfl
    have hw1 : w.heap.size + 1 < W.heap.size := kp.lt
    have hw0 : w.heap.size < W.heap.size := kc.lt
    have HID := Lib.hid (ints_any HI.out W.drew rfl)
    have FIN := fun (w5 : World) (A5 : Option Addr) (c5 : Nat) (g5 : Option Nat) (hd5 : Dest 3 1 g5 w5 (.slice A5 (sg x).xs.length c5) (sg x).xs.length ((sg x).xs.map (Value.int .i64))) (hg5 : ∀ j, g5 = some j → W.heap.size ≤ j) (hb5 : Below W.drew.heap.size W.drew w5) =>
      old_step (B := w3.heap.size) hs2 kc kp hch hL hB (hsl x) hd5 hg5 ⟨hb5.os, hb5.tape, hb5.output, hb5.size, hb5.block⟩
    gi_wp2
    refine Rq.region_in (by rintro ⟨_, _, h⟩; exact h) (by kernel_rfl) hmx ?_
    change wpAny _ _ _ _ _ _ _ (World.drew _)
    refine wpAny_take (i := 0) (v := ?_) rfl (by kernel_rfl) (by kernel_rfl) (by kernel_rfl) (fun _ _ _ h => h) (Or.inl ⟨by rfl, ?_⟩) ?_
    rotate_left
    · intro w; go_simp; try with_reducible rfl
    refine wpAny_take (i := 4) (v := ?_) rfl (by kernel_rfl) (by kernel_rfl) (by kernel_rfl) (fun _ _ _ h => h) (Or.inl ⟨by rfl, ?_⟩) ?_
    rotate_left
    · intro w; go_simp; try with_reducible rfl
    refine wpAny_take (i := 6) (v := ?_) rfl (by kernel_rfl) (by kernel_rfl) (by kernel_rfl) (fun _ _ _ h => h) (Or.inl ⟨by rfl, ?_⟩) ?_
    rotate_left
    · intro w; go_simp; try with_reducible rfl
    refine wpAny_ready (rs := [1, 7, 8]) (by kernel_rfl) (by simp) ?_
    refine AllReady.cons rfl (fun K hK => ?_) ?_
    · go_simp
      refine hK _ _ ?_; clear hK K
      refine wpAny_take (i := 2) (v := ?_) rfl (by kernel_rfl) (by kernel_rfl) (by kernel_rfl) (fun _ _ _ h => h) (Or.inl ⟨by rfl, ?_⟩) ?_
      rotate_left
      · intro w; go_simp; try with_reducible rfl
      refine wpAny_take (i := 3) (v := ?_) rfl (by kernel_rfl) (by kernel_rfl) (by kernel_rfl) (fun _ _ _ h => h) (Or.inl ⟨by rfl, ?_⟩) ?_
      rotate_left
      · intro w; go_simp; try with_reducible rfl
      refine wpAny_take (i := 5) (v := ?_) rfl (by kernel_rfl) (by kernel_rfl) (by kernel_rfl) (fun _ _ _ h => h) (Or.inl ⟨by rfl, ?_⟩) ?_
      rotate_left
      · intro w; go_simp; try with_reducible rfl
      refine wpAny_ready (rs := [7, 8]) (by kernel_rfl) (by simp) ?_
      refine AllReady.cons rfl (fun K hK => ?_) ?_
      · go_simp; go_at_call 64; refine (cloneI 0 w.heap.size _ _ (sg x).xs _ HID.out (by omega)).mono ?_; rintro e w5 ⟨A5, c5, g5, rfl, hd5, hg5, hb5⟩; have z05 := (hb5.cell (p := ⟨w.heap.size, 0, none⟩) (show w.heap.size < W.heap.size from hw0)).trans z0; have hp5 := (hb5.cell (p := ⟨w.heap.size + 1, 0, none⟩) (show w.heap.size + 1 < W.heap.size from hw1)).trans hp; have hpf5 := (World.frozen?_of_block (a := ⟨w.heap.size + 1, 0, none⟩) (hb5.block (w.heap.size + 1) (show w.heap.size + 1 < W.heap.size from hw1))).trans hpf; have hp5a := alloc_cell w5 hp5; have hpf5a := alloc_frozen w5 (Nat.lt_of_lt_of_le hw1 hb5.size) hpf5; go_simp
        refine hK _ _ ?_; clear hK K
        refine wpAny_ready (rs := [8]) (by kernel_rfl) (by simp) ?_
        refine AllReady.cons rfl (fun K hK => ?_) ?_
        · go_simp
          refine hK _ _ ?_; clear hK K
          refine wpAny_take (i := 9) (v := ?_) rfl (by kernel_rfl) (by kernel_rfl) (by kernel_rfl) (fun _ _ _ h => h) (Or.inl ⟨by rfl, ?_⟩) ?_
          rotate_left
          · intro w; go_simp; try with_reducible rfl
          refine wpAny_ready (rs := [10]) (by kernel_rfl) (by simp) ?_
          refine AllReady.cons rfl (fun K hK => ?_) ?_
          · go_simp
            refine hK _ _ ?_; clear hK K
            refine wpAny_ready (rs := [11]) (by kernel_rfl) (by simp) ?_
            refine AllReady.cons rfl (fun K hK => ?_) ?_
            · go_simp
              refine hK _ _ ?_; clear hK K
              refine wpAny_done (by kernel_rfl) ?_ _; exact FIN w5 A5 c5 g5 hd5 hg5 hb5
            exact AllReady.nil
          exact AllReady.nil
        exact AllReady.nil
      refine AllReady.cons rfl (fun K hK => ?_) ?_
      · go_simp
        refine hK _ _ ?_; clear hK K
        refine wpAny_ready (rs := [7]) (by kernel_rfl) (by simp) ?_
        refine AllReady.cons rfl (fun K hK => ?_) ?_
        · go_simp; go_at_call 64; refine (cloneI 0 w.heap.size _ _ (sg x).xs _ HID.out (by omega)).mono ?_; rintro e w5 ⟨A5, c5, g5, rfl, hd5, hg5, hb5⟩; have z05 := (hb5.cell (p := ⟨w.heap.size, 0, none⟩) (show w.heap.size < W.heap.size from hw0)).trans z0; have hp5 := (hb5.cell (p := ⟨w.heap.size + 1, 0, none⟩) (show w.heap.size + 1 < W.heap.size from hw1)).trans hp; have hpf5 := (World.frozen?_of_block (a := ⟨w.heap.size + 1, 0, none⟩) (hb5.block (w.heap.size + 1) (show w.heap.size + 1 < W.heap.size from hw1))).trans hpf; have hp5a := alloc_cell w5 hp5; have hpf5a := alloc_frozen w5 (Nat.lt_of_lt_of_le hw1 hb5.size) hpf5; go_simp
          refine hK _ _ ?_; clear hK K
          refine wpAny_take (i := 9) (v := ?_) rfl (by kernel_rfl) (by kernel_rfl) (by kernel_rfl) (fun _ _ _ h => h) (Or.inl ⟨by rfl, ?_⟩) ?_
          rotate_left
          · intro w; go_simp; try with_reducible rfl
          refine wpAny_ready (rs := [10]) (by kernel_rfl) (by simp) ?_
          refine AllReady.cons rfl (fun K hK => ?_) ?_
          · go_simp
            refine hK _ _ ?_; clear hK K
            refine wpAny_ready (rs := [11]) (by kernel_rfl) (by simp) ?_
            refine AllReady.cons rfl (fun K hK => ?_) ?_
            · go_simp
              refine hK _ _ ?_; clear hK K
              refine wpAny_done (by kernel_rfl) ?_ _; exact FIN w5 A5 c5 g5 hd5 hg5 hb5
            exact AllReady.nil
          exact AllReady.nil
        exact AllReady.nil
      exact AllReady.nil
    refine AllReady.cons rfl (fun K hK => ?_) ?_
    · go_simp; go_at_call 64; refine (cloneI 0 w.heap.size _ _ (sg x).xs _ HID.out (by omega)).mono ?_; rintro e w5 ⟨A5, c5, g5, rfl, hd5, hg5, hb5⟩; have z05 := (hb5.cell (p := ⟨w.heap.size, 0, none⟩) (show w.heap.size < W.heap.size from hw0)).trans z0; have hp5 := (hb5.cell (p := ⟨w.heap.size + 1, 0, none⟩) (show w.heap.size + 1 < W.heap.size from hw1)).trans hp; have hpf5 := (World.frozen?_of_block (a := ⟨w.heap.size + 1, 0, none⟩) (hb5.block (w.heap.size + 1) (show w.heap.size + 1 < W.heap.size from hw1))).trans hpf; have hp5a := alloc_cell w5 hp5; have hpf5a := alloc_frozen w5 (Nat.lt_of_lt_of_le hw1 hb5.size) hpf5; go_simp
      refine hK _ _ ?_; clear hK K
      refine wpAny_ready (rs := [1, 8]) (by kernel_rfl) (by simp) ?_
      refine AllReady.cons rfl (fun K hK => ?_) ?_
      · go_simp
        refine hK _ _ ?_; clear hK K
        refine wpAny_take (i := 2) (v := ?_) rfl (by kernel_rfl) (by kernel_rfl) (by kernel_rfl) (fun _ _ _ h => h) (Or.inl ⟨by rfl, ?_⟩) ?_
        rotate_left
        · intro w; go_simp; try with_reducible rfl
        refine wpAny_take (i := 3) (v := ?_) rfl (by kernel_rfl) (by kernel_rfl) (by kernel_rfl) (fun _ _ _ h => h) (Or.inl ⟨by rfl, ?_⟩) ?_
        rotate_left
        · intro w; go_simp; try with_reducible rfl
        refine wpAny_take (i := 5) (v := ?_) rfl (by kernel_rfl) (by kernel_rfl) (by kernel_rfl) (fun _ _ _ h => h) (Or.inl ⟨by rfl, ?_⟩) ?_
        rotate_left
        · intro w; go_simp; try with_reducible rfl
        refine wpAny_ready (rs := [8]) (by kernel_rfl) (by simp) ?_
        refine AllReady.cons rfl (fun K hK => ?_) ?_
        · go_simp
          refine hK _ _ ?_; clear hK K
          refine wpAny_take (i := 9) (v := ?_) rfl (by kernel_rfl) (by kernel_rfl) (by kernel_rfl) (fun _ _ _ h => h) (Or.inl ⟨by rfl, ?_⟩) ?_
          rotate_left
          · intro w; go_simp; try with_reducible rfl
          refine wpAny_ready (rs := [10]) (by kernel_rfl) (by simp) ?_
          refine AllReady.cons rfl (fun K hK => ?_) ?_
          · go_simp
            refine hK _ _ ?_; clear hK K
            refine wpAny_ready (rs := [11]) (by kernel_rfl) (by simp) ?_
            refine AllReady.cons rfl (fun K hK => ?_) ?_
            · go_simp
              refine hK _ _ ?_; clear hK K
              refine wpAny_done (by kernel_rfl) ?_ _; exact FIN w5 A5 c5 g5 hd5 hg5 hb5
            exact AllReady.nil
          exact AllReady.nil
        exact AllReady.nil
      refine AllReady.cons rfl (fun K hK => ?_) ?_
      · go_simp
        refine hK _ _ ?_; clear hK K
        refine wpAny_ready (rs := [1]) (by kernel_rfl) (by simp) ?_
        refine AllReady.cons rfl (fun K hK => ?_) ?_
        · go_simp
          refine hK _ _ ?_; clear hK K
          refine wpAny_take (i := 2) (v := ?_) rfl (by kernel_rfl) (by kernel_rfl) (by kernel_rfl) (fun _ _ _ h => h) (Or.inl ⟨by rfl, ?_⟩) ?_
          rotate_left
          · intro w; go_simp; try with_reducible rfl
          refine wpAny_take (i := 3) (v := ?_) rfl (by kernel_rfl) (by kernel_rfl) (by kernel_rfl) (fun _ _ _ h => h) (Or.inl ⟨by rfl, ?_⟩) ?_
          rotate_left
          · intro w; go_simp; try with_reducible rfl
          refine wpAny_take (i := 5) (v := ?_) rfl (by kernel_rfl) (by kernel_rfl) (by kernel_rfl) (fun _ _ _ h => h) (Or.inl ⟨by rfl, ?_⟩) ?_
          rotate_left
          · intro w; go_simp; try with_reducible rfl
          refine wpAny_take (i := 9) (v := ?_) rfl (by kernel_rfl) (by kernel_rfl) (by kernel_rfl) (fun _ _ _ h => h) (Or.inl ⟨by rfl, ?_⟩) ?_
          rotate_left
          · intro w; go_simp; try with_reducible rfl
          refine wpAny_ready (rs := [10]) (by kernel_rfl) (by simp) ?_
          refine AllReady.cons rfl (fun K hK => ?_) ?_
          · go_simp
            refine hK _ _ ?_; clear hK K
            refine wpAny_ready (rs := [11]) (by kernel_rfl) (by simp) ?_
            refine AllReady.cons rfl (fun K hK => ?_) ?_
            · go_simp
              refine hK _ _ ?_; clear hK K
              refine wpAny_done (by kernel_rfl) ?_ _; exact FIN w5 A5 c5 g5 hd5 hg5 hb5
            exact AllReady.nil
          exact AllReady.nil
        exact AllReady.nil
      exact AllReady.nil
    refine AllReady.cons rfl (fun K hK => ?_) ?_
    · go_simp
      refine hK _ _ ?_; clear hK K
      refine wpAny_ready (rs := [1, 7]) (by kernel_rfl) (by simp) ?_
      refine AllReady.cons rfl (fun K hK => ?_) ?_
      · go_simp
        refine hK _ _ ?_; clear hK K
        refine wpAny_take (i := 2) (v := ?_) rfl (by kernel_rfl) (by kernel_rfl) (by kernel_rfl) (fun _ _ _ h => h) (Or.inl ⟨by rfl, ?_⟩) ?_
        rotate_left
        · intro w; go_simp; try with_reducible rfl
        refine wpAny_take (i := 3) (v := ?_) rfl (by kernel_rfl) (by kernel_rfl) (by kernel_rfl) (fun _ _ _ h => h) (Or.inl ⟨by rfl, ?_⟩) ?_
        rotate_left
        · intro w; go_simp; try with_reducible rfl
        refine wpAny_take (i := 5) (v := ?_) rfl (by kernel_rfl) (by kernel_rfl) (by kernel_rfl) (fun _ _ _ h => h) (Or.inl ⟨by rfl, ?_⟩) ?_
        rotate_left
        · intro w; go_simp; try with_reducible rfl
        refine wpAny_ready (rs := [7]) (by kernel_rfl) (by simp) ?_
        refine AllReady.cons rfl (fun K hK => ?_) ?_
        · go_simp; go_at_call 64; refine (cloneI 0 w.heap.size _ _ (sg x).xs _ HID.out (by omega)).mono ?_; rintro e w5 ⟨A5, c5, g5, rfl, hd5, hg5, hb5⟩; have z05 := (hb5.cell (p := ⟨w.heap.size, 0, none⟩) (show w.heap.size < W.heap.size from hw0)).trans z0; have hp5 := (hb5.cell (p := ⟨w.heap.size + 1, 0, none⟩) (show w.heap.size + 1 < W.heap.size from hw1)).trans hp; have hpf5 := (World.frozen?_of_block (a := ⟨w.heap.size + 1, 0, none⟩) (hb5.block (w.heap.size + 1) (show w.heap.size + 1 < W.heap.size from hw1))).trans hpf; have hp5a := alloc_cell w5 hp5; have hpf5a := alloc_frozen w5 (Nat.lt_of_lt_of_le hw1 hb5.size) hpf5; go_simp
          refine hK _ _ ?_; clear hK K
          refine wpAny_take (i := 9) (v := ?_) rfl (by kernel_rfl) (by kernel_rfl) (by kernel_rfl) (fun _ _ _ h => h) (Or.inl ⟨by rfl, ?_⟩) ?_
          rotate_left
          · intro w; go_simp; try with_reducible rfl
          refine wpAny_ready (rs := [10]) (by kernel_rfl) (by simp) ?_
          refine AllReady.cons rfl (fun K hK => ?_) ?_
          · go_simp
            refine hK _ _ ?_; clear hK K
            refine wpAny_ready (rs := [11]) (by kernel_rfl) (by simp) ?_
            refine AllReady.cons rfl (fun K hK => ?_) ?_
            · go_simp
              refine hK _ _ ?_; clear hK K
              refine wpAny_done (by kernel_rfl) ?_ _; exact FIN w5 A5 c5 g5 hd5 hg5 hb5
            exact AllReady.nil
          exact AllReady.nil
        exact AllReady.nil
      refine AllReady.cons rfl (fun K hK => ?_) ?_
      · go_simp; go_at_call 64; refine (cloneI 0 w.heap.size _ _ (sg x).xs _ HID.out (by omega)).mono ?_; rintro e w5 ⟨A5, c5, g5, rfl, hd5, hg5, hb5⟩; have z05 := (hb5.cell (p := ⟨w.heap.size, 0, none⟩) (show w.heap.size < W.heap.size from hw0)).trans z0; have hp5 := (hb5.cell (p := ⟨w.heap.size + 1, 0, none⟩) (show w.heap.size + 1 < W.heap.size from hw1)).trans hp; have hpf5 := (World.frozen?_of_block (a := ⟨w.heap.size + 1, 0, none⟩) (hb5.block (w.heap.size + 1) (show w.heap.size + 1 < W.heap.size from hw1))).trans hpf; have hp5a := alloc_cell w5 hp5; have hpf5a := alloc_frozen w5 (Nat.lt_of_lt_of_le hw1 hb5.size) hpf5; go_simp
        refine hK _ _ ?_; clear hK K
        refine wpAny_ready (rs := [1]) (by kernel_rfl) (by simp) ?_
        refine AllReady.cons rfl (fun K hK => ?_) ?_
        · go_simp
          refine hK _ _ ?_; clear hK K
          refine wpAny_take (i := 2) (v := ?_) rfl (by kernel_rfl) (by kernel_rfl) (by kernel_rfl) (fun _ _ _ h => h) (Or.inl ⟨by rfl, ?_⟩) ?_
          rotate_left
          · intro w; go_simp; try with_reducible rfl
          refine wpAny_take (i := 3) (v := ?_) rfl (by kernel_rfl) (by kernel_rfl) (by kernel_rfl) (fun _ _ _ h => h) (Or.inl ⟨by rfl, ?_⟩) ?_
          rotate_left
          · intro w; go_simp; try with_reducible rfl
          refine wpAny_take (i := 5) (v := ?_) rfl (by kernel_rfl) (by kernel_rfl) (by kernel_rfl) (fun _ _ _ h => h) (Or.inl ⟨by rfl, ?_⟩) ?_
          rotate_left
          · intro w; go_simp; try with_reducible rfl
          refine wpAny_take (i := 9) (v := ?_) rfl (by kernel_rfl) (by kernel_rfl) (by kernel_rfl) (fun _ _ _ h => h) (Or.inl ⟨by rfl, ?_⟩) ?_
          rotate_left
          · intro w; go_simp; try with_reducible rfl
          refine wpAny_ready (rs := [10]) (by kernel_rfl) (by simp) ?_
          refine AllReady.cons rfl (fun K hK => ?_) ?_
          · go_simp
            refine hK _ _ ?_; clear hK K
            refine wpAny_ready (rs := [11]) (by kernel_rfl) (by simp) ?_
            refine AllReady.cons rfl (fun K hK => ?_) ?_
            · go_simp
              refine hK _ _ ?_; clear hK K
              refine wpAny_done (by kernel_rfl) ?_ _; exact FIN w5 A5 c5 g5 hd5 hg5 hb5
            exact AllReady.nil
          exact AllReady.nil
        exact AllReady.nil
      exact AllReady.nil
    exact AllReady.nil
  case done =>
    rintro D ys W hD hall ⟨⟨hs2, kc, a, L, kp, hch, hL⟩, hB⟩ hK
    subst hall
    have hp : W.cell? ⟨w.heap.size + 1, 0, none⟩ = some (.pointer a) := by rw [cell_of_row _ _ _ _ _ _ kp]; rfl
    gi_wp2
    refine ⟨by simp, .inl ⟨_, _, rfl, run_takeDeferred hK, ?_⟩⟩
    have hg := grownBy_putObj' W D (.deferred none)
    have hr : ∀ r, some D = some r → ∃ o : Obj, W.heap[r]? = some o ∧ o.isCells = false := fun r e => by cases e; exact ⟨_, hK, rfl⟩
    refine ⟨_, results_tmp rfl _ _ _, ?_⟩
    refine ⟨a, L, rfl, ⟨hch.1.keep fun f hf x hx => ?_, hch.2.1, hch.2.2.mono (by omega) hg.size⟩, ?_, hB.trans (belowK_b (w := w) (Nat.le_refl _) W D _ _ (by omega) hK rfl rfl)⟩
    · obtain ⟨cs, t, fr, hh⟩ := chN_cells hch.1 f hf x hx
      exact cells_same hh hg hr
    · rw [hL]
      show [(c.ep - 2 + ((0 : Nat) : Int), _), (c.ep - 2 + ((1 : Nat) : Int), _), (c.ep - 2 + ((2 : Nat) : Int), _)] = _
      have q0 : c.ep - 2 + ((0 : Nat) : Int) = c.ep - 2 := by omega
      have q1 : c.ep - 2 + ((1 : Nat) : Int) = c.ep - 1 := by omega
      have q2 : c.ep - 2 + ((2 : Nat) : Int) = c.ep := by omega
      rw [q0, q1, q2]
      rfl
  case stop =>
    rintro D c pre W _ _ h _
    exact h.elim

end Im8
end Go.Proofs.Ytmmnpmfkpieoiaa
