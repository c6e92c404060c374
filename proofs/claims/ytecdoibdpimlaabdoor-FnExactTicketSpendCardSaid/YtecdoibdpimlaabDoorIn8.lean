/-
  slices.Insert of one key into a list of keys that can be appended to: wherever it stands, with room and without.
-/
import Derived.Test.YtecdoibdpimlaabDoorKi
import Derived.Test.YtecdoibdpimlaabDoorShl
import Derived.Deep.Upon
namespace Go.Proofs.YtecdoibdpimlaabDoor
open Go.RowKit
namespace Im8
open Il Sl Fo Cm Cs Gm

theorem heap_setCells (b : Nat) : ∀ (vs : List Value) (o : Nat) (w : World) (cur : Array Value) (e : TypeId) (fr : Nat × Nat), w.heap[b]? = some (.cells cur e fr) → ∃ cur', (w.setCells b o vs).heap[b]? = some (.cells cur' e fr) ∧ cur'.size = cur.size
  | [], _, _, cur, _, _, h => ⟨cur, h, rfl⟩
  | v :: vs, o, w, cur, e, fr, h => by
    have h1 : (w.setCell ⟨b, o, none⟩ v).heap[b]? = some (.cells (cur.setIfInBounds o v) e fr) := by simp [World.setCell, Array.getElem?_modify, h]
    obtain ⟨cur', h2, h3⟩ := heap_setCells b vs (o + 1) _ _ e fr h1
    exact ⟨cur', h2, by rw [h3]; simp⟩
theorem cell_block {w : World} {g i : Nat} {cur : Array Value} {e : TypeId} {fr : Nat × Nat} (hh : w.heap[g]? = some (.cells cur e fr)) : w.cell? ⟨g, i, none⟩ = cur[i]? := by simp [World.cell?, hh]
theorem accV_cells {e : TypeId} {g n cap : Nat} {w : World} {vs : List Value} {cur : Array Value} (hh : w.heap[g]? = some (.cells cur e (0, 0))) (hs : cur.size = cap) (hn : n ≤ cap) (hm : cap ≤ maxLen) (hl : vs.length = n)
    (hc : ∀ i u, vs[i]? = some u → w.cell? ⟨g, i, none⟩ = some u) : AccV e 1 g w (.slice (some ⟨g, 0, none⟩) n cap) n vs := by
  refine ⟨cap, rfl, by omega, .inr ⟨g, cap, cur, rfl, Nat.le_refl _, hh, hn, hm, by omega, ?_⟩⟩
  refine List.ext_getElem? fun i => ?_
  by_cases hi : i < n
  · rw [Nat.mul_one, List.getElem?_take_of_lt hi]
    have h1 : vs[i]? = some vs[i] := List.getElem?_eq_getElem (by omega)
    have h2 := hc i _ h1
    rw [cell_block hh] at h2
    rw [h1, ← h2, Array.getElem?_toList]
  · rw [List.getElem?_eq_none (by simp; omega), List.getElem?_eq_none (by omega)]
theorem accV_parts {e : TypeId} {g n : Nat} {w : World} {v : Value} {vs : List Value} (h : AccV e 1 g w v n vs) :
    ∃ cap cur, v = .slice (some ⟨g, 0, none⟩) n cap ∧ w.heap[g]? = some (.cells cur e (0, 0)) ∧ n ≤ cap ∧ cap ≤ maxLen ∧ cur.size = cap ∧ vs.length = n ∧ ∀ i u, vs[i]? = some u → w.cell? ⟨g, i, none⟩ = some u := by
  obtain ⟨cap, rfl, ho⟩ := h
  rcases ho.2 with ⟨q, _⟩ | ⟨g1, cap1, cur, q, hb, hh, h1, h2, h3, h4⟩
  · simp at q
  · have q' := q
    simp only [Value.slice.injEq, Option.some.injEq, Addr.mk.injEq, and_true] at q'
    obtain ⟨rfl, _, rfl⟩ := q'
    refine ⟨cap, cur, rfl, hh, h1, h2, by omega, by have := ho.1; omega, fun i u hu => ?_⟩
    rw [cell_block hh]
    rw [← h4, Nat.mul_one, List.getElem?_take] at hu
    split at hu
    · rw [← hu, Array.getElem?_toList]
    · cases hu

/-- The list behind slices.Insert. -/
def InsP (s : Kd) (ys : List Int) (w : World) (e : Ending) (w' : World) : Prop :=
  ∃ A c g, e = .returned (.slice A ys.length c) ∧ KdO w' ⟨ys, A, c, g⟩ ∧ (g = s.g ∨ ∃ k, g = some k ∧ w.heap.size ≤ k) ∧ KeptG [s.g.toList] w w'
theorem oneC (xs : List Int) : ∀ v ∈ xs.map (Value.int .i64), v.oneCell' = true := fun v hv => by
  obtain ⟨x, _, rfl⟩ := List.mem_map.1 hv
  rfl
theorem map_mid (xs : List Int) (k : Int) (p : Nat) : (xs.take p ++ k :: xs.drop p).map (Value.int .i64) = (xs.map (Value.int .i64)).take p ++ Value.int .i64 k :: (xs.map (Value.int .i64)).drop p := by simp
theorem mid_at {vs : List Value} {u : Value} {p i : Nat} {x : Value} (hp : p ≤ vs.length) (h : (vs.take p ++ u :: vs.drop p)[i]? = some x) : (i < p ∧ vs[i]? = some x) ∨ (i = p ∧ x = u) ∨ (∃ j, i = p + 1 + j ∧ (vs.drop p)[j]? = some x ∧ p + j < vs.length) := by
  have hl : (vs.take p).length = p := by rw [List.length_take]; omega
  rcases Nat.lt_or_ge i p with h1 | h1
  · rw [List.getElem?_append_left (by omega), List.getElem?_take_of_lt h1] at h
    exact .inl ⟨h1, h⟩
  · rw [List.getElem?_append_right (by omega), hl] at h
    rcases Nat.eq_or_lt_of_le h1 with e | e
    · subst e
      rw [Nat.sub_self] at h
      have h' : some u = some x := h
      exact .inr (.inl ⟨rfl, by cases h'; rfl⟩)
    · obtain ⟨j, rfl⟩ : ∃ j, i = p + 1 + j := ⟨i - p - 1, by omega⟩
      rw [show p + 1 + j - p = j + 1 by omega, List.getElem?_cons_succ] at h
      refine .inr (.inr ⟨j, rfl, h, ?_⟩)
      have := (List.getElem?_eq_some_iff.1 h).1
      rw [List.length_drop] at this
      omega

/-- A new row holds the list with the key. -/
theorem ins_new {s : Kd} {xs : List Int} {key : Int} {p cap : Nat} {w w' : World} {cur : Array Value} (hp : p ≤ xs.length) (hh : w'.heap[w.heap.size]? = some (.cells cur 3 (0, 0))) (hs : cur.size = cap) (hn : xs.length + 1 ≤ cap) (hm : cap ≤ maxLen)
    (hc : ∀ i u, ((xs.map (Value.int .i64)).take p ++ Value.int .i64 key :: (xs.map (Value.int .i64)).drop p)[i]? = some u → w'.cell? ⟨w.heap.size, i, none⟩ = some u)
    (hk : KeptG [s.g.toList] w w') : InsP s (xs.take p ++ key :: xs.drop p) w (.returned (.slice (some ⟨w.heap.size, 0, none⟩) (xs.length + 1) cap)) w' := by
  have hl : (xs.take p ++ key :: xs.drop p).length = xs.length + 1 := by simp; omega
  refine ⟨some ⟨w.heap.size, 0, none⟩, cap, some w.heap.size, by rw [hl], .inr ⟨_, rfl, ?_⟩, .inr ⟨_, rfl, Nat.le_refl _⟩, hk⟩
  show AccV _ _ _ _ (.slice _ (xs.take p ++ key :: xs.drop p).length _) _ _
  rw [hl]
  refine accV_cells hh hs hn hm (by rw [List.length_map, hl]) fun i u hu => hc i u ?_
  rw [← map_mid]; exact hu
theorem keptG_alloc (G : List (List Nat)) (w : World) (o : Obj) : KeptG G w (w.alloc o) := ⟨rfl, rfl, rfl, by simp, fun b hb _ => ((Below.refl w.heap.size w).alloc (Nat.le_refl _) o).block b hb⟩
theorem keptG_drew (G : List (List Nat)) (w : World) : KeptG G w w.drew := ⟨rfl, rfl, rfl, Nat.le_refl _, fun _ _ _ => rfl⟩
theorem keptG_cell {G : List (List Nat)} {w : World} {g : Nat} (hg : ∃ f ∈ G, g ∈ f) (o : Nat) (v : Value) : KeptG G w (w.setCell ⟨g, o, none⟩ v) :=
  ⟨rfl, rfl, rfl, by simp [World.setCell], fun b _ hf => Below.heap_setCell _ _ _ _ (fun e => by obtain ⟨f, h1, h2⟩ := hg; exact hf f h1 (e ▸ h2))⟩
theorem keptG_row {G : List (List Nat)} {g : Nat} (hg : ∃ f ∈ G, g ∈ f) : ∀ (vs : List Value) (o : Nat) (w : World), KeptG G w (w.setCells g o vs)
  | [], _, _ => KeptG.refl G _
  | v :: vs, o, _ => (keptG_cell hg o v).trans (keptG_row hg vs (o + 1) _)
/-- Cells of a row that is not of G: new ones. -/
theorem keptG_new {G : List (List Nat)} {g : Nat} {w0 : World} (hg : w0.heap.size ≤ g) : ∀ (vs : List Value) (o : Nat) (w : World), KeptG G w0 w → KeptG G w0 (w.setCells g o vs)
  | [], _, _, h => h
  | v :: vs, o, w, h => keptG_new hg vs (o + 1) _ ⟨h.os, h.tape, h.output, by rw [show (w.setCell ⟨g, o, none⟩ v).heap.size = w.heap.size from by simp [World.setCell]]; exact h.size, fun b hb hf => (Below.heap_setCell _ _ _ _ (by dsimp only; omega)).trans (h.block b hb hf)⟩
/-- The same row holds the list with the key. -/
theorem ins_room {s : Kd} {xs : List Int} {key : Int} {p cap g : Nat} {w w' : World} {cur : Array Value} (hp : p ≤ xs.length) (hg : s.g = some g) (hh : w'.heap[g]? = some (.cells cur 3 (0, 0))) (hs : cur.size = cap) (hn : xs.length + 1 ≤ cap) (hm : cap ≤ maxLen)
    (hc : ∀ i u, ((xs.map (Value.int .i64)).take p ++ Value.int .i64 key :: (xs.map (Value.int .i64)).drop p)[i]? = some u → w'.cell? ⟨g, i, none⟩ = some u)
    (hk : KeptG [s.g.toList] w w') : InsP s (xs.take p ++ key :: xs.drop p) w (.returned (.slice (some ⟨g, 0, none⟩) (xs.length + 1) cap)) w' := by
  have hl : (xs.take p ++ key :: xs.drop p).length = xs.length + 1 := by simp; omega
  refine ⟨some ⟨g, 0, none⟩, cap, some g, by rw [hl], .inr ⟨_, rfl, ?_⟩, .inl hg.symm, hk⟩
  show AccV _ _ _ _ (.slice _ (xs.take p ++ key :: xs.drop p).length _) _ _
  rw [hl]
  refine accV_cells hh hs hn hm (by rw [List.length_map, hl]) fun i u hu => hc i u ?_
  rw [← map_mid]; exact hu
theorem some_block {w : World} {g i : Nat} {cur : Array Value} {e : TypeId} {fr : Nat × Nat} (hh : w.heap[g]? = some (.cells cur e fr)) (hi : i < cur.size) : (w.cell? ⟨g, i, none⟩).isSome = true := by
  rw [cell_block hh, Array.getElem?_eq_getElem hi]; rfl
theorem zeros_size (n : Nat) : (Builtin.zeroCells (Value.int .i64 0).cells n).size = n := by simp [Builtin.zeroCells, Value.cells]
set_option maxRecDepth 20000 in
set_option maxHeartbeats 1000000 in
theorem insert (s : Kd) (key : Int) (p vb : Nat) (w : World) (h : KdO w s) (hb : Blk w vb #[.int .i64 key] 3) (hne : vb ∉ s.g.toList) (hp : p ≤ s.xs.length) (hl : s.xs.length ≤ 1000) :
    Calls Tryd.prog 18 #[.slice s.A s.xs.length s.c, .int .i64 (p : Nat), .slice (some ⟨vb, 0, none⟩) 1 1] w (InsP s (s.xs.take p ++ key :: s.xs.drop p) w) := by
  have hvs : ∀ j v, [Value.int .i64 key][j]? = some v → w.cell? ⟨vb, 0 + j, none⟩ = some v := fun j v hj => by
    have hj0 : j = 0 := by
      have := (List.getElem?_eq_some_iff.1 hj).1
      simpa using this
    subst hj0
    rw [cell_of_row _ _ _ _ _ _ hb]
    simpa using hj
  have h1v : ∀ v ∈ [Value.int .i64 key], v.oneCell' = true := fun v hv => by simp at hv; subst hv; rfl
  have hvbz := hb.lt
  have hml : (s.xs.map (Value.int .i64)).length = s.xs.length := List.length_map ..
  -- a new row, the key at the end
  have endgrow : ∀ (A : Option Addr) (c : Nat), s.A = A → s.c = c → p = s.xs.length → s.xs.length ≤ c → c < s.xs.length + 1 → (A = none → s.xs.length = 0) → (∀ a, A = some a → ∀ j v, (s.xs.map (Value.int .i64))[j]? = some v → w.cell? (a.add j) = some v) →
      Calls Tryd.prog 18 #[.slice A s.xs.length c, .int .i64 (p : Nat), .slice (some ⟨vb, 0, none⟩) 1 1] w (InsP s (s.xs.take p ++ key :: s.xs.drop p) w) := fun A c _hA _hc hpn hnc hcn hnil hcells => by
    subst hpn
    refine (Any2.slices_Insert_int_end_grow Shl.ins A s.xs.length c vb 0 1 1 (s.xs.map (Value.int .i64)) [.int .i64 key] w (by omega) hnc hcn (by omega) hml rfl hnil hcells hvs h1v).mono ?_
    rintro e w' ⟨rfl, rfl⟩
    have hge := grownCap_ge w (s.xs.length + 1) c 3
    have hle := grownCap_le_maxLen w (s.xs.length + 1) c 3 (by unfold maxLen; omega)
    show InsP _ _ _ (.returned (.slice _ _ (grownCap w (s.xs.length + 1) c 3))) (w.drew.alloc (.cells (_ ++ Builtin.zeroCells _ (grownCap w (s.xs.length + 1) c 3 - (s.xs.length + 1))) 3))
    generalize grownCap w (s.xs.length + 1) c 3 = G at *
    have hnew := heap_alloc_new w.drew (.cells (((s.xs.map (Value.int .i64)) ++ [Value.int .i64 key]).toArray ++ Builtin.zeroCells (Value.int .i64 0).cells (G - (s.xs.length + 1))) 3)
    refine ins_new (Nat.le_refl _) hnew ?_ hge hle (fun i u hu => ?_) ((keptG_drew _ _).trans (keptG_alloc _ _ _))
    · rw [Array.size_append, zeros_size]; simp; omega
    · rw [List.take_of_length_le (by omega), List.drop_eq_nil_of_le (by omega)] at hu
      have hi := (List.getElem?_eq_some_iff.1 hu).1
      refine (cell_block (g := w.heap.size) (i := i) hnew).trans ?_
      rw [Array.getElem?_append_left (by simpa using hi), List.getElem?_toArray, hu]
  rcases h with ⟨hg, hn, hz, A, hA⟩ | ⟨g, hg, hacc⟩
  · simp only [Kd.cell, Value.slice.injEq] at hA
    obtain ⟨hA, hn', hc⟩ := hA
    have hz0 : (s.xs.map (Value.int .i64)) = [] := hz
    rw [hc, hA]
    refine endgrow A 0 hA hc (by omega) (by omega) (by omega) (fun _ => hn) fun a _ j v hj => ?_
    rw [hz0] at hj
    simp at hj
  · obtain ⟨cap, cur, hv, hh, hnc, hcm, hcs, hlen, hcell⟩ := accV_parts hacc
    simp only [Kd.cell, Value.slice.injEq, true_and] at hv
    obtain ⟨hA, hc⟩ := hv
    have hgz := hacc.lt
    have hge : vb ≠ g := fun e => hne (by rw [hg, e]; simp)
    have hcell' : ∀ j v, (s.xs.map (Value.int .i64))[j]? = some v → w.cell? ⟨g, 0 + j, none⟩ = some v := fun j v hj => by rw [Nat.zero_add]; exact hcell j v hj
    have hG : ∃ f ∈ [s.g.toList], g ∈ f := ⟨_, List.mem_singleton.2 rfl, by rw [hg]; simp⟩
    rw [hc, hA]
    rcases Nat.lt_or_ge cap (s.xs.length + 1) with hfull | hroom
    · rcases Nat.lt_or_ge p s.xs.length with hpl | hpl
      · -- a new row, the key ahead of others
        refine (Any2.slices_Insert_int_grow Shl.ins g 0 s.xs.length cap p vb 0 1 1 (s.xs.map (Value.int .i64)) [.int .i64 key] w hpl (by omega) hnc hfull (by omega) hml rfl hcell' hvs (oneC _) h1v).mono ?_
        rintro e w' ⟨rfl, rfl⟩
        have hge' := grownCap_ge w (s.xs.length + 1) cap 3
        have hle := grownCap_le_maxLen w (s.xs.length + 1) cap 3 (by unfold maxLen; omega)
        show InsP _ _ _ (.returned (.slice _ _ (grownCap w (s.xs.length + 1) cap 3))) ((((w.alloc (.cells (_ ++ Builtin.zeroCells _ (grownCap w (s.xs.length + 1) cap 3 - (s.xs.length + 1))) 3)).drew.setCells _ _ _).drew).setCells _ _ _)
        generalize grownCap w (s.xs.length + 1) cap 3 = G at *
        have hnew := heap_alloc_new w (.cells (((s.xs.map (Value.int .i64)).take p).toArray ++ Builtin.zeroCells (Value.int .i64 0).cells (s.xs.length + 1 - p) ++ Builtin.zeroCells (Value.int .i64 0).cells (G - (s.xs.length + 1))) 3)
        have hcur : (((s.xs.map (Value.int .i64)).take p).toArray ++ Builtin.zeroCells (Value.int .i64 0).cells (s.xs.length + 1 - p) ++ Builtin.zeroCells (Value.int .i64 0).cells (G - (s.xs.length + 1))).size = G := by
          rw [Array.size_append, Array.size_append, zeros_size, zeros_size]; simp; omega
        have hfirst : ∀ i u, i < p → (s.xs.map (Value.int .i64))[i]? = some u → (((s.xs.map (Value.int .i64)).take p).toArray ++ Builtin.zeroCells (Value.int .i64 0).cells (s.xs.length + 1 - p) ++ Builtin.zeroCells (Value.int .i64 0).cells (G - (s.xs.length + 1)))[i]? = some u := fun i u hi hu => by
          rw [Array.getElem?_append_left (by rw [Array.size_append]; simp; omega), Array.getElem?_append_left (by simp; omega), List.getElem?_toArray, List.getElem?_take_of_lt hi, hu]
        generalize (((s.xs.map (Value.int .i64)).take p).toArray ++ Builtin.zeroCells (Value.int .i64 0).cells (s.xs.length + 1 - p) ++ Builtin.zeroCells (Value.int .i64 0).cells (G - (s.xs.length + 1))) = C0 at *
        have hk1 : KeptG [s.g.toList] w ((w.alloc (.cells C0 3)).drew) := (keptG_alloc _ _ _).trans (keptG_drew _ _)
        have hnew1 : ((w.alloc (.cells C0 3)).drew).heap[w.heap.size]? = some (.cells C0 3 (0, 0)) := hnew
        generalize (w.alloc (.cells C0 3)).drew = w1 at *
        obtain ⟨C1, hC1, hS1⟩ := heap_setCells w.heap.size [Value.int .i64 key] p w1 _ _ _ hnew1
        obtain ⟨C2, hC2, hS2⟩ := heap_setCells w.heap.size ((s.xs.map (Value.int .i64)).drop p) (p + 1) ((w1.setCells w.heap.size p [Value.int .i64 key]).drew) _ _ _ hC1
        refine ins_new (by omega) hC2 (by omega) hge' hle (fun i u hu => ?_) (keptG_new (Nat.le_refl _) _ _ _ ((keptG_new (Nat.le_refl _) _ _ _ hk1).trans (keptG_drew _ _)))
        rcases mid_at (by omega) hu with ⟨hi, hu⟩ | ⟨rfl, rfl⟩ | ⟨j, rfl, hu, hj⟩
        · rw [World.cell?_setCells_out _ _ _ _ _ (fun _ _ => by left; show i < _; omega)]
          show (w1.setCells w.heap.size p [Value.int .i64 key]).cell? _ = _
          rw [World.cell?_setCells_out _ _ _ _ _ (fun _ _ => by left; exact hi), cell_block hnew1]
          exact hfirst i u hi hu
        · rw [World.cell?_setCells_out _ _ _ _ _ (fun _ _ => by left; show i < _; omega)]
          exact World.cell?_setCells_in w.heap.size [Value.int .i64 key] i w1 (fun j hj => some_block hnew1 (by simp at hj; omega)) 0 (by simp)
        · have hjl := (List.getElem?_eq_some_iff.1 hu)
          obtain ⟨hjl, hju⟩ := hjl
          refine (World.cell?_setCells_in w.heap.size ((s.xs.map (Value.int .i64)).drop p) (p + 1) ((w1.setCells w.heap.size p [Value.int .i64 key]).drew) (fun j hj => some_block (w := (w1.setCells w.heap.size p [Value.int .i64 key]).drew) hC1 (by simp at hj; omega)) j hjl).trans ?_
          rw [hju]
      · obtain rfl : p = s.xs.length := by omega
        refine endgrow (some ⟨g, 0, none⟩) cap hA hc rfl hnc hfull (fun e => by cases e) fun a ha j v hj => ?_
        cases ha
        rw [Addr.add_lit]
        exact hcell' j v hj
    · rcases Nat.lt_or_ge p s.xs.length with hpl | hpl
      · refine (Any2.slices_Insert_int_shift Shl.ins g 0 s.xs.length cap p vb 0 1 1 (s.xs.map (Value.int .i64)) [.int .i64 key] w hpl (by omega) hroom hcm hge hml rfl hcell' (fun j hj => some_block hh (by omega))
          (fun j hj => by simp [World.frozen?, hh]) hvs (oneC _) h1v 3 3 1 cap (by unfold Blk at hb; simp [World.shape?, hb]) (by simp [World.shape?, hh, hcs]) (by omega) (by unfold Blk at hb; simp [World.frozen?, hb]) (by unfold Blk at hb; simp [World.frozen?, hb])).mono ?_
        rintro e w' ⟨rfl, rfl⟩
        rw [Nat.zero_add, Nat.zero_add]
        obtain ⟨C1, hC1, hS1⟩ := heap_setCells g ((s.xs.map (Value.int .i64)).drop p) (p + 1) w.drew _ _ _ hh
        obtain ⟨C2, hC2, hS2⟩ := heap_setCells g [Value.int .i64 key] p _ _ _ _ hC1
        refine ins_room (by omega) hg hC2 (by omega) hroom hcm (fun i u hu => ?_) ((keptG_drew _ _).trans ((keptG_row hG _ _ _).trans (keptG_row hG _ _ _)))
        rcases mid_at (by omega) hu with ⟨hi, hu⟩ | ⟨rfl, rfl⟩ | ⟨j, rfl, hu, hj⟩
        · rw [World.cell?_setCells_out _ _ _ _ _ (fun _ _ => by left; exact hi), World.cell?_setCells_out _ _ _ _ _ (fun _ _ => by left; show i < _; omega)]
          exact hcell i u hu
        · exact World.cell?_setCells_in g [Value.int .i64 key] i _ (fun j hj => some_block hC1 (by simp at hj; omega)) 0 (by simp)
        · obtain ⟨hjl, hju⟩ := (List.getElem?_eq_some_iff.1 hu)
          rw [World.cell?_setCells_out _ _ _ _ _ (fun _ _ => by right; show p + 1 ≤ p + 1 + j; omega), World.cell?_setCells_in g ((s.xs.map (Value.int .i64)).drop p) (p + 1) w.drew (fun j hj => some_block (w := w.drew) hh (by simp at hj; omega)) j hjl, hju]
      · obtain rfl : p = s.xs.length := by omega
        refine (Any2.slices_Insert_int_end_room Shl.ins g 0 s.xs.length cap vb 0 1 1 [.int .i64 key] w (by omega) hroom hcm rfl (fun j hj => some_block hh (by omega)) (fun j hj => by simp [World.frozen?, hh]) hvs h1v).mono ?_
        rintro e w' ⟨rfl, rfl⟩
        rw [Nat.zero_add]
        obtain ⟨C1, hC1, hS1⟩ := heap_setCells g [Value.int .i64 key] s.xs.length w _ _ _ hh
        refine ins_room (Nat.le_refl _) hg hC1 (by omega) hroom hcm (fun i u hu => ?_) (keptG_row hG _ _ _)
        rcases mid_at (by omega) hu with ⟨hi, hu⟩ | ⟨rfl, rfl⟩ | ⟨j, rfl, hu, hj⟩
        · rw [World.cell?_setCells_out _ _ _ _ _ (fun _ _ => by left; exact hi)]
          exact hcell i u hu
        · exact World.cell?_setCells_in g [Value.int .i64 key] s.xs.length w (fun j hj => some_block hh (by simp at hj; omega)) 0 (by simp)
        · omega

end Im8
end Go.Proofs.YtecdoibdpimlaabDoor
