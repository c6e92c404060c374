/-
  Pools and mixes that a call owns: each slice in a block of its own. Nothing of any program.
-/
import Derived.Test.YtnjcpbkpcmemeacMx
namespace Go.Proofs.Ytnjcpbkpcmemeac
open Go.RowKit
namespace Sl
open Il Pm Pq Hlp5

def fp (n b : Nat) : List Nat := if n = 0 then [] else [b]
theorem mem_fp {n b x : Nat} : x ∈ fp n b ↔ 0 < n ∧ x = b := by
  unfold fp
  by_cases h : n = 0
  · simp [h]
  · simp [h]; omega
theorem fp_nodup (n b : Nat) : (fp n b).Nodup := by unfold fp; split <;> simp
def fpS (s : Slot) : List Nat := fp s.p.pk.hd.length s.h ++ fp s.p.pk.bd.length s.g
def Disj (f g : List Nat) : Prop := ∀ x, x ∈ f → x ∈ g → False
def Foot (G : List (List Nat)) : Prop := G.Pairwise Disj ∧ ∀ f ∈ G, f.Nodup
def Within (lo hi : Nat) (G : List (List Nat)) : Prop := ∀ f ∈ G, ∀ x ∈ f, lo ≤ x ∧ x < hi
/-- Of the blocks that were there, only those of G may have turned. -/
structure KeptG (G : List (List Nat)) (w w' : World) : Prop where
  os : w'.os = w.os
  tape : w'.tape = w.tape
  output : w'.output = w.output
  size : w.heap.size ≤ w'.heap.size
  block : ∀ b, b < w.heap.size → (∀ f ∈ G, b ∉ f) → w'.heap[b]? = w.heap[b]?
def SlotO (w : World) (s : Slot) : Prop := Il.Own s.h (s.h + 1) w s.A s.p.pk.hd.length s.c s.p.pk.hd ∧ Il.Own s.g (s.g + 1) w s.B s.p.pk.bd.length s.d s.p.pk.bd
/-- A pool of the call's own: where the slice and each packet's slices lie. -/
def PoolO (w : World) (A : Option Addr) (n c : Nat) (ps : List Pld) (G : List (List Nat)) : Prop :=
  ∃ (b : Nat) (ss : List Slot), ss.map (·.p) = ps ∧ RowO b (b + 1) w A n c 6 (ss.flatMap Slot.cells) ∧ (∀ s ∈ ss, SlotO w s) ∧ G = fp n b :: ss.map fpS ∧ Foot G
def MixO (w : World) (A : Option Addr) (n c : Nat) (B : Option Addr) (m d : Nat) (x : Mx) (G : List (List Nat)) : Prop :=
  ∃ a H, Il.Own a (a + 1) w A n c x.seen ∧ PoolO w B m d x.pool H ∧ G = fp n a :: H ∧ Foot G

theorem own_keepC {b n c : Nat} {w w' : World} {A : Option Addr} {xs : List Int} (h : Il.Own b (b + 1) w A n c xs) (hs : w.heap.size ≤ w'.heap.size) (hk : 0 < n → w'.heap[b]? = w.heap[b]?) : Il.Own b (b + 1) w' A n c xs := by
  rcases Nat.eq_zero_or_pos n with rfl | hn
  · exact ⟨⟨h.1.1, h.1.2.1, h.1.2.2.1, fun h => absurd h (by omega)⟩, fun _ _ h => absurd h (by omega)⟩
  · exact h.keep hs fun b' q1 q2 _ => by obtain rfl : b' = b := by omega
                                         exact hk hn
theorem rowO_keepC {b n c sz : Nat} {w w' : World} {A : Option Addr} {vs : List Value} (h : RowO b (b + 1) w A n c sz vs) (hs : w.heap.size ≤ w'.heap.size) (hk : 0 < n → w'.heap[b]? = w.heap[b]?) : RowO b (b + 1) w' A n c sz vs := by
  rcases Nat.eq_zero_or_pos n with rfl | hn
  · exact ⟨⟨h.1.1, h.1.2.1, h.1.2.2.1, fun h => absurd h (by omega)⟩, fun _ _ h => absurd h (by omega)⟩
  · exact h.keep hs fun b' q1 q2 _ => by obtain rfl : b' = b := by omega
                                         exact hk hn
theorem own_ltC {b n c : Nat} {w : World} {A : Option Addr} {xs : List Int} (h : Il.Own b (b + 1) w A n c xs) (hn : 0 < n) : b < w.heap.size := by
  obtain ⟨b', off, e, q1, q2, q3, q4⟩ := h.1.2.2.2 hn
  omega
theorem rowO_ltC {b n c sz : Nat} {w : World} {A : Option Addr} {vs : List Value} (h : RowO b (b + 1) w A n c sz vs) (hn : 0 < n) : b < w.heap.size := by
  obtain ⟨b', off, e, q1, q2, q3, q4⟩ := h.1.2.2.2 hn
  omega
theorem ints_in {b lo hi n c : Nat} {w : World} {A : Option Addr} {xs : List Int} (h : Ints b (b + 1) w A n c xs) (hr : 0 < n → lo ≤ b ∧ b < hi) : Ints lo hi w A n c xs :=
  ⟨h.1, h.2.1, h.2.2.1, fun hn => by
    obtain ⟨b', off, e, h1, h2, hz, hc⟩ := h.2.2.2 hn
    have := hr hn
    exact ⟨b', off, e, by omega, by omega, hz, hc⟩⟩
theorem row_in {b lo hi n c sz : Nat} {w : World} {A : Option Addr} {vs : List Value} (h : Row b (b + 1) w A n c sz vs) (hr : 0 < n → lo ≤ b ∧ b < hi) : Row lo hi w A n c sz vs :=
  ⟨h.1, h.2.1, h.2.2.1, fun hn => by
    obtain ⟨b', off, e, h1, h2, hz, hc⟩ := h.2.2.2 hn
    have := hr hn
    exact ⟨b', off, e, by omega, by omega, hz, hc⟩⟩
theorem SlotO.keepC {w w' : World} {s : Slot} (h : SlotO w s) (hs : w.heap.size ≤ w'.heap.size) (hk : ∀ x ∈ fpS s, w'.heap[x]? = w.heap[x]?) : SlotO w' s :=
  ⟨own_keepC h.1 hs fun hn => hk _ (List.mem_append.2 (.inl (mem_fp.2 ⟨hn, rfl⟩))), own_keepC h.2 hs fun hn => hk _ (List.mem_append.2 (.inr (mem_fp.2 ⟨hn, rfl⟩)))⟩

section
variable {w w' : World} {A B : Option Addr} {n c m d : Nat} {ps : List Pld} {x : Mx} {G : List (List Nat)}
theorem PoolO.keep (h : PoolO w A n c ps G) (hs : w.heap.size ≤ w'.heap.size) (hk : ∀ f ∈ G, ∀ x ∈ f, w'.heap[x]? = w.heap[x]?) : PoolO w' A n c ps G := by
  obtain ⟨b, ss, h1, h2, h3, rfl, h5⟩ := h
  refine ⟨b, ss, h1, rowO_keepC h2 hs fun hn => hk _ List.mem_cons_self _ (mem_fp.2 ⟨hn, rfl⟩), fun s hs' => (h3 s hs').keepC hs fun x hx => hk _ (List.mem_cons_of_mem _ (List.mem_map_of_mem hs')) x hx, rfl, h5⟩
theorem MixO.keep (h : MixO w A n c B m d x G) (hs : w.heap.size ≤ w'.heap.size) (hk : ∀ f ∈ G, ∀ x ∈ f, w'.heap[x]? = w.heap[x]?) : MixO w' A n c B m d x G := by
  obtain ⟨a, H, h1, h2, rfl, h4⟩ := h
  exact ⟨a, H, own_keepC h1 hs fun hn => hk _ List.mem_cons_self _ (mem_fp.2 ⟨hn, rfl⟩), h2.keep hs fun f hf => hk f (List.mem_cons_of_mem _ hf), rfl, h4⟩
theorem PoolO.lt_ (h : PoolO w A n c ps G) : Within 0 w.heap.size G := by
  obtain ⟨b, ss, h1, h2, h3, rfl, h5⟩ := h
  intro f hf x hx
  rcases List.mem_cons.1 hf with rfl | hf
  · obtain ⟨hn, rfl⟩ := mem_fp.1 hx
    exact ⟨Nat.zero_le _, rowO_ltC h2 hn⟩
  · obtain ⟨s, hs, rfl⟩ := List.mem_map.1 hf
    rcases List.mem_append.1 hx with hx | hx
    · obtain ⟨hn, rfl⟩ := mem_fp.1 hx
      exact ⟨Nat.zero_le _, own_ltC (h3 s hs).1 hn⟩
    · obtain ⟨hn, rfl⟩ := mem_fp.1 hx
      exact ⟨Nat.zero_le _, own_ltC (h3 s hs).2 hn⟩
theorem MixO.lt_ (h : MixO w A n c B m d x G) : Within 0 w.heap.size G := by
  obtain ⟨a, H, h1, h2, rfl, h4⟩ := h
  intro f hf x hx
  rcases List.mem_cons.1 hf with rfl | hf
  · obtain ⟨hn, rfl⟩ := mem_fp.1 hx
    exact ⟨Nat.zero_le _, own_ltC h1 hn⟩
  · exact h2.lt_ f hf x hx
theorem PoolO.below {K : Nat} (h : PoolO w A n c ps G) (hb : Below K w w') (hB : w.heap.size ≤ K) : PoolO w' A n c ps G :=
  h.keep hb.size fun f hf x hx => hb.block x (by have := h.lt_ f hf x hx; omega)
theorem MixO.below {K : Nat} (h : MixO w A n c B m d x G) (hb : Below K w w') (hB : w.heap.size ≤ K) : MixO w' A n c B m d x G :=
  h.keep hb.size fun f hf x hx => hb.block x (by have := h.lt_ f hf x hx; omega)
/-- What is owned can be read. -/
theorem PoolO.pool {lo hi : Nat} (h : PoolO w A n c ps G) (hw : Within lo hi G) : Pool lo hi w A n c ps := by
  obtain ⟨b, ss, h1, h2, h3, rfl, h5⟩ := h
  refine ⟨ss, h1, row_in h2.1 fun hn => hw _ List.mem_cons_self _ (mem_fp.2 ⟨hn, rfl⟩), fun s hs => ⟨ints_in (h3 s hs).1.1 fun hn => ?_, ints_in (h3 s hs).2.1 fun hn => ?_⟩⟩
  · exact hw _ (List.mem_cons_of_mem _ (List.mem_map_of_mem hs)) _ (List.mem_append.2 (.inl (mem_fp.2 ⟨hn, rfl⟩)))
  · exact hw _ (List.mem_cons_of_mem _ (List.mem_map_of_mem hs)) _ (List.mem_append.2 (.inr (mem_fp.2 ⟨hn, rfl⟩)))
theorem MixO.mix {lo hi : Nat} (h : MixO w A n c B m d x G) (hw : Within lo hi G) : MixR lo hi w A n c B m d x := by
  obtain ⟨a, H, h1, h2, rfl, h4⟩ := h
  exact ⟨ints_in h1.1 fun hn => hw _ List.mem_cons_self _ (mem_fp.2 ⟨hn, rfl⟩), h2.pool fun f hf => hw f (List.mem_cons_of_mem _ hf)⟩
theorem PoolO.foot (h : PoolO w A n c ps G) : Foot G := by obtain ⟨b, ss, h1, h2, h3, rfl, h5⟩ := h; exact h5
theorem MixO.foot (h : MixO w A n c B m d x G) : Foot G := by obtain ⟨a, H, h1, h2, rfl, h4⟩ := h; exact h4
theorem PoolO.len_ (h : PoolO w A n c ps G) : ps.length = n := by
  obtain ⟨b, ss, rfl, h2, h3, rfl, h5⟩ := h
  have := h2.1.1
  rw [flat_len cells_len] at this
  rw [List.length_map]; omega
theorem PoolO.nil_ (hc : c ≤ maxLen) : PoolO w A 0 c [] [[]] := ⟨0, [], rfl, RowO.nil_ hc, fun _ h => by simp at h, rfl, by simp, by simp⟩
end

section
variable {lo hi lo2 hi2 : Nat} {w w' : World} {A B : Option Addr} {n c m d : Nat} {ps : List Pld} {x : Mx} {G : List (List Nat)}
theorem MixR.below {K : Nat} (h : MixR lo hi w A n c B m d x) (hb : Below K w w') (hB : w.heap.size ≤ K) : MixR lo hi w' A n c B m d x := ⟨h.1.below hb hB, h.2.below hb hB⟩
theorem MixR.keys (h : MixR lo hi w A n c B m d x) : Ints lo hi w A n c x.seen := h.1
theorem MixR.pl (h : MixR lo hi w A n c B m d x) : Pool lo hi w B m d x.pool := h.2
theorem MixR.top (h : MixR lo hi w A n c B m d x) (hl : lo2 ≤ lo) : MixR lo2 w.heap.size w A n c B m d x := ⟨ints_top' h.1 hl, h.2.top hl⟩
theorem keptG_at (hk : KeptG G w w') (hw : Within lo2 hi2 G) (b : Nat) (hb : b < w.heap.size) (hd : b < lo2 ∨ hi2 ≤ b) : w'.heap[b]? = w.heap[b]? :=
  hk.block b hb fun f hf hm => by have := hw f hf b hm; omega
theorem Pool.keptG (h : Pool lo hi w A n c ps) (hk : KeptG G w w') (hw : Within lo2 hi2 G) (hd : hi ≤ lo2 ∨ hi2 ≤ lo) : Pool lo hi w' A n c ps := h.keep hk.size fun b h1 h2 h3 => keptG_at hk hw b h3 (by omega)
theorem ints_keptG {xs : List Int} (h : Ints lo hi w A n c xs) (hk : KeptG G w w') (hw : Within lo2 hi2 G) (hd : hi ≤ lo2 ∨ hi2 ≤ lo) : Ints lo hi w' A n c xs := h.keep hk.size fun b h1 h2 h3 => keptG_at hk hw b h3 (by omega)
theorem MixR.keptG (h : MixR lo hi w A n c B m d x) (hk : KeptG G w w') (hw : Within lo2 hi2 G) (hd : hi ≤ lo2 ∨ hi2 ≤ lo) : MixR lo hi w' A n c B m d x := ⟨ints_keptG h.1 hk hw hd, h.2.keptG hk hw hd⟩
theorem MixO.keptG {H : List (List Nat)} (h : MixO w A n c B m d x H) (hk : KeptG G w w') (hw : Within lo2 hi2 G) (hh : Within lo hi H) (hd : hi ≤ lo2 ∨ hi2 ≤ lo) : MixO w' A n c B m d x H :=
  h.keep hk.size fun f hf y hy => keptG_at hk hw y (h.lt_ f hf y hy).2 (by have := hh f hf y hy; omega)
theorem PoolO.keptG {H : List (List Nat)} (h : PoolO w A n c ps H) (hk : KeptG G w w') (hw : Within lo2 hi2 G) (hh : Within lo hi H) (hd : hi ≤ lo2 ∨ hi2 ≤ lo) : PoolO w' A n c ps H :=
  h.keep hk.size fun f hf y hy => keptG_at hk hw y (h.lt_ f hf y hy).2 (by have := hh f hf y hy; omega)
theorem blk_keptG {b : Nat} {cs : Array Value} {t : TypeId} (h : Blk w b cs t) (hk : KeptG G w w') (hw : Within lo2 hi2 G) (hd : b < lo2 ∨ hi2 ≤ b) : Blk w' b cs t := (keptG_at hk hw b (Array.getElem?_eq_some_iff.1 h).1 hd).trans h
theorem below_keptG {K : Nat} {w0 : World} (h : Below K w0 w) (hk : KeptG G w w') (hw : Within lo2 hi2 G) (hs : K ≤ w.heap.size) (hd : K ≤ lo2) : Below K w0 w' :=
  ⟨hk.os.trans h.os, hk.tape.trans h.tape, hk.output.trans h.output, Nat.le_trans h.size hk.size, fun b hb => (keptG_at hk hw b (by omega) (by omega)).trans (h.block b hb)⟩
end

theorem RowO.set_ {lo hi b off n c sz i : Nat} {w : World} {vs : List Value} (h : RowO lo hi w (some ⟨b, off, none⟩) n c sz vs) (hi' : i < n * sz) (v : Value) :
    RowO lo hi (w.setCell ⟨b, off + i, none⟩ v) (some ⟨b, off, none⟩) n c sz (vs.set i v) := by
  have hl := h.1.1
  have hn : 0 < n := by
    rcases Nat.eq_zero_or_pos n with rfl | h
    · omega
    · exact h
  obtain ⟨b', off', e, hb, hb', hz, hc⟩ := h.1.2.2.2 hn
  simp only [Option.some.injEq, Addr.mk.injEq, and_true] at e
  obtain ⟨rfl, rfl⟩ := e
  refine ⟨⟨by rw [List.length_set]; exact hl, h.1.2.1, h.1.2.2.1, fun _ => ⟨b, off, rfl, hb, hb', by simpa [World.setCell] using hz, fun j u hj => ?_⟩⟩, fun b2 off2 hn e j hj => ?_⟩
  · have hjl : j < vs.length := by
      have := (List.getElem?_eq_some_iff.1 hj).1
      rwa [List.length_set] at this
    by_cases hji : j = i
    · subst hji
      rw [List.getElem?_set_self hjl] at hj
      rw [World.cell?_setCell_same _ _ _ (hc j _ (List.getElem?_eq_getElem hjl))]
      exact hj
    · rw [List.getElem?_set_ne (by omega)] at hj
      rw [World.cell?_setCell_other w _ _ _ (by simp only [ne_eq, Addr.mk.injEq, true_and, and_true]; omega)]
      exact hc j u hj
  · simp only [Option.some.injEq, Addr.mk.injEq, and_true] at e
    obtain ⟨rfl, rfl⟩ := e
    rw [World.frozen?_setCell]
    exact h.2 b off hn rfl j hj

/-- Four cells of one place are written. -/
theorem flat_sets {ss : List Slot} {k : Nat} {s s' : Slot} {v0 v1 v2 v4 : Value} (hx : ss[k]? = some s) (e : s'.cells = [v0, v1, v2, .slice s.A s.p.pk.hd.length s.c, v4, .slice s.B s.p.pk.bd.length s.d]) :
    ((((ss.flatMap Slot.cells).set (k * 6) v0).set (k * 6 + 1) v1).set (k * 6 + 2) v2).set (k * 6 + 4) v4 = (ss.set k s').flatMap Slot.cells := by
  induction ss generalizing k with
  | nil => simp at hx
  | cons y ys ih =>
    cases k with
    | zero =>
      simp only [List.getElem?_cons_zero, Option.some.injEq] at hx
      subst hx
      rw [List.set_cons_zero, List.flatMap_cons, List.flatMap_cons, e]
      rfl
    | succ k =>
      rw [List.getElem?_cons_succ] at hx
      have h6 : y.cells.length = 6 := rfl
      rw [List.set_cons_succ, List.flatMap_cons, List.flatMap_cons, ← ih hx]
      rw [List.set_append_right _ _ (by rw [h6]; omega), List.set_append_right _ _ (by rw [h6]; omega), List.set_append_right _ _ (by rw [h6]; omega), List.set_append_right _ _ (by rw [h6]; omega), h6]
      have q0 : (k + 1) * 6 - 6 = k * 6 := by omega
      have q1 : (k + 1) * 6 + 1 - 6 = k * 6 + 1 := by omega
      have q2 : (k + 1) * 6 + 2 - 6 = k * 6 + 2 := by omega
      have q4 : (k + 1) * 6 + 4 - 6 = k * 6 + 4 := by omega
      rw [q0, q1, q2, q4]

/-- What marking makes of a packet, and of a pool. -/
def markPld (k : Int) (p : Pld) : Pld := ⟨k, k + 1, ⟨k + 2, marks (k + 3) p.pk.hd.length, k + 3 + p.pk.hd.length, marks (k + 4 + p.pk.hd.length) p.pk.bd.length⟩⟩
def weight (p : Pld) : Nat := 4 + p.pk.hd.length + p.pk.bd.length
def total (ps : List Pld) : Nat := (ps.map weight).sum
def markPool : Int → List Pld → List Pld
  | _, [] => []
  | k, p :: ps => markPld k p :: markPool (k + weight p) ps
theorem markPool_len (k : Int) (ps : List Pld) : (markPool k ps).length = ps.length := by
  induction ps generalizing k with
  | nil => rfl
  | cons p ps ih => simp [markPool, ih]
theorem total_take {ps : List Pld} {j : Nat} (h : j < ps.length) : total (ps.take (j + 1)) = total (ps.take j) + weight (pldAt ps j) := by
  unfold total pldAt
  rw [List.take_succ_eq_append_getElem h, List.map_append, List.sum_append, List.getD_eq_getElem?_getD, List.getElem?_eq_getElem h]
  simp
theorem total_le {ps : List Pld} (j : Nat) : total (ps.take j) ≤ total ps := by
  unfold total
  rw [← List.take_append_drop j ps, List.map_append, List.sum_append, List.take_append_drop]
  omega
theorem markPool_snoc (k : Int) (ps : List Pld) (p : Pld) : markPool k (ps ++ [p]) = markPool k ps ++ [markPld (k + total ps) p] := by
  induction ps generalizing k with
  | nil => simp [markPool, total]
  | cons q ps ih =>
    simp only [List.cons_append, markPool, ih]
    have : k + ↑(weight q) + ↑(total ps) = k + ↑(total (q :: ps)) := by unfold total; simp; omega
    rw [this]
theorem marked_step {ps : List Pld} {j : Nat} (k : Int) (h : j < ps.length) : (markPool k (ps.take j) ++ ps.drop j).set j (markPld (k + total (ps.take j)) (pldAt ps j)) = markPool k (ps.take (j + 1)) ++ ps.drop (j + 1) := by
  have hl : (markPool k (ps.take j)).length = j := by rw [markPool_len, List.length_take]; omega
  rw [List.set_append_right _ _ (by omega), hl, Nat.sub_self, List.drop_eq_getElem_cons h, List.set_cons_zero, List.take_succ_eq_append_getElem h, markPool_snoc, List.append_assoc]
  unfold pldAt
  rw [List.getD_eq_getElem?_getD, List.getElem?_eq_getElem h]
  rfl

/-- A pool laid open at one of its places. -/
theorem PoolO.open_ {w : World} {A : Option Addr} {n c k : Nat} {ps : List Pld} {G : List (List Nat)} (h : PoolO w A n c ps G) (hk : k < n) :
    ∃ (b off : Nat) (ss : List Slot) (s : Slot), A = some ⟨b, off, none⟩ ∧ ss.map (·.p) = ps ∧ ss[k]? = some s ∧ s.p = pldAt ps k ∧ RowO b (b + 1) w (some ⟨b, off, none⟩) n c 6 (ss.flatMap Slot.cells) ∧ (∀ s ∈ ss, SlotO w s) ∧ G = fp n b :: ss.map fpS ∧ Foot G := by
  have hl := h.len_
  obtain ⟨b, ss, rfl, h2, h3, rfl, h5⟩ := h
  rw [List.length_map] at hl
  obtain ⟨b', off, rfl, q1, q2, _, _⟩ := h2.1.2.2.2 (by omega)
  obtain rfl : b' = b := by omega
  refine ⟨b', off, ss, ss[k]'(by omega), rfl, rfl, List.getElem?_eq_getElem (by omega), ?_, h2, h3, rfl, h5⟩
  unfold pldAt
  rw [List.getD_eq_getElem?_getD, List.getElem?_map, List.getElem?_eq_getElem (by omega)]
  rfl
theorem row_cells {b off n c k : Nat} {w : World} {ss : List Slot} {s : Slot} (h : RowO b (b + 1) w (some ⟨b, off, none⟩) n c 6 (ss.flatMap Slot.cells)) (hk : k < n) (hx : ss[k]? = some s) :
    (w.cell? ⟨b, off + k * 6, none⟩ = some (.int .i64 s.p.kind) ∧ w.cell? ⟨b, off + k * 6 + 1, none⟩ = some (.int .i64 s.p.next) ∧ w.cell? ⟨b, off + k * 6 + 2, none⟩ = some (.int .i64 s.p.pk.el) ∧
    w.cell? ⟨b, off + k * 6 + 3, none⟩ = some (.slice s.A s.p.pk.hd.length s.c) ∧ w.cell? ⟨b, off + k * 6 + 4, none⟩ = some (.int .i64 s.p.pk.tag) ∧ w.cell? ⟨b, off + k * 6 + 5, none⟩ = some (.slice s.B s.p.pk.bd.length s.d)) ∧
    w.frozen? ⟨b, off + k * 6, none⟩ = false ∧ w.frozen? ⟨b, off + k * 6 + 1, none⟩ = false ∧ w.frozen? ⟨b, off + k * 6 + 2, none⟩ = false ∧ w.frozen? ⟨b, off + k * 6 + 3, none⟩ = false ∧ w.frozen? ⟨b, off + k * 6 + 4, none⟩ = false ∧ w.frozen? ⟨b, off + k * 6 + 5, none⟩ = false := by
  obtain ⟨b', off', e, _, _, _, hc⟩ := h.1.2.2.2 (by omega)
  simp only [Option.some.injEq, Addr.mk.injEq, and_true] at e
  obtain ⟨rfl, rfl⟩ := e
  have hcell : ∀ i v, i < 6 → s.cells[i]? = some v → w.cell? ⟨b, off + k * 6 + i, none⟩ = some v := fun i v hi hv => by
    rw [Nat.add_assoc]
    exact hc _ v (by rw [flat_at cells_len hx hi]; exact hv)
  have hfz : ∀ i, i < 6 → w.frozen? ⟨b, off + k * 6 + i, none⟩ = false := fun i hi => by
    rw [Nat.add_assoc]
    exact h.2 b off (by omega) rfl _ (by omega)
  exact ⟨⟨hcell 0 _ (by omega) rfl, hcell 1 _ (by omega) rfl, hcell 2 _ (by omega) rfl, hcell 3 _ (by omega) rfl, hcell 4 _ (by omega) rfl, hcell 5 _ (by omega) rfl⟩, hfz 0 (by omega), hfz 1 (by omega), hfz 2 (by omega), hfz 3 (by omega), hfz 4 (by omega), hfz 5 (by omega)⟩
theorem foot_at {n b : Nat} {ss : List Slot} (h : Foot (fp n b :: ss.map fpS)) {k : Nat} {s : Slot} (hx : ss[k]? = some s) (hn : 0 < n) :
    (0 < s.p.pk.hd.length → s.h ≠ b) ∧ (0 < s.p.pk.bd.length → s.g ≠ b) ∧ (0 < s.p.pk.hd.length → 0 < s.p.pk.bd.length → s.h ≠ s.g) ∧
    ∀ (j : Nat) (t : Slot), ss[j]? = some t → j ≠ k → ∀ x ∈ fpS t, x ≠ b ∧ (0 < s.p.pk.hd.length → x ≠ s.h) ∧ (0 < s.p.pk.bd.length → x ≠ s.g) := by
  obtain ⟨hp, hd⟩ := h
  rw [List.pairwise_cons] at hp
  obtain ⟨hp1, hp2⟩ := hp
  have hmem : ∀ t ∈ ss, ∀ x ∈ fpS t, x ≠ b := fun t ht x hx e => hp1 _ (List.mem_map_of_mem ht) b (mem_fp.2 ⟨hn, rfl⟩) (e ▸ hx)
  have hs := List.mem_of_getElem? hx
  refine ⟨fun q => hmem s hs _ (List.mem_append.2 (.inl (mem_fp.2 ⟨q, rfl⟩))), fun q => hmem s hs _ (List.mem_append.2 (.inr (mem_fp.2 ⟨q, rfl⟩))), fun q1 q2 e => ?_, fun j t ht hne x hxt => ⟨hmem t (List.mem_of_getElem? ht) x hxt, ?_⟩⟩
  · have hnd := hd _ (List.mem_cons_of_mem _ (List.mem_map_of_mem hs))
    have h1 : fpS s = [s.h, s.g] := by
      unfold fpS fp
      rw [if_neg (by omega), if_neg (by omega)]
      rfl
    rw [h1, e] at hnd
    simp at hnd
  · have hdis : Disj (fpS t) (fpS s) := by
      have hj := (List.getElem?_eq_some_iff.1 ht).1
      have hk := (List.getElem?_eq_some_iff.1 hx).1
      have e1 : (ss.map fpS)[j]'(by simpa using hj) = fpS t := by simp [(List.getElem?_eq_some_iff.1 ht).2]
      have e2 : (ss.map fpS)[k]'(by simpa using hk) = fpS s := by simp [(List.getElem?_eq_some_iff.1 hx).2]
      rcases Nat.lt_or_ge j k with q | q
      · have := (List.pairwise_iff_getElem.1 hp2) j k (by simpa using hj) (by simpa using hk) q
        rwa [e1, e2] at this
      · have := (List.pairwise_iff_getElem.1 hp2) k j (by simpa using hk) (by simpa using hj) (by omega)
        rw [e1, e2] at this
        exact fun x q1 q2 => this x q2 q1
    exact ⟨fun q e => hdis x hxt (List.mem_append.2 (.inl (mem_fp.2 ⟨q, e⟩))), fun q e => hdis x hxt (List.mem_append.2 (.inr (mem_fp.2 ⟨q, e⟩)))⟩
/-- A pool put together again, one of its places changed. -/
theorem PoolO.put {w w' : World} {b off n c k : Nat} {ss : List Slot} {s : Slot} {p' : Pld} (h3 : ∀ s ∈ ss, SlotO w s) (h5 : Foot (fp n b :: ss.map fpS)) (hx : ss[k]? = some s) (hn : 0 < n)
    (hr : RowO b (b + 1) w' (some ⟨b, off, none⟩) n c 6 ((ss.set k ⟨p', s.A, s.c, s.B, s.d, s.h, s.g⟩).flatMap Slot.cells)) (e1 : p'.pk.hd.length = s.p.pk.hd.length) (e2 : p'.pk.bd.length = s.p.pk.bd.length)
    (ho : SlotO w' ⟨p', s.A, s.c, s.B, s.d, s.h, s.g⟩) (hs : w.heap.size ≤ w'.heap.size) (hk : ∀ x, x < w.heap.size → x ≠ b → (0 < s.p.pk.hd.length → x ≠ s.h) → (0 < s.p.pk.bd.length → x ≠ s.g) → w'.heap[x]? = w.heap[x]?) :
    PoolO w' (some ⟨b, off, none⟩) n c ((ss.map (·.p)).set k p') (fp n b :: ss.map fpS) := by
  have hkl := (List.getElem?_eq_some_iff.1 hx).1
  refine ⟨b, ss.set k ⟨p', s.A, s.c, s.B, s.d, s.h, s.g⟩, by rw [List.map_set], hr, fun t ht => ?_, ?_, h5⟩
  · obtain ⟨j, hj, e⟩ := List.getElem_of_mem ht
    rw [List.length_set] at hj
    by_cases hjk : j = k
    · subst hjk
      rw [List.getElem_set_self] at e
      rw [← e]; exact ho
    · rw [List.getElem_set_ne (by omega)] at e
      have htj : ss[j]? = some t := by rw [List.getElem?_eq_getElem hj, e]
      have hto := h3 t (List.mem_of_getElem? htj)
      refine hto.keepC hs fun x hxt => ?_
      obtain ⟨q1, q2, q3⟩ := (foot_at h5 hx hn).2.2.2 j t htj hjk x hxt
      refine hk x ?_ q1 q2 q3
      rcases List.mem_append.1 hxt with hx2 | hx2
      · obtain ⟨hn2, rfl⟩ := mem_fp.1 hx2
        exact own_ltC hto.1 hn2
      · obtain ⟨hn2, rfl⟩ := mem_fp.1 hx2
        exact own_ltC hto.2 hn2
  · rw [List.map_set]
    congr 1
    have hfe : fpS ⟨p', s.A, s.c, s.B, s.d, s.h, s.g⟩ = fpS s := by unfold fpS; rw [e1, e2]
    rw [hfe]
    apply List.ext_getElem?
    intro i
    by_cases hik : i = k
    · subst hik
      rw [List.getElem?_set_self (by simpa using hkl), List.getElem?_map, hx]
      rfl
    · rw [List.getElem?_set_ne (by omega)]

end Sl
end Go.Proofs.Ytnjcpbkpcmemeac
