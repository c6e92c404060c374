/-
  Pools that a call gathers by append.
-/
import Derived.Test.YtnjcpbkpcmemeacAv
import Derived.Test.YtnjcpbkpcmemeacSlo
namespace Go.Proofs.Ytnjcpbkpcmemeac
open Go.RowKit
namespace Sl
open Il Pm Pq Hlp5

theorem infoPld : (Try.prog.info? 39).map (fun i => (i.zero, i.size, i.bytes)) = some (some (.agg #[.int .i64 0, .int .i64 0, .int .i64 0, .slice none 0 0, .int .i64 0, .slice none 0 0]), 6, 80) := by kernel_rfl
theorem elPld : ElT 24 39 (.agg #[.int .i64 0, .int .i64 0, .int .i64 0, .slice none 0 0, .int .i64 0, .slice none 0 0]) 6 80 := ⟨Try.underlying24, infoPld, rfl, by omega, by omega⟩
theorem cells_one (s : Slot) : ∀ u ∈ s.cells, u.oneCell' = true := by
  intro u hu
  simp only [Slot.cells, List.mem_cons, List.not_mem_nil, or_false] at hu
  rcases hu with rfl | rfl | rfl | rfl | rfl | rfl <;> rfl
theorem flat_one (ss : List Slot) : ∀ u ∈ ss.flatMap Slot.cells, u.oneCell' = true := by
  intro u hu
  obtain ⟨s, _, h⟩ := List.mem_flatMap.1 hu
  exact cells_one s u h

/-- The pool v, gathered, holds ps; all of its blocks are as Pr says. -/
def GatQ (Pr : Nat → Prop) (w : World) (v : Value) (ps : List Pld) : Prop :=
  ∃ (k : Nat) (ss : List Slot), AccV 39 6 k w v ps.length (ss.flatMap Slot.cells) ∧ ss.map (·.p) = ps ∧ (∀ s ∈ ss, SlotO w s) ∧ Foot ([k] :: ss.map fpS) ∧ ∀ f ∈ ([k] :: ss.map fpS), ∀ x ∈ f, Pr x
/-- The pool v, gathered from lo on, holds ps; all of it lies below hi. -/
def GatP (lo hi : Nat) (w : World) (v : Value) (ps : List Pld) : Prop :=
  ∃ (k : Nat) (ss : List Slot), AccV 39 6 k w v ps.length (ss.flatMap Slot.cells) ∧ ss.map (·.p) = ps ∧ (∀ s ∈ ss, SlotO w s) ∧ Foot ([k] :: ss.map fpS) ∧ Within lo hi ([k] :: ss.map fpS)
section
variable {lo hi : Nat} {w w' : World} {v : Value} {ps : List Pld}
theorem slot_lt {s : Slot} (h : SlotO w s) : ∀ x ∈ fpS s, x < w.heap.size := fun x hx => by
  rcases List.mem_append.1 hx with hx | hx
  · obtain ⟨hn, rfl⟩ := mem_fp.1 hx
    exact own_ltC h.1 hn
  · obtain ⟨hn, rfl⟩ := mem_fp.1 hx
    exact own_ltC h.2 hn
theorem GatP.keep (h : GatP lo hi w v ps) (hs : w.heap.size ≤ w'.heap.size) (hk : ∀ x, lo ≤ x → x < hi → x < w.heap.size → w'.heap[x]? = w.heap[x]?) : GatP lo hi w' v ps := by
  obtain ⟨k, ss, h1, h2, h3, h4, h5⟩ := h
  refine ⟨k, ss, h1.block (hk k (h5 _ List.mem_cons_self k (by simp)).1 (h5 _ List.mem_cons_self k (by simp)).2 h1.lt), h2, fun s hs' => (h3 s hs').keepC hs fun x hx => ?_, h4, h5⟩
  have := h5 _ (List.mem_cons_of_mem _ (List.mem_map_of_mem hs')) x hx
  exact hk x this.1 this.2 (slot_lt (h3 s hs') x hx)
theorem GatQ.gat {Pr : Nat → Prop} (h : GatQ Pr w v ps) (hp : ∀ x, x < w.heap.size → Pr x → lo ≤ x ∧ x < hi) : GatP lo hi w v ps := by
  obtain ⟨k, ss, h1, h2, h3, h4, h5⟩ := h
  refine ⟨k, ss, h1, h2, h3, h4, fun f hf x hx => hp x ?_ (h5 f hf x hx)⟩
  rcases List.mem_cons.1 hf with rfl | hf
  · simp only [List.mem_singleton] at hx; subst hx; exact h1.lt
  · obtain ⟨s, hs, rfl⟩ := List.mem_map.1 hf
    exact slot_lt (h3 s hs) x hx
theorem GatP.below {K : Nat} (h : GatP lo hi w v ps) (hb : Below K w w') (hB : w.heap.size ≤ K) : GatP lo hi w' v ps := h.keep hb.size fun x _ _ hx => hb.block x (by omega)
theorem GatP.mono {hi' : Nat} (h : GatP lo hi w v ps) (hh : hi ≤ hi') : GatP lo hi' w v ps := by
  obtain ⟨k, ss, h1, h2, h3, h4, h5⟩ := h
  exact ⟨k, ss, h1, h2, h3, h4, fun f hf x hx => ⟨(h5 f hf x hx).1, by have := (h5 f hf x hx).2; omega⟩⟩
theorem GatP.lower {lo' : Nat} (h : GatP lo hi w v ps) (hl : lo' ≤ lo) : GatP lo' hi w v ps := by
  obtain ⟨k, ss, h1, h2, h3, h4, h5⟩ := h
  exact ⟨k, ss, h1, h2, h3, h4, fun f hf x hx => ⟨by have := (h5 f hf x hx).1; omega, (h5 f hf x hx).2⟩⟩
theorem gat_new (w : World) : GatP w.heap.size (w.heap.size + 1) (w.alloc (.cells #[] 39)) (.slice (some ⟨w.heap.size, 0, none⟩) 0 0) [] :=
  ⟨w.heap.size, [], accV_new w _ _, rfl, fun _ h => by simp at h, ⟨by simp, by simp⟩, fun f hf x hx => by simp at hf; subst hf; simp at hx; omega⟩
/-- A gathered pool is the call's own. -/
theorem GatP.own (h : GatP lo hi w v ps) : ∃ A c G, v = .slice A ps.length c ∧ PoolO w A ps.length c ps G ∧ Within lo hi G := by
  obtain ⟨k, ss, h1, rfl, h3, h4, h5⟩ := h
  obtain ⟨cap, rfl, hr⟩ := h1.row
  have hsub : ∀ x, x ∈ fp (ss.map (·.p)).length k → x ∈ [k] := fun x hx => by simp [(mem_fp.1 hx).2]
  refine ⟨_, cap, fp (ss.map (·.p)).length k :: ss.map fpS, rfl, ⟨k, ss, rfl, hr, h3, rfl, ?_⟩, fun f hf x hx => ?_⟩
  · obtain ⟨f1, f2⟩ := h4
    rw [List.pairwise_cons] at f1
    exact ⟨List.pairwise_cons.2 ⟨fun g hg x q1 q2 => f1.1 g hg x (hsub x q1) q2, f1.2⟩, fun f hf => by
      rcases List.mem_cons.1 hf with rfl | hf
      · exact fp_nodup _ _
      · exact f2 f (List.mem_cons_of_mem _ hf)⟩
  · rcases List.mem_cons.1 hf with rfl | hf
    · exact h5 _ List.mem_cons_self x (hsub x hx)
    · exact h5 f (List.mem_cons_of_mem _ hf) x hx
theorem GatQ.own {Pr : Nat → Prop} (h : GatQ Pr w v ps) : ∃ A c G, v = .slice A ps.length c ∧ PoolO w A ps.length c ps G ∧ ∀ f ∈ G, ∀ x ∈ f, Pr x := by
  obtain ⟨k, ss, h1, rfl, h3, h4, h5⟩ := h
  obtain ⟨cap, rfl, hr⟩ := h1.row
  have hsub : ∀ x, x ∈ fp (ss.map (·.p)).length k → x ∈ [k] := fun x hx => by simp [(mem_fp.1 hx).2]
  refine ⟨_, cap, fp (ss.map (·.p)).length k :: ss.map fpS, rfl, ⟨k, ss, rfl, hr, h3, rfl, ?_⟩, fun f hf x hx => ?_⟩
  · obtain ⟨f1, f2⟩ := h4
    rw [List.pairwise_cons] at f1
    exact ⟨List.pairwise_cons.2 ⟨fun g hg x q1 q2 => f1.1 g hg x (hsub x q1) q2, f1.2⟩, fun f hf => by
      rcases List.mem_cons.1 hf with rfl | hf
      · exact fp_nodup _ _
      · exact f2 f (List.mem_cons_of_mem _ hf)⟩
  · rcases List.mem_cons.1 hf with rfl | hf
    · exact h5 _ List.mem_cons_self x (hsub x hx)
    · exact h5 f (List.mem_cons_of_mem _ hf) x hx
/-- What append makes of a gathered pool. -/
theorem GatP.add {g' : Option Nat} {s : Slot} {M : Nat} {k : Nat} {ss : List Slot} (hm : ss.map (·.p) = ps) (hss : ∀ s ∈ ss, SlotO w s) (hf : Foot ([k] :: ss.map fpS)) (hw : Within lo M ([k] :: ss.map fpS))
    (hs : SlotO w s) (hsf : ∀ x ∈ fpS s, M ≤ x) (hsn : (fpS s).Nodup) (hlo : lo ≤ M) (hM : M ≤ w.heap.size)
    (hd : Dest 39 6 g' w' v (ps.length + 1) (ss.flatMap Slot.cells ++ s.cells)) (hg : g' = some k ∨ ∃ q, g' = some q ∧ w.heap.size ≤ q) (hgr : w.grownBy w' (some k)) :
    GatQ (fun x => (lo ≤ x ∧ x < M) ∨ x ∈ fpS s ∨ (w.heap.size ≤ x ∧ x < w'.heap.size)) w' v (ps ++ [s.p]) := by
  rcases hd with ⟨rfl, hz, _⟩ | ⟨q, rfl, ha⟩
  · omega
  have hk := hw _ List.mem_cons_self k (by simp)
  have hqf : ∀ t, t = s ∨ t ∈ ss → ∀ x ∈ fpS t, x ≠ q ∧ x ≠ k ∧ x < w.heap.size ∧ lo ≤ x := fun t ht x hx => by
    have hne : x ≠ k ∧ x < w.heap.size ∧ lo ≤ x := by
      rcases ht with rfl | ht
      · have := hsf x hx
        exact ⟨by omega, slot_lt hs x hx, by omega⟩
      · have h1 := hw _ (List.mem_cons_of_mem _ (List.mem_map_of_mem ht)) x hx
        exact ⟨fun e => (List.pairwise_cons.1 hf.1).1 _ (List.mem_map_of_mem ht) k (by simp) (e ▸ hx), by omega, h1.1⟩
    refine ⟨?_, hne⟩
    rcases hg with e | ⟨q', e, hq⟩
    · simp only [Option.some.injEq] at e; omega
    · simp only [Option.some.injEq] at e; omega
  have hq : (lo ≤ q ∧ q < M) ∨ (w.heap.size ≤ q ∧ q < w'.heap.size) := by
    have hql := ha.lt
    rcases hg with e | ⟨q', e, hq⟩
    · simp only [Option.some.injEq] at e; omega
    · simp only [Option.some.injEq] at e; omega
  have hkeep : ∀ t, t = s ∨ t ∈ ss → SlotO w t → SlotO w' t := fun t ht ho => ho.keepC hgr.size fun x hx => by
    obtain ⟨_, q2, q3, _⟩ := hqf t ht x hx
    exact hgr.block x q3 (by simpa using q2)
  refine ⟨q, ss ++ [s], ?_, by simp [hm], fun t ht => ?_, ⟨?_, ?_⟩, ?_⟩
  · rw [List.flatMap_append, List.length_append, List.length_singleton]
    simpa using ha
  · rcases List.mem_append.1 ht with h | h
    · exact hkeep t (.inr h) (hss t h)
    · simp only [List.mem_singleton] at h; subst h
      exact hkeep t (.inl rfl) hs
  · rw [List.map_append, List.map_singleton, List.pairwise_cons]
    refine ⟨fun f hfm x q1 q2 => ?_, ?_⟩
    · simp only [List.mem_singleton] at q1
      subst q1
      rcases List.mem_append.1 hfm with h | h
      · obtain ⟨t, ht, rfl⟩ := List.mem_map.1 h
        exact (hqf t (.inr ht) _ q2).1 rfl
      · simp only [List.mem_singleton] at h; subst h
        exact (hqf s (.inl rfl) _ q2).1 rfl
    · rw [List.pairwise_append]
      refine ⟨(List.pairwise_cons.1 hf.1).2, by simp, fun f hfm g hgm x q1 q2 => ?_⟩
      simp only [List.mem_singleton] at hgm
      subst hgm
      have h1 := (hw f (List.mem_cons_of_mem _ hfm) x q1).2
      have h2 := hsf x q2
      omega
  · intro f hfm
    rcases List.mem_cons.1 hfm with rfl | hfm
    · simp
    · rw [List.map_append, List.map_singleton] at hfm
      rcases List.mem_append.1 hfm with h | h
      · exact hf.2 f (List.mem_cons_of_mem _ h)
      · simp only [List.mem_singleton] at h; subst h; exact hsn
  · intro f hfm x hx
    rcases List.mem_cons.1 hfm with rfl | hfm
    · simp only [List.mem_singleton] at hx; subst hx
      rcases hq with h | h
      · exact .inl h
      · exact .inr (.inr h)
    · rw [List.map_append, List.map_singleton] at hfm
      rcases List.mem_append.1 hfm with h | h
      · obtain ⟨t, ht, rfl⟩ := List.mem_map.1 h
        exact .inl (hw _ (List.mem_cons_of_mem _ (List.mem_map_of_mem ht)) x hx)
      · simp only [List.mem_singleton] at h; subst h
        exact .inr (.inl hx)
end

/-- .. or it is empty and has no room. -/
def PoolD (lo hi : Nat) (w : World) (v : Value) (ps : List Pld) : Prop := (ps = [] ∧ ∃ A, v = .slice A 0 0) ∨ GatP lo hi w v ps
section
variable {lo hi : Nat} {w w' : World} {v : Value} {ps : List Pld}
theorem PoolD.keep (h : PoolD lo hi w v ps) (hs : w.heap.size ≤ w'.heap.size) (hk : ∀ x, lo ≤ x → x < hi → x < w.heap.size → w'.heap[x]? = w.heap[x]?) : PoolD lo hi w' v ps := by
  rcases h with h | h
  · exact .inl h
  · exact .inr (h.keep hs hk)
theorem PoolD.below {K : Nat} (h : PoolD lo hi w v ps) (hb : Below K w w') (hB : w.heap.size ≤ K) : PoolD lo hi w' v ps := h.keep hb.size fun x _ _ hx => hb.block x (by omega)
theorem PoolD.mono {hi' : Nat} (h : PoolD lo hi w v ps) (hh : hi ≤ hi') : PoolD lo hi' w v ps := by
  rcases h with h | h
  · exact .inl h
  · exact .inr (h.mono hh)
theorem PoolD.own (h : PoolD lo hi w v ps) : ∃ A c G, v = .slice A ps.length c ∧ PoolO w A ps.length c ps G ∧ Within lo hi G := by
  rcases h with ⟨rfl, A, rfl⟩ | h
  · exact ⟨A, 0, [[]], rfl, PoolO.nil_ (Nat.zero_le _), fun f hf x hx => by simp at hf; subst hf; simp at hx⟩
  · exact h.own
end

section
variable {o : Oper} {a : Act} {Q : Exit → Act → World → Prop}
/-- append(out, x) where out is a gathered pool or an empty one, in a region of a fixed order. -/
theorem wpList_gatD {ops : Array Oper} {rest : List Oper} {lo M : Nat} {w : World} {v : Value} {ps : List Pld} (hgp : PoolD lo M w v ps) (x : Slot) (hs : SlotO w x) (hsf : ∀ y ∈ fpS x, M ≤ y) (hsn : (fpS x).Nodup) (hlo : lo ≤ M) (hM : M ≤ w.heap.size) (hl : ps.length ≤ 100000) (s y : Operand)
    (hgd : o.guard = none) (ho : o.op = .call { callee := .builtin .append, args := #[s, y], argTypes := #[24, 24] }) (hsv : a.eval s = v) (hy : a.eval y = .slice (some ⟨w.heap.size, 0, none⟩) 1 1)
    (h : ∀ v' w', GatQ (fun z => (lo ≤ z ∧ z < M) ∨ z ∈ fpS x ∨ (w.heap.size ≤ z ∧ z < w'.heap.size)) w' v' (ps ++ [x.p]) → Below lo w w' → (∀ y, y < w.heap.size → y < lo ∨ M ≤ y → w'.heap[y]? = w.heap[y]?) → wpList Try.prog ops Q rest (a.put o.dst v') w') : wpList Try.prog ops Q (o :: rest) a (w.alloc (.cells x.cells.toArray 39)) := by
  have hal : Below w.heap.size w (w.alloc (.cells x.cells.toArray 39)) := (Below.refl _ _).alloc (Nat.le_refl _) _
  have hb1 : Below lo w (w.alloc (.cells x.cells.toArray 39)) := hal.mono (by omega)
  have hs' : SlotO (w.alloc (.cells x.cells.toArray 39)) x := hs.keepC hal.size fun x hx => hal.block x (slot_lt hs x hx)
  rcases hgp with ⟨rfl, A, rfl⟩ | ⟨k, ss, h1, h2, h3, h4, h5⟩
  · refine wpList_appD elPld none _ _ 0 [] (.inl ⟨rfl, rfl, rfl, A, rfl⟩) _ _ _ 1 1 x.cells (row_lit w 39 x.cells rfl) (cells_one x) (by omega) s y hgd ho hsv hy ?_
    intro g' v' w' hd hg hgr
    rcases hd with ⟨_, q, _⟩ | ⟨q, rfl, ha⟩
    · omega
    have hq : w.heap.size < q := by
      rcases hg with e | ⟨k, e, hk⟩
      · simp at e
      · simp only [Option.some.injEq] at e
        simp at hk; omega
    have hlt := slot_lt hs
    refine h v' w' ⟨q, [x], ?_, rfl, fun s hs2 => ?_, ⟨?_, ?_⟩, ?_⟩ (hb1.grown hgr (by simp; omega) fun q hq => by simp at hq) fun y hy1 _ => ?_
    · simpa using ha
    · simp only [List.mem_singleton] at hs2
      subst hs2
      exact hs'.keepC hgr.size fun y hy => hgr.block y (slot_lt hs' y hy) (by simp)
    · simp only [List.map_cons, List.map_nil, List.pairwise_cons, List.mem_singleton, forall_eq, List.not_mem_nil, false_imp_iff, implies_true, List.Pairwise.nil, and_true]
      intro z q1 q2
      simp only [List.mem_singleton] at q1
      have := hlt z q2
      omega
    · intro f hf
      simp only [List.map_cons, List.map_nil, List.mem_cons, List.not_mem_nil, or_false] at hf
      rcases hf with rfl | rfl
      · simp
      · exact hsn
    · intro f hf z hz
      simp only [List.map_cons, List.map_nil, List.mem_cons, List.not_mem_nil, or_false] at hf
      rcases hf with rfl | rfl
      · simp only [List.mem_singleton] at hz; subst hz
        exact .inr (.inr ⟨by omega, ha.lt⟩)
      · exact .inr (.inl hz)
    · exact (hgr.block y (by simp; omega) (by simp)).trans (hal.block y hy1)
  · refine wpList_appD elPld (some k) _ v ps.length _ (.inr ⟨k, rfl, h1.alloc _⟩) _ _ _ 1 1 x.cells (row_lit w 39 x.cells rfl) (cells_one x) (by omega) s y hgd ho hsv hy ?_
    intro g' v' w' hd hg hgr
    have hk := h5 _ List.mem_cons_self k (by simp)
    have hgat := GatP.add (w := w.alloc (.cells x.cells.toArray 39)) h2 (fun s hs' => (h3 s hs').keepC hal.size fun x hx => hal.block x (slot_lt (h3 s hs') x hx)) h4 h5 hs' hsf hsn hlo (by simp; omega) hd hg hgr
    have hgat2 : GatQ (fun z => (lo ≤ z ∧ z < M) ∨ z ∈ fpS x ∨ (w.heap.size ≤ z ∧ z < w'.heap.size)) w' v' (ps ++ [x.p]) := by
      obtain ⟨k2, ss2, r1, r2, r3, r4, r5⟩ := hgat
      exact ⟨k2, ss2, r1, r2, r3, r4, fun f hf z hz => by
        rcases r5 f hf z hz with h | h | h
        · exact .inl h
        · exact .inr (.inl h)
        · exact .inr (.inr ⟨by have := h.1; simp at this; omega, h.2⟩)⟩
    refine h v' w' hgat2 (hb1.grown hgr (by simp; omega) fun q hq => by simp at hq; omega) fun y hy1 hy2 => ?_
    exact (hgr.block y (by simp; omega) (by simp; omega)).trans (hal.block y hy1)
end

/-- A mix whose slices can be appended to: its keys lie from lo on, its pool from mid on. -/
def MixG (lo mid hi : Nat) (w : World) (vs vp : Value) (x : Mx) : Prop :=
  (∃ g, Dest 3 1 g w vs x.seen.length (x.seen.map (Value.int .i64)) ∧ ∀ k, g = some k → lo ≤ k ∧ k < mid) ∧ PoolD mid hi w vp x.pool ∧ lo ≤ mid ∧ mid ≤ hi
theorem foot_cons {f : List Nat} {G : List (List Nat)} (h : Foot G) (hn : f.Nodup) (hd : ∀ g ∈ G, Disj f g) : Foot (f :: G) :=
  ⟨List.pairwise_cons.2 ⟨hd, h.1⟩, fun g hg => by
    rcases List.mem_cons.1 hg with rfl | hg
    · exact hn
    · exact h.2 g hg⟩
/-- A mix put together: its keys and its pool in different blocks. -/
theorem mix_of {w : World} {A B : Option Addr} {n c m d a lo hi : Nat} {x : Mx} {H : List (List Nat)} (o1 : Il.Own a (a + 1) w A n c x.seen) (p1 : PoolO w B m d x.pool H) (hw : Within lo hi H) (ha : 0 < n → lo ≤ a ∧ a < hi ∧ ∀ f ∈ H, a ∉ f) :
    ∃ G, MixO w A n c B m d x G ∧ Within lo hi G := by
  refine ⟨fp n a :: H, ⟨a, H, o1, p1, rfl, foot_cons p1.foot (fp_nodup _ _) fun g hg y q1 q2 => ?_⟩, fun f hf y hy => ?_⟩
  · obtain ⟨hn, rfl⟩ := mem_fp.1 q1
    exact (ha hn).2.2 g hg q2
  · rcases List.mem_cons.1 hf with rfl | hf
    · obtain ⟨hn, rfl⟩ := mem_fp.1 hy
      have h1 := ha hn
      omega
    · exact hw f hf y hy
theorem mix_ofQ {Pr : Nat → Prop} {w : World} {A B : Option Addr} {n c m d a : Nat} {x : Mx} {H : List (List Nat)} (o1 : Il.Own a (a + 1) w A n c x.seen) (p1 : PoolO w B m d x.pool H) (hw : ∀ f ∈ H, ∀ y ∈ f, Pr y) (ha : 0 < n → Pr a ∧ ∀ f ∈ H, a ∉ f) :
    ∃ G, MixO w A n c B m d x G ∧ ∀ f ∈ G, ∀ y ∈ f, Pr y := by
  refine ⟨fp n a :: H, ⟨a, H, o1, p1, rfl, foot_cons p1.foot (fp_nodup _ _) fun g hg y q1 q2 => ?_⟩, fun f hf y hy => ?_⟩
  · obtain ⟨hn, rfl⟩ := mem_fp.1 q1
    exact (ha hn).2 g hg q2
  · rcases List.mem_cons.1 hf with rfl | hf
    · obtain ⟨hn, rfl⟩ := mem_fp.1 hy
      exact (ha hn).1
    · exact hw f hf y hy
theorem dest_blk {g : Option Nat} {w : World} {v : Value} {n : Nat} {xs : List Int} (h : Dest 3 1 g w v n (xs.map (Value.int .i64))) (hn : 0 < n) : ∃ k, g = some k ∧ k < w.heap.size := by
  rcases h with ⟨_, e, _⟩ | ⟨k, rfl, ha⟩
  · omega
  · exact ⟨k, rfl, ha.lt⟩
theorem MixG.own {lo mid hi : Nat} {w : World} {vs vp : Value} {x : Mx} (h : MixG lo mid hi w vs vp x) : ∃ A c B d G, vs = .slice A x.seen.length c ∧ vp = .slice B x.pool.length d ∧ MixO w A x.seen.length c B x.pool.length d x G ∧ Within lo hi G := by
  obtain ⟨⟨g, hd, hg⟩, hp, h1, h2⟩ := h
  obtain ⟨B, d, H, rfl, hpo, hw⟩ := hp.own
  obtain ⟨A, c, b, rfl, ho, hb⟩ := dest_ints hd
  obtain ⟨G, hm, hwg⟩ := mix_of (lo := lo) (hi := hi) ho hpo (fun f hf y hy => by have := hw f hf y hy; omega) (fun hn => by
    obtain ⟨k, e, hk⟩ := dest_blk hd hn
    have q1 := hb k e
    have q2 := hg k e
    exact ⟨by omega, by omega, fun f hf hm => by have := hw f hf b hm; omega⟩)
  exact ⟨A, c, B, d, G, rfl, rfl, hm, hwg⟩
theorem dest_keep {e : TypeId} {sz : Nat} {g : Option Nat} {w w' : World} {v : Value} {n : Nat} {us : List Value} (h : Dest e sz g w v n us) (hk : ∀ k, g = some k → w'.heap[k]? = w.heap[k]?) : Dest e sz g w' v n us := by
  rcases h with h | ⟨k, rfl, ha⟩
  · exact .inl h
  · exact .inr ⟨k, rfl, ha.block (hk k rfl)⟩
theorem dest_lt {e : TypeId} {sz : Nat} {g : Option Nat} {w : World} {v : Value} {n : Nat} {us : List Value} (h : Dest e sz g w v n us) : ∀ k, g = some k → k < w.heap.size := fun k e => by
  rcases h with ⟨q, _⟩ | ⟨k', q, ha⟩
  · rw [q] at e; cases e
  · rw [q] at e
    simp only [Option.some.injEq] at e
    have := ha.lt
    omega
theorem MixG.keep {lo mid hi : Nat} {w w' : World} {vs vp : Value} {x : Mx} (h : MixG lo mid hi w vs vp x) (hs : w.heap.size ≤ w'.heap.size) (hk : ∀ y, lo ≤ y → y < hi → y < w.heap.size → w'.heap[y]? = w.heap[y]?) : MixG lo mid hi w' vs vp x := by
  obtain ⟨⟨g, hd, hg⟩, hp, h1, h2⟩ := h
  refine ⟨⟨g, dest_keep hd fun k e => hk k (hg k e).1 (by have := (hg k e).2; omega) (dest_lt hd k e), hg⟩, hp.keep hs fun y q1 q2 q3 => hk y (by omega) q2 q3, h1, h2⟩
theorem MixG.below {K lo mid hi : Nat} {w w' : World} {vs vp : Value} {x : Mx} (h : MixG lo mid hi w vs vp x) (hb : Below K w w') (hB : w.heap.size ≤ K) : MixG lo mid hi w' vs vp x := h.keep hb.size fun y _ _ hy => hb.block y (by omega)

/-- A mix whose slices are stored elsewhere. -/
theorem mixG_fin {lo mid hi b : Nat} {w : World} {A B : Option Addr} {c d : Nat} {y : Mx} (hm : MixG lo mid hi w (.slice A y.seen.length c) (.slice B y.pool.length d) y) (hb : b < lo) (v0 v1 v2 : Value) :
    ∃ G, MixO (((w.setCell ⟨b, 0, none⟩ v0).setCell ⟨b, 1, none⟩ v1).setCell ⟨b, 2, none⟩ v2) A y.seen.length c B y.pool.length d y G ∧ Within lo hi G := by
  have hfar : ∀ x, x ≠ b → (((w.setCell ⟨b, 0, none⟩ v0).setCell ⟨b, 1, none⟩ v1).setCell ⟨b, 2, none⟩ v2).heap[x]? = w.heap[x]? := fun x h => (Below.heap_setCell _ _ _ _ h).trans ((Below.heap_setCell _ _ _ _ h).trans (Below.heap_setCell _ _ _ _ h))
  obtain ⟨A', c', B', d', G, e1, e2, hmo, hw⟩ := hm.own
  simp only [Value.slice.injEq, true_and] at e1 e2
  obtain ⟨rfl, rfl⟩ := e1
  obtain ⟨rfl, rfl⟩ := e2
  exact ⟨G, hmo.keep (by simp [World.setCell]) fun f hf x hx => hfar x (by have := hw f hf x hx; omega), hw⟩

/-- A mix whose slices were appended to, first its keys, then its pool. -/
theorem mixO_app {lo mid M M1 : Nat} {w8 w9 : World} {g : Option Nat} {A B : Option Addr} {c d : Nat} {y : Mx} {s : Slot} (hd : Dest 3 1 g w8 (.slice A y.seen.length c) y.seen.length (y.seen.map (Value.int .i64)))
    (hdl : ∀ k, g = some k → (lo ≤ k ∧ k < mid) ∨ (M1 < k ∧ k < w8.heap.size)) (hq : GatQ (fun z => (mid ≤ z ∧ z < M) ∨ z ∈ fpS s ∨ (w8.heap.size ≤ z ∧ z < w9.heap.size)) w9 (.slice B y.pool.length d) y.pool)
    (hsf : ∀ z ∈ fpS s, M < z ∧ z ≤ M1) (hK : ∀ z, z < w8.heap.size → z < mid ∨ M ≤ z → w9.heap[z]? = w8.heap[z]?) (h1 : lo ≤ mid) (h2 : mid ≤ M) (h3 : M ≤ M1) (h4 : M1 < w8.heap.size) (h5 : w8.heap.size ≤ w9.heap.size) :
    ∃ G, MixO w9 A y.seen.length c B y.pool.length d y G ∧ ∀ f ∈ G, ∀ z ∈ f, lo ≤ z ∧ z < w9.heap.size ∧ z ≠ M := by
  have hd9 := dest_keep hd (w' := w9) fun k e => hK k (dest_lt hd k e) (by have := hdl k e; omega)
  obtain ⟨B', d', H, e2, hpo, hw⟩ := hq.own
  simp only [Value.slice.injEq, true_and] at e2
  obtain ⟨rfl, rfl⟩ := e2
  obtain ⟨A', c', b, e1, ho, hb⟩ := dest_ints hd9
  simp only [Value.slice.injEq, true_and] at e1
  obtain ⟨rfl, rfl⟩ := e1
  refine mix_ofQ ho hpo (fun f hf z hz => ?_) (fun hn => ?_)
  · rcases hw f hf z hz with h | h | h
    · omega
    · have := hsf z h; omega
    · omega
  · obtain ⟨k, e, hk⟩ := dest_blk hd9 hn
    have q1 := hb k e
    subst q1
    have q2 := hdl _ e
    refine ⟨by omega, fun f hf hm => ?_⟩
    rcases hw f hf _ hm with h | h | h
    · omega
    · have := hsf _ h; omega
    · omega

/-- A mix of the call's own from lo on, whose keys can be appended to. -/
def MixD (lo : Nat) (w : World) (A : Option Addr) (c : Nat) (B : Option Addr) (d : Nat) (x : Mx) : Prop :=
  ∃ g H, Dest 3 1 g w (.slice A x.seen.length c) x.seen.length (x.seen.map (Value.int .i64)) ∧ PoolO w B x.pool.length d x.pool H ∧ Within lo w.heap.size H ∧ ∀ k, g = some k → lo ≤ k ∧ ∀ f ∈ H, k ∉ f
section
variable {lo mid hi b : Nat} {w w' : World} {A B : Option Addr} {c d : Nat} {x y : Mx}
theorem MixD.keep (h : MixD lo w A c B d x) (hs : w.heap.size ≤ w'.heap.size) (hk : ∀ z, lo ≤ z → z < w.heap.size → w'.heap[z]? = w.heap[z]?) : MixD lo w' A c B d x := by
  obtain ⟨g, H, h1, h2, h3, h4⟩ := h
  exact ⟨g, H, dest_keep h1 fun k e => hk k (h4 k e).1 (dest_lt h1 k e), h2.keep hs fun f hf z hz => hk z (h3 f hf z hz).1 (h3 f hf z hz).2, fun f hf z hz => ⟨(h3 f hf z hz).1, Nat.lt_of_lt_of_le (h3 f hf z hz).2 hs⟩, h4⟩
theorem MixD.below {K : Nat} (h : MixD lo w A c B d x) (hb : Below K w w') (hB : w.heap.size ≤ K) : MixD lo w' A c B d x := h.keep hb.size fun z _ hz => hb.block z (by omega)
theorem MixD.lower {lo' : Nat} (h : MixD lo w A c B d x) (hl : lo' ≤ lo) : MixD lo' w A c B d x := by
  obtain ⟨g, H, h1, h2, h3, h4⟩ := h
  exact ⟨g, H, h1, h2, fun f hf z hz => ⟨Nat.le_trans hl (h3 f hf z hz).1, (h3 f hf z hz).2⟩, fun k e => ⟨Nat.le_trans hl (h4 k e).1, (h4 k e).2⟩⟩
theorem MixD.mix (h : MixD lo w A c B d x) : MixR lo w.heap.size w A x.seen.length c B x.pool.length d x := by
  obtain ⟨g, H, h1, h2, h3, h4⟩ := h
  obtain ⟨A', c', b, e, ho, hb⟩ := dest_ints h1
  simp only [Value.slice.injEq, true_and] at e
  obtain ⟨rfl, rfl⟩ := e
  refine ⟨ints_in ho.1 fun hn => ?_, h2.pool h3⟩
  obtain ⟨k, q, hk⟩ := dest_blk h1 hn
  have := hb k q
  have := (h4 k q).1
  omega
theorem MixG.dst (h : MixG lo mid hi w (.slice A x.seen.length c) (.slice B x.pool.length d) x) (hh : hi ≤ w.heap.size) : MixD lo w A c B d x := by
  obtain ⟨⟨g, hd, hg⟩, hp, h1, h2⟩ := h
  obtain ⟨B', d', H, e, hpo, hw⟩ := hp.own
  simp only [Value.slice.injEq, true_and] at e
  obtain ⟨rfl, rfl⟩ := e
  exact ⟨g, H, hd, hpo, fun f hf z hz => by have := hw f hf z hz; omega, fun k e => ⟨(hg k e).1, fun f hf hm => by have := hw f hf k hm; have := hg k e; omega⟩⟩
/-- A mix whose cells are stored into a block that is none of its own. -/
theorem MixD.fin (h : MixD lo w A c B d x) (hb : b < lo) (v0 v1 v2 : Value) : MixD lo (((w.setCell ⟨b, 0, none⟩ v0).setCell ⟨b, 1, none⟩ v1).setCell ⟨b, 2, none⟩ v2) A c B d x :=
  h.keep (by simp [World.setCell]) fun z h1 _ => (Below.heap_setCell _ _ _ _ (show z ≠ b by omega)).trans ((Below.heap_setCell _ _ _ _ (show z ≠ b by omega)).trans (Below.heap_setCell _ _ _ _ (show z ≠ b by omega)))
theorem mixD_empty {s : Int} (hc : c = 0) (hd : d ≤ maxLen) : MixD lo w A c B d ⟨s, [], []⟩ := by
  subst hc
  exact ⟨none, [[]], .inl ⟨rfl, rfl, rfl, A, rfl⟩, PoolO.nil_ hd, fun f hf z hz => by simp at hf; subst hf; simp at hz, fun k e => by cases e⟩
/-- As mixO_app: and the keys can be appended to again. -/
theorem mixD_app {M M1 : Nat} {w8 w9 : World} {g : Option Nat} {s : Slot} (hd : Dest 3 1 g w8 (.slice A y.seen.length c) y.seen.length (y.seen.map (Value.int .i64)))
    (hdl : ∀ k, g = some k → (lo ≤ k ∧ k < mid) ∨ (M1 < k ∧ k < w8.heap.size)) (hq : GatQ (fun z => (mid ≤ z ∧ z < M) ∨ z ∈ fpS s ∨ (w8.heap.size ≤ z ∧ z < w9.heap.size)) w9 (.slice B y.pool.length d) y.pool)
    (hsf : ∀ z ∈ fpS s, M < z ∧ z ≤ M1) (hK : ∀ z, z < w8.heap.size → z < mid ∨ M ≤ z → w9.heap[z]? = w8.heap[z]?) (h1 : lo ≤ mid) (h2 : mid ≤ M) (h3 : M ≤ M1) (h4 : M1 < w8.heap.size) (h5 : w8.heap.size ≤ w9.heap.size) (v : Value) (i : Nat) :
    MixD lo (w9.setCell ⟨M, i, none⟩ v) A c B d y := by
  have hd9 := dest_keep hd (w' := w9) fun k e => hK k (dest_lt hd k e) (by have := hdl k e; omega)
  obtain ⟨B', d', H, e2, hpo, hw⟩ := hq.own
  simp only [Value.slice.injEq, true_and] at e2
  obtain ⟨rfl, rfl⟩ := e2
  have hM : ∀ f ∈ H, ∀ z ∈ f, z ≠ M ∧ lo ≤ z ∧ z < w9.heap.size := fun f hf z hz => by
    rcases hw f hf z hz with h | h | h
    · omega
    · have := hsf z h; omega
    · omega
  have hz : (w9.setCell ⟨M, i, none⟩ v).heap.size = w9.heap.size := by simp [World.setCell]
  refine ⟨g, H, dest_keep hd9 fun k e => Below.heap_setCell _ _ _ _ (show k ≠ M by have := hdl k e; omega), hpo.keep (Nat.le_of_eq hz.symm) fun f hf z hz => Below.heap_setCell _ _ _ _ (hM f hf z hz).1, fun f hf z hzm => ?_, fun k e => ⟨by have := hdl k e; omega, fun f hf hm => ?_⟩⟩
  · have := hM f hf z hzm; omega
  · have := hdl k e
    rcases hw f hf k hm with h | h | h
    · omega
    · have := hsf k h; omega
    · omega
end

end Sl
end Go.Proofs.Ytnjcpbkpcmemeac
