/-
  Slices of slices of ints in memory: readable ones, owned ones (each slice in a block of its own), marking. Nothing of any program.
-/
import Derived.Test.YtoghgliijjfppabFo
import Derived.Test.YtoghgliijjfppabCm
namespace Go.Proofs.Ytoghgliijjfppab
open Go.RowKit
namespace Cs
open Il Sl Fo Cm

/-- A slot: its numbers, its slice, the block that it lies in (where that is asked). -/
structure Sk where
  xs : List Int
  A : Option Addr
  c : Nat
  g : Nat
def Sk.cell (s : Sk) : Value := .slice s.A s.xs.length s.c
def fpk (s : Sk) : List Nat := fp s.xs.length s.g
/-- Slots that can be read. -/
def Sts (lo hi : Nat) (w : World) (A : Option Addr) (n c : Nat) (xss : List (List Int)) : Prop :=
  ∃ ss : List Sk, ss.map (·.xs) = xss ∧ Row lo hi w A n c 1 (ss.map Sk.cell) ∧ ∀ s ∈ ss, Ints lo hi w s.A s.xs.length s.c s.xs
def SkO (w : World) (s : Sk) : Prop := Il.Own s.g (s.g + 1) w s.A s.xs.length s.c s.xs
/-- Slots of the call's own. -/
def StsO (w : World) (A : Option Addr) (n c : Nat) (xss : List (List Int)) (G : List (List Nat)) : Prop :=
  ∃ (b : Nat) (ss : List Sk), ss.map (·.xs) = xss ∧ RowO b (b + 1) w A n c 1 (ss.map Sk.cell) ∧ (∀ s ∈ ss, SkO w s) ∧ G = fp n b :: ss.map fpk ∧ Foot G

section
variable {lo hi lo' hi' : Nat} {w w' : World} {A : Option Addr} {n c : Nat} {xss : List (List Int)} {G : List (List Nat)}
theorem Sts.keep (h : Sts lo hi w A n c xss) (hs : w.heap.size ≤ w'.heap.size) (hk : ∀ b, lo ≤ b → b < hi → b < w.heap.size → w'.heap[b]? = w.heap[b]?) : Sts lo hi w' A n c xss := by
  obtain ⟨ss, h1, h2, h3⟩ := h
  exact ⟨ss, h1, h2.keep hs hk, fun s hs' => (h3 s hs').keep hs hk⟩
theorem Sts.mono (h : Sts lo hi w A n c xss) (h1 : lo' ≤ lo) (h2 : hi ≤ hi') : Sts lo' hi' w A n c xss := by
  obtain ⟨ss, e1, e2, e3⟩ := h
  exact ⟨ss, e1, e2.mono h1 h2, fun s hs => (e3 s hs).mono h1 h2⟩
theorem Sts.below {B : Nat} (h : Sts lo hi w A n c xss) (hb : Below B w w') (hB : w.heap.size ≤ B) : Sts lo hi w' A n c xss := h.keep hb.size fun b _ _ hz => hb.block b (by omega)
theorem Sts.below' {B : Nat} (h : Sts lo hi w A n c xss) (hb : Below B w w') (hB : hi ≤ B) : Sts lo hi w' A n c xss := h.keep hb.size fun b _ h2 _ => hb.block b (by omega)
theorem Sts.kept {l2 h2 : Nat} (h : Sts lo hi w A n c xss) (hk : Kept l2 h2 w w') (hd : hi ≤ l2 ∨ h2 ≤ lo) : Sts lo hi w' A n c xss := h.keep (Nat.le_of_eq hk.size.symm) fun b h1 h2 _ => hk.block b (by omega)
theorem Sts.grown {row : Option Nat} (h : Sts lo hi w A n c xss) (hg : w.grownBy w' row) (hr : ∀ k, row = some k → k < lo ∨ hi ≤ k) : Sts lo hi w' A n c xss :=
  h.keep hg.size fun b h1 h2 hz => hg.block b hz (fun e => by have := hr b e.symm; omega)
theorem Sts.keptG {l2 h2 : Nat} (h : Sts lo hi w A n c xss) (hk : KeptG G w w') (hw : Within l2 h2 G) (hd : hi ≤ l2 ∨ h2 ≤ lo) : Sts lo hi w' A n c xss := h.keep hk.size fun b h1 h2 h3 => keptG_at hk hw b h3 (by omega)
theorem Sts.drewN (h : Sts lo hi w A n c xss) (d : Nat) : Sts lo hi (w.drewN d) A n c xss := h
theorem ints_topS {xs : List Int} (h : Ints lo hi w A n c xs) (hl : lo' ≤ lo) : Ints lo' w.heap.size w A n c xs :=
  ⟨h.1, h.2.1, h.2.2.1, fun hn => by
    obtain ⟨b, off, e, h1, _, hz, hc⟩ := h.2.2.2 hn
    exact ⟨b, off, e, by omega, hz, hz, hc⟩⟩
theorem Sts.top (h : Sts lo hi w A n c xss) (hl : lo' ≤ lo) : Sts lo' w.heap.size w A n c xss := by
  obtain ⟨ss, e1, e2, e3⟩ := h
  exact ⟨ss, e1, e2.top hl, fun s hs => ints_topS (e3 s hs) hl⟩
theorem Sts.len_ (h : Sts lo hi w A n c xss) : xss.length = n := by
  obtain ⟨ss, rfl, h2, _⟩ := h
  have := h2.1
  rw [List.length_map] at this ⊢
  omega
theorem Sts.cap_ (h : Sts lo hi w A n c xss) : n ≤ c := by
  obtain ⟨ss, _, h2, _⟩ := h
  exact h2.2.1
theorem Sts.max_ (h : Sts lo hi w A n c xss) : c ≤ maxLen := by
  obtain ⟨ss, _, h2, _⟩ := h
  exact h2.2.2.1
theorem Sts.nil_ (hc : c ≤ maxLen) : Sts lo hi w A 0 c [] := ⟨[], rfl, Row.nil_ hc, fun _ h => by simp at h⟩
theorem Sts.take {k : Nat} (h : Sts lo hi w A n c xss) (hk : k ≤ n) : Sts lo hi w A k c (xss.take k) := by
  obtain ⟨ss, rfl, h2, h3⟩ := h
  refine ⟨ss.take k, by rw [List.map_take], ?_, fun s hs => h3 s (List.mem_of_mem_take hs)⟩
  have := h2.take hk
  rw [Nat.mul_one] at this
  rw [List.map_take]
  exact this
theorem sk_at {ss : List Sk} {k : Nat} (hk : k < ss.length) : ∃ s, ss[k]? = some s ∧ s ∈ ss ∧ slAt (ss.map (·.xs)) k = s.xs := by
  refine ⟨ss[k], List.getElem?_eq_getElem hk, List.getElem_mem _, ?_⟩
  unfold slAt
  rw [List.getD_eq_getElem?_getD, List.getElem?_map, List.getElem?_eq_getElem hk]; rfl
/-- One place. -/
theorem Sts.at_ {k : Nat} (h : Sts lo hi w A n c xss) (hk : k < n) : ∃ b off H e, A = some ⟨b, off, none⟩ ∧ lo ≤ b ∧ b < hi ∧ b < w.heap.size ∧
    w.cell? ⟨b, off + k, none⟩ = some (.slice H (slAt xss k).length e) ∧ Ints lo hi w H (slAt xss k).length e (slAt xss k) := by
  have hl := h.len_
  obtain ⟨ss, rfl, h2, h3⟩ := h
  rw [List.length_map] at hl
  obtain ⟨s, hx, hm, hs⟩ := sk_at (ss := ss) (k := k) (by omega)
  obtain ⟨b, off, rfl, hb, hb', hz, hc⟩ := h2.2.2.2 (by omega)
  refine ⟨b, off, s.A, s.c, rfl, hb, hb', hz, ?_, ?_⟩
  · rw [hs]
    exact hc k _ (by rw [List.getElem?_map, hx]; rfl)
  · rw [hs]; exact h3 s hm

theorem SkO.keepC {s : Sk} (h : SkO w s) (hs : w.heap.size ≤ w'.heap.size) (hk : ∀ x ∈ fpk s, w'.heap[x]? = w.heap[x]?) : SkO w' s := own_keepC h hs fun hn => hk _ (mem_fp.2 ⟨hn, rfl⟩)
theorem StsO.keep (h : StsO w A n c xss G) (hs : w.heap.size ≤ w'.heap.size) (hk : ∀ f ∈ G, ∀ x ∈ f, w'.heap[x]? = w.heap[x]?) : StsO w' A n c xss G := by
  obtain ⟨b, ss, h1, h2, h3, rfl, h5⟩ := h
  exact ⟨b, ss, h1, rowO_keepC h2 hs fun hn => hk _ List.mem_cons_self _ (mem_fp.2 ⟨hn, rfl⟩), fun s hs' => (h3 s hs').keepC hs fun x hx => hk _ (List.mem_cons_of_mem _ (List.mem_map_of_mem hs')) x hx, rfl, h5⟩
theorem SkO.lt_ {s : Sk} (h : SkO w s) : ∀ x ∈ fpk s, x < w.heap.size := fun x hx => by
  obtain ⟨hn, rfl⟩ := mem_fp.1 hx
  exact own_ltC h hn
theorem StsO.lt_ (h : StsO w A n c xss G) : Within 0 w.heap.size G := by
  obtain ⟨b, ss, h1, h2, h3, rfl, h5⟩ := h
  intro f hf x hx
  rcases List.mem_cons.1 hf with rfl | hf
  · obtain ⟨hn, rfl⟩ := mem_fp.1 hx
    exact ⟨Nat.zero_le _, rowO_ltC h2 hn⟩
  · obtain ⟨s, hs, rfl⟩ := List.mem_map.1 hf
    exact ⟨Nat.zero_le _, (h3 s hs).lt_ x hx⟩
theorem StsO.below {K : Nat} (h : StsO w A n c xss G) (hb : Below K w w') (hB : w.heap.size ≤ K) : StsO w' A n c xss G :=
  h.keep hb.size fun f hf x hx => hb.block x (by have := h.lt_ f hf x hx; omega)
theorem StsO.keptG {H : List (List Nat)} {l2 h2 : Nat} (h : StsO w A n c xss H) (hk : KeptG G w w') (hw : Within l2 h2 G) (hh : Within lo hi H) (hd : hi ≤ l2 ∨ h2 ≤ lo) : StsO w' A n c xss H :=
  h.keep hk.size fun f hf y hy => keptG_at hk hw y (h.lt_ f hf y hy).2 (by have := hh f hf y hy; omega)
theorem StsO.kept {H : List (List Nat)} {l2 h2 : Nat} (h : StsO w A n c xss H) (hk : Kept l2 h2 w w') (hh : Within lo hi H) (hd : hi ≤ l2 ∨ h2 ≤ lo) : StsO w' A n c xss H :=
  h.keep (Nat.le_of_eq hk.size.symm) fun f hf y hy => hk.block y (by have := hh f hf y hy; omega)
theorem StsO.drewN (h : StsO w A n c xss G) (d : Nat) : StsO (w.drewN d) A n c xss G := h
theorem StsO.sts (h : StsO w A n c xss G) (hw : Within lo hi G) : Sts lo hi w A n c xss := by
  obtain ⟨b, ss, h1, h2, h3, rfl, h5⟩ := h
  exact ⟨ss, h1, row_in h2.1 fun hn => hw _ List.mem_cons_self _ (mem_fp.2 ⟨hn, rfl⟩), fun s hs => ints_in (h3 s hs).1 fun hn => hw _ (List.mem_cons_of_mem _ (List.mem_map_of_mem hs)) _ (mem_fp.2 ⟨hn, rfl⟩)⟩
theorem StsO.len_ (h : StsO w A n c xss G) : xss.length = n := (h.sts h.lt_).len_
theorem StsO.nil_ (hc : c ≤ maxLen) : StsO w A 0 c [] [[]] := ⟨0, [], rfl, RowO.nil_ hc, fun _ h => by simp at h, rfl, by simp [Foot]⟩
theorem within_nil : Within lo hi [[]] := by intro f hf x hx; simp at hf; subst hf; simp at hx

theorem foot_at {n b : Nat} {ss : List Sk} (h : Foot (fp n b :: ss.map fpk)) {k : Nat} {s : Sk} (hx : ss[k]? = some s) (hn : 0 < n) :
    (∀ x ∈ fpk s, x ≠ b) ∧ ∀ (j : Nat) (t : Sk), ss[j]? = some t → j ≠ k → ∀ x ∈ fpk t, x ∉ fpk s := by
  unfold Foot at h
  rw [List.pairwise_cons] at h
  obtain ⟨hp1, hp2⟩ := h
  refine ⟨fun x hxs e => hp1 _ (List.mem_map_of_mem (List.mem_of_getElem? hx)) b (mem_fp.2 ⟨hn, rfl⟩) (e ▸ hxs), fun j t ht hne x hxt hxs => ?_⟩
  have hj := (List.getElem?_eq_some_iff.1 ht).1
  have hk := (List.getElem?_eq_some_iff.1 hx).1
  have e1 : (ss.map fpk)[j]'(by simpa using hj) = fpk t := by simp [(List.getElem?_eq_some_iff.1 ht).2]
  have e2 : (ss.map fpk)[k]'(by simpa using hk) = fpk s := by simp [(List.getElem?_eq_some_iff.1 hx).2]
  rcases Nat.lt_or_ge j k with q | q
  · have := (List.pairwise_iff_getElem.1 hp2) j k (by simpa using hj) (by simpa using hk) q
    rw [e1, e2] at this
    exact this x hxt hxs
  · have := (List.pairwise_iff_getElem.1 hp2) k j (by simpa using hk) (by simpa using hj) (by omega)
    rw [e1, e2] at this
    exact this x hxs hxt
/-- A slice of a slot in a range of blocks that is no more than its own. -/
theorem SkO.rng {s : Sk} (h : SkO w s) : ∃ l u, Il.Own l u w s.A s.xs.length s.c s.xs ∧ ∀ b, l ≤ b → b < u → b ∈ fpk s := by
  rcases Nat.eq_zero_or_pos s.xs.length with hz | hz
  · refine ⟨0, 0, ?_, fun b _ h2 => absurd h2 (by omega)⟩
    refine ⟨⟨rfl, h.1.2.1, h.1.2.2.1, fun hn => absurd hn (by omega)⟩, fun _ _ hn => absurd hn (by omega)⟩
  · exact ⟨s.g, s.g + 1, h, fun b h1 h2 => mem_fp.2 ⟨hz, by omega⟩⟩
theorem set_cells {ss : List Sk} {k : Nat} {s : Sk} (hx : ss[k]? = some s) {ys : List Int} (hy : ys.length = s.xs.length) : (ss.set k ⟨ys, s.A, s.c, s.g⟩).map Sk.cell = ss.map Sk.cell ∧ (ss.set k ⟨ys, s.A, s.c, s.g⟩).map fpk = ss.map fpk := by
  have hkl := (List.getElem?_eq_some_iff.1 hx).1
  constructor
  · rw [List.map_set]
    apply List.ext_getElem?
    intro i
    by_cases hik : i = k
    · subst hik
      rw [List.getElem?_set_self (by simpa using hkl), List.getElem?_map, hx]
      simp [Sk.cell, hy]
    · rw [List.getElem?_set_ne (by omega)]
  · rw [List.map_set]
    apply List.ext_getElem?
    intro i
    by_cases hik : i = k
    · subst hik
      rw [List.getElem?_set_self (by simpa using hkl), List.getElem?_map, hx]
      simp [fpk, hy]
    · rw [List.getElem?_set_ne (by omega)]
/-- A slot is written, place by place. -/
theorem StsO.mark {k : Nat} (h : StsO w A n c xss G) (hk : k < n) : ∃ b off B e l u, A = some ⟨b, off, none⟩ ∧ w.cell? ⟨b, off + k, none⟩ = some (.slice B (slAt xss k).length e) ∧ Il.Own l u w B (slAt xss k).length e (slAt xss k) ∧
    ∀ ys w', ys.length = (slAt xss k).length → Il.Own l u w' B (slAt xss k).length e ys → Kept l u w w' → StsO w' A n c (xss.set k ys) G ∧ KeptG G w w' := by
  have hl := h.len_
  obtain ⟨b, ss, rfl, h2, h3, rfl, h5⟩ := h
  rw [List.length_map] at hl
  obtain ⟨s, hx, hm, hs⟩ := sk_at (ss := ss) (k := k) (by omega)
  obtain ⟨b', off, rfl, q1, q2, hz, hc⟩ := h2.1.2.2.2 (by omega)
  obtain rfl : b' = b := by omega
  obtain ⟨l, u, ho, hlu⟩ := (h3 s hm).rng
  rw [hs]
  refine ⟨b', off, s.A, s.c, l, u, rfl, hc k _ (by rw [List.getElem?_map, hx]; rfl), ho, fun ys w' hy hys hkp => ?_⟩
  have hfa := foot_at h5 hx (by omega)
  obtain ⟨c1, c2⟩ := set_cells hx hy
  have hkl := (List.getElem?_eq_some_iff.1 hx).1
  have hkb : w'.heap[b']? = w.heap[b']? := hkp.block b' (by
    rcases Nat.lt_or_ge b' l with q | q
    · exact .inl q
    · rcases Nat.lt_or_ge b' u with q' | q'
      · exact absurd rfl (hfa.1 b' (hlu b' q q'))
      · exact .inr q')
  refine ⟨⟨b', ss.set k ⟨ys, s.A, s.c, s.g⟩, by rw [List.map_set], by rw [c1]; exact rowO_keepC h2 (Nat.le_of_eq hkp.size.symm) fun _ => hkb, fun t ht => ?_, by rw [c2], h5⟩, ⟨hkp.os, hkp.tape, hkp.output, Nat.le_of_eq hkp.size.symm, fun x hx' hf => hkp.block x ?_⟩⟩
  · obtain ⟨j, hj, e⟩ := List.getElem_of_mem ht
    rw [List.length_set] at hj
    by_cases hjk : j = k
    · subst hjk
      rw [List.getElem_set_self] at e
      rw [← e]
      show Il.Own s.g (s.g + 1) w' s.A ys.length s.c ys
      rw [hy]
      rcases Nat.eq_zero_or_pos s.xs.length with hz0 | hz0
      · exact ⟨⟨hy, hys.1.2.1, hys.1.2.2.1, fun hn => absurd hn (by omega)⟩, fun _ _ hn => absurd hn (by omega)⟩
      · obtain ⟨b2, off2, e2, _, _, hz2, hc2⟩ := hys.1.2.2.2 hz0
        obtain ⟨b3, off3, e3, r1, r2, _⟩ := (h3 s hm).1.2.2.2 hz0
        rw [e2] at e3
        simp only [Option.some.injEq, Addr.mk.injEq, and_true] at e3
        exact ⟨⟨hy, hys.1.2.1, hys.1.2.2.1, fun _ => ⟨b2, off2, e2, by omega, by omega, hz2, hc2⟩⟩, hys.2⟩
    · rw [List.getElem_set_ne (by omega)] at e
      have htj : ss[j]? = some t := by rw [List.getElem?_eq_getElem hj, e]
      have hno := hfa.2 j t htj hjk
      refine (h3 t (List.mem_of_getElem? htj)).keepC (Nat.le_of_eq hkp.size.symm) fun x hxt => hkp.block x ?_
      rcases Nat.lt_or_ge x l with q | q
      · exact .inl q
      · rcases Nat.lt_or_ge x u with q' | q'
        · exact absurd (hlu x q q') (hno x hxt)
        · exact .inr q'
  · rcases Nat.lt_or_ge x l with q | q
    · exact .inl q
    · rcases Nat.lt_or_ge x u with q' | q'
      · exact absurd (hlu x q q') (hf _ (List.mem_cons_of_mem _ (List.mem_map_of_mem hm)))
      · exact .inr q'
/-- One place of owned slots is given another slice. -/
theorem StsO.store {k : Nat} (h : StsO w A n c xss G) (hw : Within lo hi G) (hk : k < n) : ∃ b off H e, A = some ⟨b, off, none⟩ ∧ lo ≤ b ∧ b < hi ∧ b < w.heap.size ∧ w.cell? ⟨b, off + k, none⟩ = some (.slice H (slAt xss k).length e) ∧ w.frozen? ⟨b, off + k, none⟩ = false ∧
    ∀ B d ys, Ints lo hi w B ys.length d ys → (0 < ys.length → ∀ b' o', B = some ⟨b', o', none⟩ → b' ≠ b) → Sts lo hi (w.setCell ⟨b, off + k, none⟩ (.slice B ys.length d)) A n c (xss.set k ys) := by
  have hl := h.len_
  obtain ⟨b, ss, rfl, h2, h3, rfl, h5⟩ := h
  rw [List.length_map] at hl
  obtain ⟨s, hx, hm, hs⟩ := sk_at (ss := ss) (k := k) (by omega)
  obtain ⟨b', off, rfl, q1, q2, hz, hc⟩ := h2.1.2.2.2 (by omega)
  obtain rfl : b' = b := by omega
  have hb := hw _ List.mem_cons_self b' (mem_fp.2 ⟨by omega, rfl⟩)
  have hkl := (List.getElem?_eq_some_iff.1 hx).1
  refine ⟨b', off, s.A, s.c, rfl, hb.1, hb.2, hz, ?_, h2.2 b' off (by omega) rfl k (by omega), fun B d ys hy hne => ?_⟩
  · rw [hs]; exact hc k _ (by rw [List.getElem?_map, hx]; rfl)
  have hput := rowO_put h2 (i := k) (by omega) (.slice B ys.length d)
  refine ⟨ss.set k ⟨ys, B, d, 0⟩, by rw [List.map_set], ?_, fun t ht => ?_⟩
  · rw [List.map_set]
    exact row_in hput.1 fun _ => hb
  · obtain ⟨j, hj, e⟩ := List.getElem_of_mem ht
    rw [List.length_set] at hj
    have hsz : (w.setCell ⟨b', off + k, none⟩ (.slice B ys.length d)).heap.size = w.heap.size := by simp [World.setCell]
    by_cases hjk : j = k
    · subst hjk
      rw [List.getElem_set_self] at e
      rw [← e]
      refine ⟨hy.1, hy.2.1, hy.2.2.1, fun hn => ?_⟩
      obtain ⟨b2, off2, e2, r1, r2, r3, r4⟩ := hy.2.2.2 hn
      have hb2 := hne hn b2 off2 e2
      exact ⟨b2, off2, e2, r1, r2, by omega, fun i hi => (World.cell?_of_block (Below.heap_setCell _ _ _ _ (by exact hb2))).trans (r4 i hi)⟩
    · rw [List.getElem_set_ne (by omega)] at e
      have htj : ss[j]? = some t := by rw [List.getElem?_eq_getElem hj, e]
      have hmt := List.mem_of_getElem? htj
      have hno := (foot_at h5 htj (by omega)).1
      have hto : SkO (w.setCell ⟨b', off + k, none⟩ (.slice B ys.length d)) t := (h3 t hmt).keepC (by omega) fun x hxt => Below.heap_setCell _ _ _ _ (hno x hxt)
      exact ints_in hto.1 fun hn => hw _ (List.mem_cons_of_mem _ (List.mem_map_of_mem hmt)) _ (mem_fp.2 ⟨hn, rfl⟩)
end

/-- What marking makes of slots. -/
def tot (xss : List (List Int)) : Nat := (xss.map List.length).sum
def markSS : Int → List (List Int) → List (List Int)
  | _, [] => []
  | k, x :: xs => marks k x.length :: markSS (k + x.length) xs
theorem markSS_len (k : Int) (xss : List (List Int)) : (markSS k xss).length = xss.length := by
  induction xss generalizing k with
  | nil => rfl
  | cons x xs ih => simp [markSS, ih]
theorem tot_take {xss : List (List Int)} {j : Nat} (h : j < xss.length) : tot (xss.take (j + 1)) = tot (xss.take j) + (slAt xss j).length := by
  unfold tot slAt
  rw [List.take_succ_eq_append_getElem h, List.map_append, List.sum_append, List.getD_eq_getElem?_getD, List.getElem?_eq_getElem h]
  simp
theorem tot_le {xss : List (List Int)} (j : Nat) : tot (xss.take j) ≤ tot xss := by
  unfold tot
  rw [← List.take_append_drop j xss, List.map_append, List.sum_append, List.take_append_drop]
  omega
theorem markSS_snoc (k : Int) (xss : List (List Int)) (x : List Int) : markSS k (xss ++ [x]) = markSS k xss ++ [marks (k + tot xss) x.length] := by
  induction xss generalizing k with
  | nil => simp [markSS, tot]
  | cons q ps ih =>
    simp only [List.cons_append, markSS, ih]
    have : k + ↑(q.length) + ↑(tot ps) = k + ↑(tot (q :: ps)) := by unfold tot; simp; omega
    rw [this]
theorem marked_step {xss : List (List Int)} {j : Nat} (k : Int) (h : j < xss.length) : (markSS k (xss.take j) ++ xss.drop j).set j (marks (k + tot (xss.take j)) (slAt xss j).length) = markSS k (xss.take (j + 1)) ++ xss.drop (j + 1) := by
  have hl : (markSS k (xss.take j)).length = j := by rw [markSS_len, List.length_take]; omega
  rw [List.set_append_right _ _ (by omega), hl, Nat.sub_self, List.drop_eq_getElem_cons h, List.set_cons_zero, List.take_succ_eq_append_getElem h, markSS_snoc, List.append_assoc]
  unfold slAt
  rw [List.getD_eq_getElem?_getD, List.getElem?_eq_getElem h]
  rfl
theorem marked_at {xss : List (List Int)} {j : Nat} (k : Int) (h : j < xss.length) : slAt (markSS k (xss.take j) ++ xss.drop j) j = slAt xss j := by
  have hl : (markSS k (xss.take j)).length = j := by rw [markSS_len, List.length_take]; omega
  unfold slAt
  rw [List.getD_eq_getElem?_getD, List.getElem?_append_right (by omega), hl, Nat.sub_self, List.getElem?_drop, Nat.add_zero, List.getD_eq_getElem?_getD]
theorem markSS_at (k : Int) {xss : List (List Int)} {j : Nat} (h : j < xss.length) : slAt (markSS k xss) j = marks (k + tot (xss.take j)) (slAt xss j).length := by
  induction xss generalizing k j with
  | nil => simp at h
  | cons x xs ih =>
    cases j with
    | zero => simp [markSS, slAt, tot]
    | succ j =>
      have hj : j < xs.length := by simpa using h
      have := ih (k + x.length) hj
      have e1 : slAt (markSS k (x :: xs)) (j + 1) = slAt (markSS (k + x.length) xs) j := rfl
      have e2 : slAt (x :: xs) (j + 1) = slAt xs j := rfl
      rw [e1, e2, this, List.take_succ_cons]
      have : k + ↑(x.length) + ↑(tot (xs.take j)) = k + ↑(tot (x :: xs.take j)) := by unfold tot; simp; omega
      rw [this]

end Cs
end Go.Proofs.Ytoghgliijjfppab
