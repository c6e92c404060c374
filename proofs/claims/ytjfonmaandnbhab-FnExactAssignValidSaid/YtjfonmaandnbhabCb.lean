/-
  Tables of bools in memory: readable ones, owned ones. Nothing of any program.
-/
import Derived.Test.YtjfonmaandnbhabBi
namespace Go.Proofs.Ytjfonmaandnbhab
open Go.RowKit
namespace Cb
open Il Sl Fo Bi

/-- A slot: its numbers, its slice, the block that it lies in (where that is asked). -/
structure Bk where
  xs : List Bool
  A : Option Addr
  c : Nat
  g : Nat
def Bk.cell (s : Bk) : Value := .slice s.A s.xs.length s.c
def fpb (s : Bk) : List Nat := fp s.xs.length s.g
/-- Slots that can be read. -/
def Bts (lo hi : Nat) (w : World) (A : Option Addr) (n c : Nat) (xss : List (List Bool)) : Prop :=
  ∃ ss : List Bk, ss.map (·.xs) = xss ∧ Row lo hi w A n c 1 (ss.map Bk.cell) ∧ ∀ s ∈ ss, Bls lo hi w s.A s.xs.length s.c s.xs
def BkO (w : World) (s : Bk) : Prop := Blo s.g (s.g + 1) w s.A s.xs.length s.c s.xs
/-- Slots of the call's own. -/
def BtsO (w : World) (A : Option Addr) (n c : Nat) (xss : List (List Bool)) (G : List (List Nat)) : Prop :=
  ∃ (b : Nat) (ss : List Bk), ss.map (·.xs) = xss ∧ RowO b (b + 1) w A n c 1 (ss.map Bk.cell) ∧ (∀ s ∈ ss, BkO w s) ∧ G = fp n b :: ss.map fpb ∧ Foot G
section
variable {lo hi lo' hi' : Nat} {w w' : World} {A : Option Addr} {n c : Nat} {xss : List (List Bool)} {G : List (List Nat)}
def blAt (sl : List (List Bool)) (k : Nat) : List Bool := sl.getD k []
theorem Bts.keep (h : Bts lo hi w A n c xss) (hs : w.heap.size ≤ w'.heap.size) (hk : ∀ b, lo ≤ b → b < hi → b < w.heap.size → w'.heap[b]? = w.heap[b]?) : Bts lo hi w' A n c xss := by
  obtain ⟨ss, h1, h2, h3⟩ := h
  exact ⟨ss, h1, h2.keep hs hk, fun s hs' => (h3 s hs').keep hs hk⟩
theorem Bts.mono (h : Bts lo hi w A n c xss) (h1 : lo' ≤ lo) (h2 : hi ≤ hi') : Bts lo' hi' w A n c xss := by
  obtain ⟨ss, e1, e2, e3⟩ := h
  exact ⟨ss, e1, e2.mono h1 h2, fun s hs => (e3 s hs).mono h1 h2⟩
theorem Bts.below {B : Nat} (h : Bts lo hi w A n c xss) (hb : Below B w w') (hB : w.heap.size ≤ B) : Bts lo hi w' A n c xss := h.keep hb.size fun b _ _ hz => hb.block b (by omega)
theorem Bts.below' {B : Nat} (h : Bts lo hi w A n c xss) (hb : Below B w w') (hB : hi ≤ B) : Bts lo hi w' A n c xss := h.keep hb.size fun b _ h2 _ => hb.block b (by omega)
theorem Bts.kept {l2 h2 : Nat} (h : Bts lo hi w A n c xss) (hk : Kept l2 h2 w w') (hd : hi ≤ l2 ∨ h2 ≤ lo) : Bts lo hi w' A n c xss := h.keep (Nat.le_of_eq hk.size.symm) fun b h1 h2 _ => hk.block b (by omega)
theorem Bts.grown {row : Option Nat} (h : Bts lo hi w A n c xss) (hg : w.grownBy w' row) (hr : ∀ k, row = some k → k < lo ∨ hi ≤ k) : Bts lo hi w' A n c xss :=
  h.keep hg.size fun b h1 h2 hz => hg.block b hz (fun e => by have := hr b e.symm; omega)
theorem Bts.keptG {l2 h2 : Nat} (h : Bts lo hi w A n c xss) (hk : KeptG G w w') (hw : Within l2 h2 G) (hd : hi ≤ l2 ∨ h2 ≤ lo) : Bts lo hi w' A n c xss := h.keep hk.size fun b h1 h2 h3 => keptG_at hk hw b h3 (by omega)
theorem Bts.drewN (h : Bts lo hi w A n c xss) (d : Nat) : Bts lo hi (w.drewN d) A n c xss := h
theorem bls_topS {xs : List Bool} (h : Bls lo hi w A n c xs) (hl : lo' ≤ lo) : Bls lo' w.heap.size w A n c xs :=
  ⟨h.1, h.2.1, h.2.2.1, fun hn => by
    obtain ⟨b, off, e, h1, _, hz, hc⟩ := h.2.2.2 hn
    exact ⟨b, off, e, by omega, hz, hz, hc⟩⟩
theorem Bts.top (h : Bts lo hi w A n c xss) (hl : lo' ≤ lo) : Bts lo' w.heap.size w A n c xss := by
  obtain ⟨ss, e1, e2, e3⟩ := h
  exact ⟨ss, e1, e2.top hl, fun s hs => bls_topS (e3 s hs) hl⟩
theorem Bts.len_ (h : Bts lo hi w A n c xss) : xss.length = n := by
  obtain ⟨ss, rfl, h2, _⟩ := h
  have := h2.1
  rw [List.length_map] at this ⊢
  omega
theorem Bts.cap_ (h : Bts lo hi w A n c xss) : n ≤ c := by
  obtain ⟨ss, _, h2, _⟩ := h
  exact h2.2.1
theorem Bts.max_ (h : Bts lo hi w A n c xss) : c ≤ maxLen := by
  obtain ⟨ss, _, h2, _⟩ := h
  exact h2.2.2.1
theorem Bts.nil_ (hc : c ≤ maxLen) : Bts lo hi w A 0 c [] := ⟨[], rfl, Row.nil_ hc, fun _ h => by simp at h⟩
theorem Bts.take {k : Nat} (h : Bts lo hi w A n c xss) (hk : k ≤ n) : Bts lo hi w A k c (xss.take k) := by
  obtain ⟨ss, rfl, h2, h3⟩ := h
  refine ⟨ss.take k, by rw [List.map_take], ?_, fun s hs => h3 s (List.mem_of_mem_take hs)⟩
  have := h2.take hk
  rw [Nat.mul_one] at this
  rw [List.map_take]
  exact this
theorem bk_at {ss : List Bk} {k : Nat} (hk : k < ss.length) : ∃ s, ss[k]? = some s ∧ s ∈ ss ∧ blAt (ss.map (·.xs)) k = s.xs := by
  refine ⟨ss[k], List.getElem?_eq_getElem hk, List.getElem_mem _, ?_⟩
  unfold blAt
  rw [List.getD_eq_getElem?_getD, List.getElem?_map, List.getElem?_eq_getElem hk]; rfl
/-- One place. -/
theorem Bts.at_ {k : Nat} (h : Bts lo hi w A n c xss) (hk : k < n) : ∃ b off H e, A = some ⟨b, off, none⟩ ∧ lo ≤ b ∧ b < hi ∧ b < w.heap.size ∧
    w.cell? ⟨b, off + k, none⟩ = some (.slice H (blAt xss k).length e) ∧ Bls lo hi w H (blAt xss k).length e (blAt xss k) := by
  have hl := h.len_
  obtain ⟨ss, rfl, h2, h3⟩ := h
  rw [List.length_map] at hl
  obtain ⟨s, hx, hm, hs⟩ := bk_at (ss := ss) (k := k) (by omega)
  obtain ⟨b, off, rfl, hb, hb', hz, hc⟩ := h2.2.2.2 (by omega)
  refine ⟨b, off, s.A, s.c, rfl, hb, hb', hz, ?_, ?_⟩
  · rw [hs]
    exact hc k _ (by rw [List.getElem?_map, hx]; rfl)
  · rw [hs]; exact h3 s hm
theorem BkO.keepC {s : Bk} (h : BkO w s) (hs : w.heap.size ≤ w'.heap.size) (hk : ∀ x ∈ fpb s, w'.heap[x]? = w.heap[x]?) : BkO w' s := blo_keepC h hs fun hn => hk _ (mem_fp.2 ⟨hn, rfl⟩)
theorem BtsO.keep (h : BtsO w A n c xss G) (hs : w.heap.size ≤ w'.heap.size) (hk : ∀ f ∈ G, ∀ x ∈ f, w'.heap[x]? = w.heap[x]?) : BtsO w' A n c xss G := by
  obtain ⟨b, ss, h1, h2, h3, rfl, h5⟩ := h
  exact ⟨b, ss, h1, rowO_keepC h2 hs fun hn => hk _ List.mem_cons_self _ (mem_fp.2 ⟨hn, rfl⟩), fun s hs' => (h3 s hs').keepC hs fun x hx => hk _ (List.mem_cons_of_mem _ (List.mem_map_of_mem hs')) x hx, rfl, h5⟩
theorem BkO.lt_ {s : Bk} (h : BkO w s) : ∀ x ∈ fpb s, x < w.heap.size := fun x hx => by
  obtain ⟨hn, rfl⟩ := mem_fp.1 hx
  exact blo_ltC h hn
theorem BtsO.lt_ (h : BtsO w A n c xss G) : Within 0 w.heap.size G := by
  obtain ⟨b, ss, h1, h2, h3, rfl, h5⟩ := h
  intro f hf x hx
  rcases List.mem_cons.1 hf with rfl | hf
  · obtain ⟨hn, rfl⟩ := mem_fp.1 hx
    exact ⟨Nat.zero_le _, rowO_ltC h2 hn⟩
  · obtain ⟨s, hs, rfl⟩ := List.mem_map.1 hf
    exact ⟨Nat.zero_le _, (h3 s hs).lt_ x hx⟩
theorem BtsO.below {K : Nat} (h : BtsO w A n c xss G) (hb : Below K w w') (hB : w.heap.size ≤ K) : BtsO w' A n c xss G :=
  h.keep hb.size fun f hf x hx => hb.block x (by have := h.lt_ f hf x hx; omega)
theorem BtsO.keptG {H : List (List Nat)} {l2 h2 : Nat} (h : BtsO w A n c xss H) (hk : KeptG G w w') (hw : Within l2 h2 G) (hh : Within lo hi H) (hd : hi ≤ l2 ∨ h2 ≤ lo) : BtsO w' A n c xss H :=
  h.keep hk.size fun f hf y hy => keptG_at hk hw y (h.lt_ f hf y hy).2 (by have := hh f hf y hy; omega)
theorem BtsO.kept {H : List (List Nat)} {l2 h2 : Nat} (h : BtsO w A n c xss H) (hk : Kept l2 h2 w w') (hh : Within lo hi H) (hd : hi ≤ l2 ∨ h2 ≤ lo) : BtsO w' A n c xss H :=
  h.keep (Nat.le_of_eq hk.size.symm) fun f hf y hy => hk.block y (by have := hh f hf y hy; omega)
theorem BtsO.drewN (h : BtsO w A n c xss G) (d : Nat) : BtsO (w.drewN d) A n c xss G := h
theorem BtsO.sts (h : BtsO w A n c xss G) (hw : Within lo hi G) : Bts lo hi w A n c xss := by
  obtain ⟨b, ss, h1, h2, h3, rfl, h5⟩ := h
  exact ⟨ss, h1, row_in h2.1 fun hn => hw _ List.mem_cons_self _ (mem_fp.2 ⟨hn, rfl⟩), fun s hs => bls_in (h3 s hs).1 fun hn => hw _ (List.mem_cons_of_mem _ (List.mem_map_of_mem hs)) _ (mem_fp.2 ⟨hn, rfl⟩)⟩
theorem BtsO.len_ (h : BtsO w A n c xss G) : xss.length = n := (h.sts h.lt_).len_
theorem BtsO.nil_ (hc : c ≤ maxLen) : BtsO w A 0 c [] [[]] := ⟨0, [], rfl, RowO.nil_ hc, fun _ h => by simp at h, rfl, by simp [Foot]⟩
theorem withinB_nil : Within lo hi [[]] := by intro f hf x hx; simp at hf; subst hf; simp at hx
theorem footB_at {n b : Nat} {ss : List Bk} (h : Foot (fp n b :: ss.map fpb)) {k : Nat} {s : Bk} (hx : ss[k]? = some s) (hn : 0 < n) :
    (∀ x ∈ fpb s, x ≠ b) ∧ ∀ (j : Nat) (t : Bk), ss[j]? = some t → j ≠ k → ∀ x ∈ fpb t, x ∉ fpb s := by
  unfold Foot at h
  rw [List.pairwise_cons] at h
  obtain ⟨hp1, hp2⟩ := h
  refine ⟨fun x hxs e => hp1 _ (List.mem_map_of_mem (List.mem_of_getElem? hx)) b (mem_fp.2 ⟨hn, rfl⟩) (e ▸ hxs), fun j t ht hne x hxt hxs => ?_⟩
  have hj := (List.getElem?_eq_some_iff.1 ht).1
  have hk := (List.getElem?_eq_some_iff.1 hx).1
  have e1 : (ss.map fpb)[j]'(by simpa using hj) = fpb t := by simp [(List.getElem?_eq_some_iff.1 ht).2]
  have e2 : (ss.map fpb)[k]'(by simpa using hk) = fpb s := by simp [(List.getElem?_eq_some_iff.1 hx).2]
  rcases Nat.lt_or_ge j k with q | q
  · have := (List.pairwise_iff_getElem.1 hp2) j k (by simpa using hj) (by simpa using hk) q
    rw [e1, e2] at this
    exact this x hxt hxs
  · have := (List.pairwise_iff_getElem.1 hp2) k j (by simpa using hk) (by simpa using hj) (by omega)
    rw [e1, e2] at this
    exact this x hxs hxt
end
/-- What marking makes of slots. -/
def totB (xss : List (List Bool)) : Nat := (xss.map List.length).sum
theorem totB_take {xss : List (List Bool)} {j : Nat} (h : j < xss.length) : totB (xss.take (j + 1)) = totB (xss.take j) + (blAt xss j).length := by
  unfold totB blAt
  rw [List.take_succ_eq_append_getElem h, List.map_append, List.sum_append, List.getD_eq_getElem?_getD, List.getElem?_eq_getElem h]
  simp
theorem totB_le {xss : List (List Bool)} (j : Nat) : totB (xss.take j) ≤ totB xss := by
  unfold totB
  rw [← List.take_append_drop j xss, List.map_append, List.sum_append, List.take_append_drop]
  omega
theorem takeB_slot {sl : List (List Bool)} {j : Nat} (h : j < sl.length) : sl.take j ++ [blAt sl j] = sl.take (j + 1) := by
  rw [List.take_succ_eq_append_getElem h]
  unfold blAt
  rw [List.getD_eq_getElem?_getD, List.getElem?_eq_getElem h]
  rfl
/-- One place of owned slots is given a new slice. -/
theorem setNB {w : World} {A : Option Addr} {n c : Nat} {xss : List (List Bool)} {G : List (List Nat)} {k : Nat} (h : BtsO w A n c xss G) (hk : k < n) : ∃ b off H e, A = some ⟨b, off, none⟩ ∧ b < w.heap.size ∧ (∃ f ∈ G, b ∈ f) ∧ w.cell? ⟨b, off + k, none⟩ = some (.slice H (blAt xss k).length e) ∧ w.frozen? ⟨b, off + k, none⟩ = false ∧
    ∀ (w' : World) (x : Bk), w.heap.size ≤ w'.heap.size → (∀ f ∈ G, ∀ y ∈ f, w'.heap[y]? = w.heap[y]?) → BkO w' x → (∀ y ∈ fpb x, w.heap.size ≤ y ∧ y < w'.heap.size) →
      ∃ G', BtsO (w'.setCell ⟨b, off + k, none⟩ x.cell) A n c (xss.set k x.xs) G' ∧ ∀ f ∈ G', ∀ y ∈ f, (∃ g ∈ G, y ∈ g) ∨ y ∈ fpb x := by
  have hl := h.len_
  have hlt := h.lt_
  obtain ⟨b, ss, rfl, h2, h3, rfl, h5⟩ := h
  rw [List.length_map] at hl
  obtain ⟨s, hx, hm, hs⟩ := bk_at (ss := ss) (k := k) (by omega)
  obtain ⟨b', off, rfl, q1, q2, hz, hc⟩ := h2.1.2.2.2 (by omega)
  obtain rfl : b' = b := by omega
  have hkl := (List.getElem?_eq_some_iff.1 hx).1
  have hbm : b' ∈ fp n b' := mem_fp.2 ⟨by omega, rfl⟩
  refine ⟨b', off, s.A, s.c, rfl, hz, ⟨_, List.mem_cons_self .., hbm⟩, ?_, h2.2 b' off (by omega) rfl k (by omega), fun w' x hsw hkp hxo hxf => ?_⟩
  · rw [hs]; exact hc k _ (by rw [List.getElem?_map, hx]; rfl)
  have h2' := rowO_keepC h2 hsw fun _ => hkp _ (List.mem_cons_self ..) b' hbm
  have hput := rowO_put h2' (i := k) (by omega) x.cell
  have hsz : (w'.setCell ⟨b', off + k, none⟩ x.cell).heap.size = w'.heap.size := by simp [World.setCell]
  have hset : ∀ t ∈ ss.set k x, t ∈ ss ∨ t = x := fun t ht => List.mem_or_eq_of_mem_set ht
  refine ⟨fp n b' :: (ss.set k x).map fpb, ⟨b', ss.set k x, by rw [List.map_set], by rw [List.map_set]; exact hput, fun t ht => ?_, rfl, ?_⟩, ?_⟩
  · obtain ⟨j, hj, e⟩ := List.getElem_of_mem ht
    rw [List.length_set] at hj
    by_cases hjk : j = k
    · subst hjk
      rw [List.getElem_set_self] at e
      rw [← e]
      exact hxo.keepC (by omega) fun y hy => Below.heap_setCell _ _ _ _ (show y ≠ b' by have := hxf y hy; omega)
    · rw [List.getElem_set_ne (by omega)] at e
      have htj : ss[j]? = some t := by rw [List.getElem?_eq_getElem hj, e]
      have hmt := List.mem_of_getElem? htj
      have hno := (footB_at h5 htj (by omega)).1
      exact (h3 t hmt).keepC (by omega) fun y hyt => (Below.heap_setCell _ _ _ _ (hno y hyt)).trans (hkp _ (List.mem_cons_of_mem _ (List.mem_map_of_mem hmt)) y hyt)
  · unfold Foot at h5 ⊢
    rw [List.pairwise_cons] at h5 ⊢
    refine ⟨fun f hf y q1 q2 => ?_, ?_⟩
    · obtain ⟨t, ht, rfl⟩ := List.mem_map.1 hf
      rcases hset t ht with ht | rfl
      · exact h5.1 _ (List.mem_map_of_mem ht) y q1 q2
      · have := (mem_fp.1 q1).2
        have := hxf y q2
        omega
    · rw [List.map_set]
      refine List.pairwise_iff_getElem.2 fun i j hi hj hij => ?_
      rw [List.length_set] at hi hj
      have hold := List.pairwise_iff_getElem.1 h5.2 i j hi hj hij
      rw [List.getElem_set, List.getElem_set]
      split
      · rename_i e1
        rw [if_neg (by omega)]
        intro y q1 q2
        have := hxf y q1
        have := hlt _ (List.mem_cons_of_mem _ (List.getElem_mem hj)) y q2
        omega
      · split
        · intro y q1 q2
          have := hxf y q2
          have := hlt _ (List.mem_cons_of_mem _ (List.getElem_mem hi)) y q1
          omega
        · exact hold
  · intro f hf y hy
    rcases List.mem_cons.1 hf with rfl | hf
    · exact .inl ⟨_, List.mem_cons_self .., hy⟩
    · obtain ⟨t, ht, rfl⟩ := List.mem_map.1 hf
      rcases hset t ht with ht | rfl
      · exact .inl ⟨_, List.mem_cons_of_mem _ (List.mem_map_of_mem ht), hy⟩
      · exact .inr hy
end Cb
end Go.Proofs.Ytjfonmaandnbhab
