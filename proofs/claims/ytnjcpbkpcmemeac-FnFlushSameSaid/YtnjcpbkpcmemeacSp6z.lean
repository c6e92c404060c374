/-
  Several parts of the proof in one text.
-/
import Derived.Test.YtnjcpbkpcmemeacSp6c
import Derived.StillTailTactics
/-
  Contracts of the model's chapter 11: the order of passing on, and MixFlush.
-/
namespace Go.Proofs.Ytnjcpbkpcmemeac
open Go.RowKit
namespace Sp6
open Il Gm Mm Tm Lm Pm Pq Hlp5 Sl Mm6 Sp2

theorem l11Less (a b : Pld) (A B A2 B2 : Option Addr) (n c m d n2 c2 m2 d2 : Nat) (w : World) :
    Calls Try.prog 73 #[.agg #[.int .i64 a.kind, .int .i64 a.next, .int .i64 a.pk.el, .slice A n c, .int .i64 a.pk.tag, .slice B m d], .agg #[.int .i64 b.kind, .int .i64 b.next, .int .i64 b.pk.el, .slice A2 n2 c2, .int .i64 b.pk.tag, .slice B2 m2 d2]] w (BoolB (less a b) w) := by
  have h0 : Below w.heap.size w (w.alloc (.cells #[.int .i64 a.kind, .int .i64 a.next, .int .i64 a.pk.el, .slice A n c, .int .i64 a.pk.tag, .slice B m d] 39)) := (Below.refl _ _).alloc (Nat.le_refl _) _
  have B0 := Lib.hid (h0.alloc h0.size (.cells #[.int .i64 b.kind, .int .i64 b.next, .int .i64 b.pk.el, .slice A2 n2 c2, .int .i64 b.pk.tag, .slice B2 m2 d2] 39))
  have HL : Hid (less a b = (bif a.kind != b.kind then decide (a.kind < b.kind) else bif a.next != b.next then decide (a.next < b.next) else bif a.pk.el != b.pk.el then decide (a.pk.el < b.pk.el) else decide (a.pk.tag < b.pk.tag))) := rfl
  clear h0
  cases e1 : (a.kind != b.kind)
  · cases e2 : (a.next != b.next)
    · cases e3 : (a.pk.el != b.pk.el)
      · have HV : Hid (less a b = decide (a.pk.tag < b.pk.tag)) := by show _ = _; rw [HL.out, e1, e2, e3]; rfl
        clear HL
        go_enter Try.func73, Try.ntmps73
        go_wp2
        go_ret
        rw [HV.out]
        exact ⟨rfl, B0.out⟩
      · have HV : Hid (less a b = decide (a.pk.el < b.pk.el)) := by show _ = _; rw [HL.out, e1, e2, e3]; rfl
        clear HL
        go_enter Try.func73, Try.ntmps73
        go_wp2
        go_ret
        rw [HV.out]
        exact ⟨rfl, B0.out⟩
    · have HV : Hid (less a b = decide (a.next < b.next)) := by show _ = _; rw [HL.out, e1, e2]; rfl
      clear HL
      go_enter Try.func73, Try.ntmps73
      go_wp2
      go_ret
      rw [HV.out]
      exact ⟨rfl, B0.out⟩
  · have HV : Hid (less a b = decide (a.kind < b.kind)) := by show _ = _; rw [HL.out, e1]; rfl
    clear HL
    go_enter Try.func73, Try.ntmps73
    go_wp2
    go_ret
    rw [HV.out]
    exact ⟨rfl, B0.out⟩

/-- A place of a row of slots. -/
theorem row_at {lo hi : Nat} {w : World} {A : Option Addr} {n c k : Nat} {ss : List Slot} (h : Row lo hi w A n c 6 (ss.flatMap Slot.cells)) (hk : k < n) : ∃ b off s, A = some ⟨b, off, none⟩ ∧ lo ≤ b ∧ b < hi ∧ ss[k]? = some s ∧
    w.cell? ⟨b, off + k * 6, none⟩ = some (.int .i64 s.p.kind) ∧ w.cell? ⟨b, off + k * 6 + 1, none⟩ = some (.int .i64 s.p.next) ∧ w.cell? ⟨b, off + k * 6 + 2, none⟩ = some (.int .i64 s.p.pk.el) ∧
    w.cell? ⟨b, off + k * 6 + 3, none⟩ = some (.slice s.A s.p.pk.hd.length s.c) ∧ w.cell? ⟨b, off + k * 6 + 4, none⟩ = some (.int .i64 s.p.pk.tag) ∧ w.cell? ⟨b, off + k * 6 + 5, none⟩ = some (.slice s.B s.p.pk.bd.length s.d) := by
  have hl := h.1
  rw [flat_len cells_len] at hl
  obtain ⟨b, off, rfl, hb, hb', hz, hc⟩ := h.2.2.2 (by omega)
  have hx : ss[k]? = some (ss[k]'(by omega)) := List.getElem?_eq_getElem (by omega)
  generalize ss[k]'(by omega) = s at hx
  have hcell : ∀ i v, i < 6 → s.cells[i]? = some v → w.cell? ⟨b, off + k * 6 + i, none⟩ = some v := fun i v hi hv => by
    rw [Nat.add_assoc]
    exact hc _ v (by rw [flat_at cells_len hx hi]; exact hv)
  exact ⟨b, off, s, rfl, hb, hb', hx, hcell 0 _ (by omega) rfl, hcell 1 _ (by omega) rfl, hcell 2 _ (by omega) rfl, hcell 3 _ (by omega) rfl, hcell 4 _ (by omega) rfl, hcell 5 _ (by omega) rfl⟩
theorem row_len {lo hi : Nat} {w : World} {A : Option Addr} {n c : Nat} {ss : List Slot} (h : Row lo hi w A n c 6 (ss.flatMap Slot.cells)) : ss.length = n := by
  have hl := h.1
  rw [flat_len cells_len] at hl
  omega

/-- list[k:], where there is more room than k. -/
theorem row_drop {lo hi b off n c k : Nat} {w : World} {ss : List Slot} (h : Row lo hi w (some ⟨b, off, none⟩) n c 6 (ss.flatMap Slot.cells)) (hk : k ≤ n) : Row lo hi w (some ⟨b, off + k * 6, none⟩) (n - k) (c - k) 6 ((ss.drop k).flatMap Slot.cells) := by
  have hl := row_len h
  have hc := h.2.1
  refine ⟨by rw [flat_len cells_len, List.length_drop, hl], by omega, by have := h.2.2.1; omega, fun hn => ?_⟩
  obtain ⟨b', off', e, h1, h2, h3, h4⟩ := h.2.2.2 (by omega)
  simp only [Option.some.injEq, Addr.mk.injEq, and_true] at e
  obtain ⟨rfl, rfl⟩ := e
  refine ⟨b, off + k * 6, rfl, h1, h2, h3, fun i v hv => ?_⟩
  rw [Nat.add_assoc]
  apply h4
  rw [flat_drop cells_len, List.getElem?_drop] at hv
  exact hv
theorem row_take {lo hi : Nat} {w : World} {A : Option Addr} {n c k : Nat} {ss : List Slot} (h : Row lo hi w A n c 6 (ss.flatMap Slot.cells)) (hk : k ≤ n) : Row lo hi w A k c 6 ((ss.take k).flatMap Slot.cells) := by
  rw [flat_take cells_len]
  exact h.take hk
theorem ge_of {g' g : Option Nat} {lo b : Nat} (hg : g' = g ∨ ∃ k, g' = some k ∧ b ≤ k) (h1 : ∀ q, g = some q → lo ≤ q) (h2 : lo ≤ b) : ∀ q, g' = some q → lo ≤ q := fun q e => by
  rcases hg with h | ⟨k, h, hk⟩
  · exact h1 q (h ▸ e)
  · rw [h] at e
    simp only [Option.some.injEq] at e
    omega
/-- What the loop of l11Sort holds: the first j packets in order, in a row of its own; each is one of those that came in. -/
def SortRel (lo : Nat) (w wr : World) (A0 : Option Addr) (n c : Nat) (ss : List Slot) (g : Nat) (m d : Nat) (os : List Slot) (j : Nat) : Prop :=
  Row 0 lo wr A0 n c 6 (ss.flatMap Slot.cells) ∧ (∀ s ∈ ss, SlotR 0 lo wr s) ∧ Row lo wr.heap.size wr (some ⟨g, 0, none⟩) m d 6 (os.flatMap Slot.cells) ∧ (∀ s ∈ os, s ∈ ss) ∧ os.map (·.p) = sortP ((ss.map (·.p)).take j) ∧ m = j ∧ Below lo w wr ∧ lo ≤ wr.heap.size
theorem SortRel.below {lo : Nat} {w wr w2 : World} {A0 : Option Addr} {n c : Nat} {ss : List Slot} {g : Nat} {m d : Nat} {os : List Slot} {j : Nat} (h : SortRel lo w wr A0 n c ss g m d os j) (hb : Below wr.heap.size wr w2) : SortRel lo w w2 A0 n c ss g m d os j := by
  obtain ⟨h1, h2, h3, h4, h5, h6, h7, h8⟩ := h
  exact ⟨h1.below hb (Nat.le_refl _), fun s hs => ⟨(h2 s hs).1.below hb (Nat.le_refl _), (h2 s hs).2.below hb (Nat.le_refl _)⟩, (h3.below hb (Nat.le_refl _)).mono (Nat.le_refl _) hb.size, h4, h5, h6, h7.trans (hb.mono h8), Nat.le_trans h8 hb.size⟩
/-- All of the first k stand ahead of x. -/
def aheadTo (x : Pld) (ps : List Pld) (k : Nat) : Prop := ∀ i, i < k → less x (pldAt ps i) = false
theorem cut_is {x : Pld} {ps : List Pld} {k : Nat} (h : aheadTo x ps k) (hk : k ≤ ps.length) (he : k < ps.length → less x (pldAt ps k) = true) : cutAt x ps = k := by
  induction ps generalizing k with
  | nil => simp [cutAt] at hk ⊢; omega
  | cons p ps ih =>
    cases k with
    | zero =>
      have := he (by simp)
      simp [cutAt, pldAt] at this ⊢
      rw [List.takeWhile_cons]
      simp [this]
    | succ k =>
      have h0 := h 0 (by omega)
      have ih' := ih (k := k) (fun i hi => h (i + 1) (by omega)) (by simpa using hk) (fun hl => he (by simpa using hl))
      simp [pldAt] at h0
      unfold cutAt at ih' ⊢
      rw [List.takeWhile_cons]
      simp [h0, ih']
theorem sort_step {ps : List Pld} {j : Nat} (h : j < ps.length) : sortP (ps.take (j + 1)) = insP (pldAt ps j) (sortP (ps.take j)) := by
  rw [← take_snoc h]
  unfold sortP
  rw [List.foldl_append]
  rfl
theorem sort_fin {lo : Nat} {w w1 w7 : World} {A0 : Option Addr} {n c g d j k m : Nat} {ss os : List Slot} {s : Slot} {g7 : Option Nat} {v7 : Value} {vs : List Value} (h : SortRel lo w w1 A0 n c ss g j d os j) (hb : Below w1.heap.size w1 w7) (hd : Dest 39 6 g7 w7 v7 m vs) (hq : ∀ q, g7 = some q → w1.heap.size ≤ q)
    (hm : m = j + 1) (hvs : vs = (os.take k ++ s :: os.drop k).flatMap Slot.cells) (hsx : ss[j]? = some s) (hcut : cutAt s.p (os.map (·.p)) = k) : ∃ g' d' os', v7 = .slice (some ⟨g', 0, none⟩) (j + 1) d' ∧ SortRel lo w w7 A0 n c ss g' (j + 1) d' os' (j + 1) := by
  obtain ⟨h1, h2, h3, h4, h5, h6, h7, h8⟩ := h
  subst hm
  rcases hd with ⟨_, q, _⟩ | ⟨q, rfl, ha⟩
  · omega
  obtain ⟨cap, rfl, hr⟩ := ha.row
  have hqw := hq q rfl
  have hql := ha.lt
  refine ⟨q, cap, os.take k ++ s :: os.drop k, rfl, h1.below hb (Nat.le_refl _), fun t ht => ⟨(h2 t ht).1.below hb (Nat.le_refl _), (h2 t ht).2.below hb (Nat.le_refl _)⟩, ?_, fun t ht => ?_, ?_, rfl, h7.trans (hb.mono h8), Nat.le_trans h8 hb.size⟩
  · rw [← hvs]
    exact hr.1.mono (by omega) (by omega)
  · rcases List.mem_append.1 ht with h | h
    · exact h4 t (List.mem_of_mem_take h)
    · rcases List.mem_cons.1 h with rfl | h
      · exact List.mem_of_getElem? hsx
      · exact h4 t (List.mem_of_mem_drop h)
  · have hjl : j < (ss.map (·.p)).length := by
      rw [List.length_map]
      exact (List.getElem?_eq_some_iff.1 hsx).1
    have hpj : pldAt (ss.map (·.p)) j = s.p := by
      unfold pldAt
      rw [List.getD_eq_getElem?_getD, List.getElem?_map, hsx]
      rfl
    rw [sort_step hjl, hpj, ← h5]
    unfold insP
    rw [hcut, List.map_append, List.map_cons, List.map_take, List.map_drop]
set_option maxRecDepth 20000 in
set_option maxHeartbeats 4000000 in
theorem l11Sort (lo hi : Nat) (A : Option Addr) (n c : Nat) (ps : List Pld) (w : World) (hx : Pool lo hi w A n c ps) (hn : n ≤ 1000) (hh : ∀ p ∈ ps, p.pk.hd.length ≤ 1000 ∧ p.pk.bd.length ≤ 1000) :
    Calls Try.prog 41 #[.slice A n c] w (PoolP (sortP ps) w) := by
  have hc1 := hx.max_
  have hc2 := hx.cap_
  have HL := Lib.hid hx.len_
  unfold maxLen at hc1
  obtain ⟨ss, hmap, hrow, hsl⟩ := hx.top (Nat.zero_le _)
  have hal : Below w.heap.size w (w.alloc (.cells #[] 39)) := (Below.refl _ _).alloc (Nat.le_refl _) _
  have HR0 : Hid (SortRel w.heap.size w (w.alloc (.cells #[] 39)) A n c ss w.heap.size 0 0 [] 0) :=
    ⟨hrow.below hal (Nat.le_refl _), fun s hs => ⟨(hsl s hs).1.below hal (Nat.le_refl _), (hsl s hs).2.below hal (Nat.le_refl _)⟩, Row.nil_ (Nat.zero_le _), fun s hs => by simp at hs, rfl, rfl, hal, hal.size⟩
  have HMAP := Lib.hid hmap
  have HH := Lib.hid hh
  have HSL : Hid (ss.length = n) := by show ss.length = n; rw [← HL.out, ← hmap, List.length_map]
  clear hx hal hmap hrow hsl hh
  go_enter Try.func41, Try.ntmps41
  go_wp2
  go_loopw [3, 4] (fun v i wr => ∃ (j d g : Nat) (os : List Slot), j ≤ n ∧ i = .int .i64 j ∧ v = .slice (some ⟨g, 0, none⟩) j d ∧ Hid (SortRel w.heap.size w wr A n c ss g j d os j)) (fun _ i _ => n - (intOf i).toNat)
  case atStart => exact ⟨0, 0, _, [], Nat.zero_le _, rfl, rfl, HR0.out⟩
  case round =>
    obtain ⟨j, d, g, os, hj, rfl, rfl, hR⟩ := hrel
    clear HR0
    by_cases hlj : j < n
    · go_wp2
      go_loopw [5] (fun i wr => ∃ k : Nat, k ≤ j ∧ i = .int .i64 k ∧ Hid (SortRel w.heap.size w wr A n c ss g j d os j) ∧ Hid (aheadTo (pldAt ps j) (os.map (·.p)) k)) (fun i _ => j - (intOf i).toNat)
      case atStart => exact ⟨0, Nat.zero_le _, rfl, hR.out, fun i hi => absurd hi (by omega)⟩
      case round =>
        obtain ⟨k, hk, rfl, hS, hA⟩ := hrel
        clear hR
        obtain ⟨b, off, s, rfl, _, _, hsx, c0, c1, c2, c3, c4, c5⟩ := row_at hS.out.1 hlj
        have hsp : s.p = pldAt ps j := by
          unfold pldAt
          rw [← HMAP.out, List.getD_eq_getElem?_getD, List.getElem?_map, hsx]
          rfl
        by_cases hlk : k < j
        · obtain ⟨b2, off2, s2, eg, _, _, hsx2, y0, y1, y2, y3, y4, y5⟩ := row_at hS.out.2.2.1 hlk
          simp only [Option.some.injEq, Addr.mk.injEq, and_true] at eg
          obtain ⟨rfl, rfl⟩ := eg
          rw [Nat.zero_add] at y0 y1 y2 y3 y4 y5
          have hsp2 : s2.p = pldAt (os.map (·.p)) k := by
            unfold pldAt
            rw [List.getD_eq_getElem?_getD, List.getElem?_map, hsx2]
            rfl
          have HSP := Lib.hid hsp
          have HSP2 := Lib.hid hsp2
          clear hsp hsp2 hsx hsx2
          go_wp2
          go_still_tail 13, (by kernel_rfl)
          change wpList _ _ _ _ _ wr.drew
          cases hle : less s.p s2.p
          · have HN : Hid (aheadTo (pldAt ps j) (os.map (·.p)) (k + 1)) := fun i hi => by
              rcases Nat.lt_or_ge i k with h3 | h3
              · exact hA.out i h3
              · obtain rfl : i = k := by omega
                rw [← HSP.out, ← HSP2.out]; exact hle
            go_wp2_with fail
            ((with_reducible refine (l11Less s.p s2.p _ _ _ _ _ _ _ _ _ _ _ _ _).mono ?_); rintro e w1 ⟨rfl, hb⟩)
            rw [hle]
            have HS2 := Lib.hid (hS.out.below (below_drew hb))
            clear hle hb hS hA c0 c1 c2 c3 c4 c5 y0 y1 y2 y3 y4 y5
            go_wp2
            go_roundw
            case rel => exact ⟨k + 1, by omega, by go_num, HS2.out, HN.out⟩
            case measure => simp [intOf]; omega
          · have HCUT : Hid (cutAt (pldAt ps j) (os.map (·.p)) = k) := cut_is hA.out (by rw [List.length_map, row_len hS.out.2.2.1]; omega) (fun _ => by rw [← HSP.out, ← HSP2.out]; exact hle)
            go_wp2_with fail
            ((with_reducible refine (l11Less s.p s2.p _ _ _ _ _ _ _ _ _ _ _ _ _).mono ?_); rintro e w1 ⟨rfl, hb⟩)
            rw [hle]
            have HS2 := Lib.hid (hS.out.below (below_drew hb))
            clear hle hb hS hA c0 c1 c2 c3 c4 c5 y0 y1 y2 y3 y4 y5 HSP HSP2
            go_wp2
            have hkd : k < d := by have := HS2.out.2.2.1.2.1; omega
            have hjd : j ≤ d := HS2.out.2.2.1.2.1
            have i0 : (0 : Int) ≤ (k : Int) := by omega
            have i1 : (k : Int) ≤ (j : Int) := by omega
            have i2 : (k : Int) ≤ (d : Int) := by omega
            have i3 : (j : Int) ≤ (d : Int) := by omega
            have i4 : ¬ (k : Int) = (d : Int) := by omega
            have i5 : ¬ d = k := by omega
            have i6 : ¬ k = d := by omega
            obtain ⟨b', off', s, e', hb1, hb2, hsx, c0, c1, c2, c3, c4, c5⟩ := row_at HS2.out.1 hlj
            simp only [Option.some.injEq, Addr.mk.injEq, and_true] at e'
            obtain ⟨rfl, rfl⟩ := e'
            have hlo := HS2.out.2.2.2.2.2.2.2
            have hbl : b < w1.heap.size := by omega
            have hal : Below w1.heap.size w1 ((w1.alloc (.cells #[] 39)).drew) := below_dr ((Below.refl _ w1).alloc (Nat.le_refl _) _) 1
            have hal2 : Below w1.heap.size w1 (((w1.alloc (.cells #[] 39)).alloc (.cells #[.int .i64 s.p.kind, .int .i64 s.p.next, .int .i64 s.p.pk.el, .slice s.A s.p.pk.hd.length s.c, .int .i64 s.p.pk.tag, .slice s.B s.p.pk.bd.length s.d] 39)).drew) := below_dr (((Below.refl _ w1).alloc (Nat.le_refl _) _).alloc (by simp) _) 1
            have SA : Hid (w1.drew.cell? ⟨b, off + j * 6, none⟩ = some (.int .i64 s.p.kind) ∧ w1.drew.cell? ⟨b, off + j * 6 + 1, none⟩ = some (.int .i64 s.p.next) ∧ w1.drew.cell? ⟨b, off + j * 6 + 2, none⟩ = some (.int .i64 s.p.pk.el) ∧ w1.drew.cell? ⟨b, off + j * 6 + 3, none⟩ = some (.slice s.A s.p.pk.hd.length s.c) ∧ w1.drew.cell? ⟨b, off + j * 6 + 4, none⟩ = some (.int .i64 s.p.pk.tag) ∧ w1.drew.cell? ⟨b, off + j * 6 + 5, none⟩ = some (.slice s.B s.p.pk.bd.length s.d)) := ⟨c0, c1, c2, c3, c4, c5⟩
            have SB : Hid ((w1.alloc (.cells #[] 39)).drew.cell? ⟨b, off + j * 6, none⟩ = some (.int .i64 s.p.kind) ∧ (w1.alloc (.cells #[] 39)).drew.cell? ⟨b, off + j * 6 + 1, none⟩ = some (.int .i64 s.p.next) ∧ (w1.alloc (.cells #[] 39)).drew.cell? ⟨b, off + j * 6 + 2, none⟩ = some (.int .i64 s.p.pk.el) ∧ (w1.alloc (.cells #[] 39)).drew.cell? ⟨b, off + j * 6 + 3, none⟩ = some (.slice s.A s.p.pk.hd.length s.c) ∧ (w1.alloc (.cells #[] 39)).drew.cell? ⟨b, off + j * 6 + 4, none⟩ = some (.int .i64 s.p.pk.tag) ∧ (w1.alloc (.cells #[] 39)).drew.cell? ⟨b, off + j * 6 + 5, none⟩ = some (.slice s.B s.p.pk.bd.length s.d)) := ⟨(hal.cell (p := ⟨b, off + j * 6, none⟩) hbl).trans c0, (hal.cell (p := ⟨b, off + j * 6 + 1, none⟩) hbl).trans c1, (hal.cell (p := ⟨b, off + j * 6 + 2, none⟩) hbl).trans c2, (hal.cell (p := ⟨b, off + j * 6 + 3, none⟩) hbl).trans c3, (hal.cell (p := ⟨b, off + j * 6 + 4, none⟩) hbl).trans c4, (hal.cell (p := ⟨b, off + j * 6 + 5, none⟩) hbl).trans c5⟩
            have SC : Hid (((w1.alloc (.cells #[] 39)).alloc (.cells #[.int .i64 s.p.kind, .int .i64 s.p.next, .int .i64 s.p.pk.el, .slice s.A s.p.pk.hd.length s.c, .int .i64 s.p.pk.tag, .slice s.B s.p.pk.bd.length s.d] 39)).drew.cell? ⟨b, off + j * 6, none⟩ = some (.int .i64 s.p.kind) ∧ ((w1.alloc (.cells #[] 39)).alloc (.cells #[.int .i64 s.p.kind, .int .i64 s.p.next, .int .i64 s.p.pk.el, .slice s.A s.p.pk.hd.length s.c, .int .i64 s.p.pk.tag, .slice s.B s.p.pk.bd.length s.d] 39)).drew.cell? ⟨b, off + j * 6 + 1, none⟩ = some (.int .i64 s.p.next) ∧ ((w1.alloc (.cells #[] 39)).alloc (.cells #[.int .i64 s.p.kind, .int .i64 s.p.next, .int .i64 s.p.pk.el, .slice s.A s.p.pk.hd.length s.c, .int .i64 s.p.pk.tag, .slice s.B s.p.pk.bd.length s.d] 39)).drew.cell? ⟨b, off + j * 6 + 2, none⟩ = some (.int .i64 s.p.pk.el) ∧ ((w1.alloc (.cells #[] 39)).alloc (.cells #[.int .i64 s.p.kind, .int .i64 s.p.next, .int .i64 s.p.pk.el, .slice s.A s.p.pk.hd.length s.c, .int .i64 s.p.pk.tag, .slice s.B s.p.pk.bd.length s.d] 39)).drew.cell? ⟨b, off + j * 6 + 3, none⟩ = some (.slice s.A s.p.pk.hd.length s.c) ∧ ((w1.alloc (.cells #[] 39)).alloc (.cells #[.int .i64 s.p.kind, .int .i64 s.p.next, .int .i64 s.p.pk.el, .slice s.A s.p.pk.hd.length s.c, .int .i64 s.p.pk.tag, .slice s.B s.p.pk.bd.length s.d] 39)).drew.cell? ⟨b, off + j * 6 + 4, none⟩ = some (.int .i64 s.p.pk.tag) ∧ ((w1.alloc (.cells #[] 39)).alloc (.cells #[.int .i64 s.p.kind, .int .i64 s.p.next, .int .i64 s.p.pk.el, .slice s.A s.p.pk.hd.length s.c, .int .i64 s.p.pk.tag, .slice s.B s.p.pk.bd.length s.d] 39)).drew.cell? ⟨b, off + j * 6 + 5, none⟩ = some (.slice s.B s.p.pk.bd.length s.d)) := ⟨(hal2.cell (p := ⟨b, off + j * 6, none⟩) hbl).trans c0, (hal2.cell (p := ⟨b, off + j * 6 + 1, none⟩) hbl).trans c1, (hal2.cell (p := ⟨b, off + j * 6 + 2, none⟩) hbl).trans c2, (hal2.cell (p := ⟨b, off + j * 6 + 3, none⟩) hbl).trans c3, (hal2.cell (p := ⟨b, off + j * 6 + 4, none⟩) hbl).trans c4, (hal2.cell (p := ⟨b, off + j * 6 + 5, none⟩) hbl).trans c5⟩
            have HD1 : Hid (Dest 39 6 (some w1.heap.size) ((w1.alloc (.cells #[] 39)).drew) (.slice (some ⟨w1.heap.size, 0, none⟩) 0 0) 0 []) := .inr ⟨_, rfl, accV_new w1 _ _⟩
            have hacc2 : AccV 39 6 w1.heap.size (((w1.alloc (.cells #[] 39)).alloc (.cells #[.int .i64 s.p.kind, .int .i64 s.p.next, .int .i64 s.p.pk.el, .slice s.A s.p.pk.hd.length s.c, .int .i64 s.p.pk.tag, .slice s.B s.p.pk.bd.length s.d] 39)).drew) (.slice (some ⟨w1.heap.size, 0, none⟩) 0 0) 0 [] := (accV_new w1 _ _).alloc _
            have HD2 : Hid (Dest 39 6 (some w1.heap.size) (((w1.alloc (.cells #[] 39)).alloc (.cells #[.int .i64 s.p.kind, .int .i64 s.p.next, .int .i64 s.p.pk.el, .slice s.A s.p.pk.hd.length s.c, .int .i64 s.p.pk.tag, .slice s.B s.p.pk.bd.length s.d] 39)).drew) (.slice (some ⟨w1.heap.size, 0, none⟩) 0 0) 0 []) := .inr ⟨_, rfl, hacc2⟩
            have HR1 : Hid (Row _ _ ((w1.alloc (.cells #[] 39)).drew) (some ⟨g, 0, none⟩) k d 6 ((os.take k).flatMap Slot.cells)) := row_take (k := k) (HS2.out.2.2.1.below hal (Nat.le_refl _)) (by omega)
            have HR2 : Hid (Row _ _ (((w1.alloc (.cells #[] 39)).alloc (.cells #[.int .i64 s.p.kind, .int .i64 s.p.next, .int .i64 s.p.pk.el, .slice s.A s.p.pk.hd.length s.c, .int .i64 s.p.pk.tag, .slice s.B s.p.pk.bd.length s.d] 39)).drew) (some ⟨g, 0, none⟩) k d 6 ((os.take k).flatMap Slot.cells)) := row_take (k := k) (HS2.out.2.2.1.below hal2 (Nat.le_refl _)) (by omega)
            have hrl0 : Row (w1.heap.size + 1) (w1.heap.size + 1 + 1) (((w1.alloc (.cells #[] 39)).alloc (.cells #[.int .i64 s.p.kind, .int .i64 s.p.next, .int .i64 s.p.pk.el, .slice s.A s.p.pk.hd.length s.c, .int .i64 s.p.pk.tag, .slice s.B s.p.pk.bd.length s.d] 39)).drew) (some ⟨w1.heap.size + 1, 0, none⟩) 1 1 6 s.cells := by
              have h1 := row_lit (w1.alloc (.cells #[] 39)) 39 s.cells rfl
              have e1 : (w1.alloc (.cells #[] 39)).heap.size = w1.heap.size + 1 := by simp
              rw [e1] at h1
              exact h1
            have HRL := Lib.hid hrl0
            have HAL := Lib.hid hal
            have HAL2 := Lib.hid hal2
            have hs2 : w1.heap.size + 1 + 1 ≤ (((w1.alloc (.cells #[] 39)).alloc (.cells #[.int .i64 s.p.kind, .int .i64 s.p.next, .int .i64 s.p.pk.el, .slice s.A s.p.pk.hd.length s.c, .int .i64 s.p.pk.tag, .slice s.B s.p.pk.bd.length s.d] 39)).drew).heap.size := by simp
            have hl1 : 0 + k ≤ 1000000 := by omega
            have hl2 : k + 1 ≤ 1000000 := by omega
            have hl3 : k + 1 + (j - k) ≤ 1000000 := by omega
            clear hal hal2 hrl0 hacc2
            have half : Below w1.heap.size w1 ((w1.alloc (.cells #[.int .i64 s.p.kind, .int .i64 s.p.next, .int .i64 s.p.pk.el, .slice s.A s.p.pk.hd.length s.c, .int .i64 s.p.pk.tag, .slice s.B s.p.pk.bd.length s.d] 39)).drew) := below_dr ((Below.refl _ w1).alloc (Nat.le_refl _) _) 1
            have hal3 : Below w1.heap.size w1 (((w1.alloc (.cells #[.int .i64 s.p.kind, .int .i64 s.p.next, .int .i64 s.p.pk.el, .slice s.A s.p.pk.hd.length s.c, .int .i64 s.p.pk.tag, .slice s.B s.p.pk.bd.length s.d] 39)).alloc (.cells #[] 39)).drew) := below_dr (((Below.refl _ w1).alloc (Nat.le_refl _) _).alloc (by simp) _) 1
            have SD : Hid ((w1.alloc (.cells #[.int .i64 s.p.kind, .int .i64 s.p.next, .int .i64 s.p.pk.el, .slice s.A s.p.pk.hd.length s.c, .int .i64 s.p.pk.tag, .slice s.B s.p.pk.bd.length s.d] 39)).drew.cell? ⟨b, off + j * 6, none⟩ = some (.int .i64 s.p.kind) ∧ (w1.alloc (.cells #[.int .i64 s.p.kind, .int .i64 s.p.next, .int .i64 s.p.pk.el, .slice s.A s.p.pk.hd.length s.c, .int .i64 s.p.pk.tag, .slice s.B s.p.pk.bd.length s.d] 39)).drew.cell? ⟨b, off + j * 6 + 1, none⟩ = some (.int .i64 s.p.next) ∧ (w1.alloc (.cells #[.int .i64 s.p.kind, .int .i64 s.p.next, .int .i64 s.p.pk.el, .slice s.A s.p.pk.hd.length s.c, .int .i64 s.p.pk.tag, .slice s.B s.p.pk.bd.length s.d] 39)).drew.cell? ⟨b, off + j * 6 + 2, none⟩ = some (.int .i64 s.p.pk.el) ∧ (w1.alloc (.cells #[.int .i64 s.p.kind, .int .i64 s.p.next, .int .i64 s.p.pk.el, .slice s.A s.p.pk.hd.length s.c, .int .i64 s.p.pk.tag, .slice s.B s.p.pk.bd.length s.d] 39)).drew.cell? ⟨b, off + j * 6 + 3, none⟩ = some (.slice s.A s.p.pk.hd.length s.c) ∧ (w1.alloc (.cells #[.int .i64 s.p.kind, .int .i64 s.p.next, .int .i64 s.p.pk.el, .slice s.A s.p.pk.hd.length s.c, .int .i64 s.p.pk.tag, .slice s.B s.p.pk.bd.length s.d] 39)).drew.cell? ⟨b, off + j * 6 + 4, none⟩ = some (.int .i64 s.p.pk.tag) ∧ (w1.alloc (.cells #[.int .i64 s.p.kind, .int .i64 s.p.next, .int .i64 s.p.pk.el, .slice s.A s.p.pk.hd.length s.c, .int .i64 s.p.pk.tag, .slice s.B s.p.pk.bd.length s.d] 39)).drew.cell? ⟨b, off + j * 6 + 5, none⟩ = some (.slice s.B s.p.pk.bd.length s.d)) := ⟨(half.cell (p := ⟨b, off + j * 6, none⟩) hbl).trans c0, (half.cell (p := ⟨b, off + j * 6 + 1, none⟩) hbl).trans c1, (half.cell (p := ⟨b, off + j * 6 + 2, none⟩) hbl).trans c2, (half.cell (p := ⟨b, off + j * 6 + 3, none⟩) hbl).trans c3, (half.cell (p := ⟨b, off + j * 6 + 4, none⟩) hbl).trans c4, (half.cell (p := ⟨b, off + j * 6 + 5, none⟩) hbl).trans c5⟩
            have SE : Hid (((w1.alloc (.cells #[.int .i64 s.p.kind, .int .i64 s.p.next, .int .i64 s.p.pk.el, .slice s.A s.p.pk.hd.length s.c, .int .i64 s.p.pk.tag, .slice s.B s.p.pk.bd.length s.d] 39)).alloc (.cells #[] 39)).drew.cell? ⟨b, off + j * 6, none⟩ = some (.int .i64 s.p.kind) ∧ ((w1.alloc (.cells #[.int .i64 s.p.kind, .int .i64 s.p.next, .int .i64 s.p.pk.el, .slice s.A s.p.pk.hd.length s.c, .int .i64 s.p.pk.tag, .slice s.B s.p.pk.bd.length s.d] 39)).alloc (.cells #[] 39)).drew.cell? ⟨b, off + j * 6 + 1, none⟩ = some (.int .i64 s.p.next) ∧ ((w1.alloc (.cells #[.int .i64 s.p.kind, .int .i64 s.p.next, .int .i64 s.p.pk.el, .slice s.A s.p.pk.hd.length s.c, .int .i64 s.p.pk.tag, .slice s.B s.p.pk.bd.length s.d] 39)).alloc (.cells #[] 39)).drew.cell? ⟨b, off + j * 6 + 2, none⟩ = some (.int .i64 s.p.pk.el) ∧ ((w1.alloc (.cells #[.int .i64 s.p.kind, .int .i64 s.p.next, .int .i64 s.p.pk.el, .slice s.A s.p.pk.hd.length s.c, .int .i64 s.p.pk.tag, .slice s.B s.p.pk.bd.length s.d] 39)).alloc (.cells #[] 39)).drew.cell? ⟨b, off + j * 6 + 3, none⟩ = some (.slice s.A s.p.pk.hd.length s.c) ∧ ((w1.alloc (.cells #[.int .i64 s.p.kind, .int .i64 s.p.next, .int .i64 s.p.pk.el, .slice s.A s.p.pk.hd.length s.c, .int .i64 s.p.pk.tag, .slice s.B s.p.pk.bd.length s.d] 39)).alloc (.cells #[] 39)).drew.cell? ⟨b, off + j * 6 + 4, none⟩ = some (.int .i64 s.p.pk.tag) ∧ ((w1.alloc (.cells #[.int .i64 s.p.kind, .int .i64 s.p.next, .int .i64 s.p.pk.el, .slice s.A s.p.pk.hd.length s.c, .int .i64 s.p.pk.tag, .slice s.B s.p.pk.bd.length s.d] 39)).alloc (.cells #[] 39)).drew.cell? ⟨b, off + j * 6 + 5, none⟩ = some (.slice s.B s.p.pk.bd.length s.d)) := ⟨(hal3.cell (p := ⟨b, off + j * 6, none⟩) hbl).trans c0, (hal3.cell (p := ⟨b, off + j * 6 + 1, none⟩) hbl).trans c1, (hal3.cell (p := ⟨b, off + j * 6 + 2, none⟩) hbl).trans c2, (hal3.cell (p := ⟨b, off + j * 6 + 3, none⟩) hbl).trans c3, (hal3.cell (p := ⟨b, off + j * 6 + 4, none⟩) hbl).trans c4, (hal3.cell (p := ⟨b, off + j * 6 + 5, none⟩) hbl).trans c5⟩
            have hacc3 : AccV 39 6 (w1.heap.size + 1) (((w1.alloc (.cells #[.int .i64 s.p.kind, .int .i64 s.p.next, .int .i64 s.p.pk.el, .slice s.A s.p.pk.hd.length s.c, .int .i64 s.p.pk.tag, .slice s.B s.p.pk.bd.length s.d] 39)).alloc (.cells #[] 39)).drew) (.slice (some ⟨w1.heap.size + 1, 0, none⟩) 0 0) 0 [] := by
              have h1 := accV_new (w1.alloc (.cells #[.int .i64 s.p.kind, .int .i64 s.p.next, .int .i64 s.p.pk.el, .slice s.A s.p.pk.hd.length s.c, .int .i64 s.p.pk.tag, .slice s.B s.p.pk.bd.length s.d] 39)) 39 6
              have e1 : (w1.alloc (.cells #[.int .i64 s.p.kind, .int .i64 s.p.next, .int .i64 s.p.pk.el, .slice s.A s.p.pk.hd.length s.c, .int .i64 s.p.pk.tag, .slice s.B s.p.pk.bd.length s.d] 39)).heap.size = w1.heap.size + 1 := by simp
              rw [e1] at h1
              exact h1
            have HD3 : Hid (Dest 39 6 (some (w1.heap.size + 1)) (((w1.alloc (.cells #[.int .i64 s.p.kind, .int .i64 s.p.next, .int .i64 s.p.pk.el, .slice s.A s.p.pk.hd.length s.c, .int .i64 s.p.pk.tag, .slice s.B s.p.pk.bd.length s.d] 39)).alloc (.cells #[] 39)).drew) (.slice (some ⟨w1.heap.size + 1, 0, none⟩) 0 0) 0 []) := .inr ⟨_, rfl, hacc3⟩
            have HR3 : Hid (Row _ _ (((w1.alloc (.cells #[.int .i64 s.p.kind, .int .i64 s.p.next, .int .i64 s.p.pk.el, .slice s.A s.p.pk.hd.length s.c, .int .i64 s.p.pk.tag, .slice s.B s.p.pk.bd.length s.d] 39)).alloc (.cells #[] 39)).drew) (some ⟨g, 0, none⟩) k d 6 ((os.take k).flatMap Slot.cells)) := row_take (k := k) (HS2.out.2.2.1.below hal3 (Nat.le_refl _)) (by omega)
            have hrl3 : Row w1.heap.size (w1.heap.size + 1) (((w1.alloc (.cells #[.int .i64 s.p.kind, .int .i64 s.p.next, .int .i64 s.p.pk.el, .slice s.A s.p.pk.hd.length s.c, .int .i64 s.p.pk.tag, .slice s.B s.p.pk.bd.length s.d] 39)).alloc (.cells #[] 39)).drew) (some ⟨w1.heap.size, 0, none⟩) 1 1 6 s.cells := (row_lit w1 39 s.cells rfl).keep (by simp) (fun y q1 q2 q3 => Below.heap_alloc _ _ _ q3)
            have HRL3 := Lib.hid hrl3
            have HAL3 := Lib.hid hal3
            have hs3 : w1.heap.size + 1 + 1 ≤ (((w1.alloc (.cells #[.int .i64 s.p.kind, .int .i64 s.p.next, .int .i64 s.p.pk.el, .slice s.A s.p.pk.hd.length s.c, .int .i64 s.p.pk.tag, .slice s.B s.p.pk.bd.length s.d] 39)).alloc (.cells #[] 39)).drew).heap.size := by simp
            clear half hal3 hrl3 hacc3
            go_region_held3 (fun w' => w'.cell? ⟨b, off + j * 6, none⟩ = some (.int .i64 s.p.kind) ∧ w'.cell? ⟨b, off + j * 6 + 1, none⟩ = some (.int .i64 s.p.next) ∧ w'.cell? ⟨b, off + j * 6 + 2, none⟩ = some (.int .i64 s.p.pk.el) ∧ w'.cell? ⟨b, off + j * 6 + 3, none⟩ = some (.slice s.A s.p.pk.hd.length s.c) ∧ w'.cell? ⟨b, off + j * 6 + 4, none⟩ = some (.int .i64 s.p.pk.tag) ∧ w'.cell? ⟨b, off + j * 6 + 5, none⟩ = some (.slice s.B s.p.pk.bd.length s.d))
              (first | with_reducible exact SA.out | with_reducible exact SB.out | with_reducible exact SC.out | with_reducible exact SD.out | with_reducible exact SE.out | with_reducible exact kB | with_reducible exact kC | with_reducible exact kD | with_reducible exact kE | fail)
              (first
              | ((with_reducible refine step_appD elPld _ _ _ _ _ HD1.out _ _ _ _ _ _ HR1.out (flat_one _) hl1 (.tmp 31) (.tmp 34) rfl rfl (by go_simp) (by go_simp) ?_); intro g5 v5 w5 hd5 hg5 hgr5; rw [List.nil_append, Nat.zero_add] at hd5; have hb5 : Below w1.heap.size w1 w5 := HAL.out.grown hgr5 (by simp) (fun q hq => by simp at hq; omega); have hq5 : ∀ q, g5 = some q → w1.heap.size ≤ q := ge_of hg5 (fun q e => by simp at e; omega) (by simp); have kB : (w5.cell? ⟨b, off + j * 6, none⟩ = some (.int .i64 s.p.kind) ∧ w5.cell? ⟨b, off + j * 6 + 1, none⟩ = some (.int .i64 s.p.next) ∧ w5.cell? ⟨b, off + j * 6 + 2, none⟩ = some (.int .i64 s.p.pk.el) ∧ w5.cell? ⟨b, off + j * 6 + 3, none⟩ = some (.slice s.A s.p.pk.hd.length s.c) ∧ w5.cell? ⟨b, off + j * 6 + 4, none⟩ = some (.int .i64 s.p.pk.tag) ∧ w5.cell? ⟨b, off + j * 6 + 5, none⟩ = some (.slice s.B s.p.pk.bd.length s.d)) := ⟨(hb5.cell (p := ⟨b, off + j * 6, none⟩) hbl).trans c0, (hb5.cell (p := ⟨b, off + j * 6 + 1, none⟩) hbl).trans c1, (hb5.cell (p := ⟨b, off + j * 6 + 2, none⟩) hbl).trans c2, (hb5.cell (p := ⟨b, off + j * 6 + 3, none⟩) hbl).trans c3, (hb5.cell (p := ⟨b, off + j * 6 + 4, none⟩) hbl).trans c4, (hb5.cell (p := ⟨b, off + j * 6 + 5, none⟩) hbl).trans c5⟩; have hb5a : Below w1.heap.size w1 (w5.alloc (.cells #[.int .i64 s.p.kind, .int .i64 s.p.next, .int .i64 s.p.pk.el, .slice s.A s.p.pk.hd.length s.c, .int .i64 s.p.pk.tag, .slice s.B s.p.pk.bd.length s.d] 39)) := hb5.alloc hb5.size _; have kC : ((w5.alloc (.cells #[.int .i64 s.p.kind, .int .i64 s.p.next, .int .i64 s.p.pk.el, .slice s.A s.p.pk.hd.length s.c, .int .i64 s.p.pk.tag, .slice s.B s.p.pk.bd.length s.d] 39)).cell? ⟨b, off + j * 6, none⟩ = some (.int .i64 s.p.kind) ∧ (w5.alloc (.cells #[.int .i64 s.p.kind, .int .i64 s.p.next, .int .i64 s.p.pk.el, .slice s.A s.p.pk.hd.length s.c, .int .i64 s.p.pk.tag, .slice s.B s.p.pk.bd.length s.d] 39)).cell? ⟨b, off + j * 6 + 1, none⟩ = some (.int .i64 s.p.next) ∧ (w5.alloc (.cells #[.int .i64 s.p.kind, .int .i64 s.p.next, .int .i64 s.p.pk.el, .slice s.A s.p.pk.hd.length s.c, .int .i64 s.p.pk.tag, .slice s.B s.p.pk.bd.length s.d] 39)).cell? ⟨b, off + j * 6 + 2, none⟩ = some (.int .i64 s.p.pk.el) ∧ (w5.alloc (.cells #[.int .i64 s.p.kind, .int .i64 s.p.next, .int .i64 s.p.pk.el, .slice s.A s.p.pk.hd.length s.c, .int .i64 s.p.pk.tag, .slice s.B s.p.pk.bd.length s.d] 39)).cell? ⟨b, off + j * 6 + 3, none⟩ = some (.slice s.A s.p.pk.hd.length s.c) ∧ (w5.alloc (.cells #[.int .i64 s.p.kind, .int .i64 s.p.next, .int .i64 s.p.pk.el, .slice s.A s.p.pk.hd.length s.c, .int .i64 s.p.pk.tag, .slice s.B s.p.pk.bd.length s.d] 39)).cell? ⟨b, off + j * 6 + 4, none⟩ = some (.int .i64 s.p.pk.tag) ∧ (w5.alloc (.cells #[.int .i64 s.p.kind, .int .i64 s.p.next, .int .i64 s.p.pk.el, .slice s.A s.p.pk.hd.length s.c, .int .i64 s.p.pk.tag, .slice s.B s.p.pk.bd.length s.d] 39)).cell? ⟨b, off + j * 6 + 5, none⟩ = some (.slice s.B s.p.pk.bd.length s.d)) := ⟨(hb5a.cell (p := ⟨b, off + j * 6, none⟩) hbl).trans c0, (hb5a.cell (p := ⟨b, off + j * 6 + 1, none⟩) hbl).trans c1, (hb5a.cell (p := ⟨b, off + j * 6 + 2, none⟩) hbl).trans c2, (hb5a.cell (p := ⟨b, off + j * 6 + 3, none⟩) hbl).trans c3, (hb5a.cell (p := ⟨b, off + j * 6 + 4, none⟩) hbl).trans c4, (hb5a.cell (p := ⟨b, off + j * 6 + 5, none⟩) hbl).trans c5⟩; have hd5a := dest_keep hd5 (w' := w5.alloc (.cells #[.int .i64 s.p.kind, .int .i64 s.p.next, .int .i64 s.p.pk.el, .slice s.A s.p.pk.hd.length s.c, .int .i64 s.p.pk.tag, .slice s.B s.p.pk.bd.length s.d] 39)) (fun q e => Below.heap_alloc _ _ _ (dest_lt hd5 q e)); have hrl : Row w5.heap.size (w5.heap.size + 1) (w5.alloc (.cells #[.int .i64 s.p.kind, .int .i64 s.p.next, .int .i64 s.p.pk.el, .slice s.A s.p.pk.hd.length s.c, .int .i64 s.p.pk.tag, .slice s.B s.p.pk.bd.length s.d] 39)) (some ⟨w5.heap.size, 0, none⟩) 1 1 6 s.cells := row_lit w5 _ s.cells rfl)
              | ((with_reducible refine step_appD elPld _ _ _ _ _ HD2.out _ _ _ _ _ _ HR2.out (flat_one _) hl1 (.tmp 31) (.tmp 34) rfl rfl (by go_simp) (by go_simp) ?_); intro g5 v5 w5 hd5 hg5 hgr5; rw [List.nil_append, Nat.zero_add] at hd5; have hb5 : Below w1.heap.size w1 w5 := HAL2.out.grown hgr5 (by have := hs2; omega) (fun q hq => by simp at hq; omega); have hq5 : ∀ q, g5 = some q → w1.heap.size ≤ q := ge_of hg5 (fun q e => by simp at e; omega) (by have := hs2; omega); have kB : (w5.cell? ⟨b, off + j * 6, none⟩ = some (.int .i64 s.p.kind) ∧ w5.cell? ⟨b, off + j * 6 + 1, none⟩ = some (.int .i64 s.p.next) ∧ w5.cell? ⟨b, off + j * 6 + 2, none⟩ = some (.int .i64 s.p.pk.el) ∧ w5.cell? ⟨b, off + j * 6 + 3, none⟩ = some (.slice s.A s.p.pk.hd.length s.c) ∧ w5.cell? ⟨b, off + j * 6 + 4, none⟩ = some (.int .i64 s.p.pk.tag) ∧ w5.cell? ⟨b, off + j * 6 + 5, none⟩ = some (.slice s.B s.p.pk.bd.length s.d)) := ⟨(hb5.cell (p := ⟨b, off + j * 6, none⟩) hbl).trans c0, (hb5.cell (p := ⟨b, off + j * 6 + 1, none⟩) hbl).trans c1, (hb5.cell (p := ⟨b, off + j * 6 + 2, none⟩) hbl).trans c2, (hb5.cell (p := ⟨b, off + j * 6 + 3, none⟩) hbl).trans c3, (hb5.cell (p := ⟨b, off + j * 6 + 4, none⟩) hbl).trans c4, (hb5.cell (p := ⟨b, off + j * 6 + 5, none⟩) hbl).trans c5⟩; have hrl5 := HRL.out.keep hgr5.size (fun y q1 q2 q3 => hgr5.block y q3 (by simp; omega)))
              | ((with_reducible refine step_appD elPld _ _ _ _ _ HD3.out _ _ _ _ _ _ HR3.out (flat_one _) hl1 (.tmp 31) (.tmp 34) rfl rfl (by go_simp) (by go_simp) ?_); intro g5 v5 w5 hd5 hg5 hgr5; rw [List.nil_append, Nat.zero_add] at hd5; have hb5 : Below w1.heap.size w1 w5 := HAL3.out.grown hgr5 (by have := hs3; omega) (fun q hq => by simp at hq; omega); have hq5 : ∀ q, g5 = some q → w1.heap.size ≤ q := ge_of hg5 (fun q e => by simp at e; omega) (by have := hs3; omega); have kB : (w5.cell? ⟨b, off + j * 6, none⟩ = some (.int .i64 s.p.kind) ∧ w5.cell? ⟨b, off + j * 6 + 1, none⟩ = some (.int .i64 s.p.next) ∧ w5.cell? ⟨b, off + j * 6 + 2, none⟩ = some (.int .i64 s.p.pk.el) ∧ w5.cell? ⟨b, off + j * 6 + 3, none⟩ = some (.slice s.A s.p.pk.hd.length s.c) ∧ w5.cell? ⟨b, off + j * 6 + 4, none⟩ = some (.int .i64 s.p.pk.tag) ∧ w5.cell? ⟨b, off + j * 6 + 5, none⟩ = some (.slice s.B s.p.pk.bd.length s.d)) := ⟨(hb5.cell (p := ⟨b, off + j * 6, none⟩) hbl).trans c0, (hb5.cell (p := ⟨b, off + j * 6 + 1, none⟩) hbl).trans c1, (hb5.cell (p := ⟨b, off + j * 6 + 2, none⟩) hbl).trans c2, (hb5.cell (p := ⟨b, off + j * 6 + 3, none⟩) hbl).trans c3, (hb5.cell (p := ⟨b, off + j * 6 + 4, none⟩) hbl).trans c4, (hb5.cell (p := ⟨b, off + j * 6 + 5, none⟩) hbl).trans c5⟩; have hrl5 := HRL3.out.keep hgr5.size (fun y q1 q2 q3 => hgr5.block y q3 (by simp; omega)))
              | ((with_reducible refine step_appD elPld _ _ _ _ _ hd5a _ _ _ _ _ _ hrl (cells_one s) hl2 (.tmp 35) (.tmp 40) rfl rfl (by go_simp) (by go_simp) ?_); intro g6 v6 w6 hd6 hg6 hgr6; have hb6 : Below w1.heap.size w1 w6 := hb5a.grown hgr6 (by have := hb5.size; simp; omega) hq5; have hq6 : ∀ q, g6 = some q → w1.heap.size ≤ q := ge_of hg6 hq5 (by have := hb5.size; simp; omega); have kD : (w6.cell? ⟨b, off + j * 6, none⟩ = some (.int .i64 s.p.kind) ∧ w6.cell? ⟨b, off + j * 6 + 1, none⟩ = some (.int .i64 s.p.next) ∧ w6.cell? ⟨b, off + j * 6 + 2, none⟩ = some (.int .i64 s.p.pk.el) ∧ w6.cell? ⟨b, off + j * 6 + 3, none⟩ = some (.slice s.A s.p.pk.hd.length s.c) ∧ w6.cell? ⟨b, off + j * 6 + 4, none⟩ = some (.int .i64 s.p.pk.tag) ∧ w6.cell? ⟨b, off + j * 6 + 5, none⟩ = some (.slice s.B s.p.pk.bd.length s.d)) := ⟨(hb6.cell (p := ⟨b, off + j * 6, none⟩) hbl).trans c0, (hb6.cell (p := ⟨b, off + j * 6 + 1, none⟩) hbl).trans c1, (hb6.cell (p := ⟨b, off + j * 6 + 2, none⟩) hbl).trans c2, (hb6.cell (p := ⟨b, off + j * 6 + 3, none⟩) hbl).trans c3, (hb6.cell (p := ⟨b, off + j * 6 + 4, none⟩) hbl).trans c4, (hb6.cell (p := ⟨b, off + j * 6 + 5, none⟩) hbl).trans c5⟩; have hr3 := row_drop (k := k) (HS2.out.2.2.1.below hb6 (Nat.le_refl _)) (by omega))
              | ((with_reducible refine step_appD elPld _ _ _ _ _ hd5 _ _ _ _ _ _ hrl5 (cells_one s) hl2 (.tmp 35) (.tmp 40) rfl rfl (by go_simp) (by go_simp) ?_); intro g6 v6 w6 hd6 hg6 hgr6; have hb6 : Below w1.heap.size w1 w6 := hb5.grown hgr6 hb5.size hq5; have hq6 : ∀ q, g6 = some q → w1.heap.size ≤ q := ge_of hg6 hq5 hb5.size; have kD : (w6.cell? ⟨b, off + j * 6, none⟩ = some (.int .i64 s.p.kind) ∧ w6.cell? ⟨b, off + j * 6 + 1, none⟩ = some (.int .i64 s.p.next) ∧ w6.cell? ⟨b, off + j * 6 + 2, none⟩ = some (.int .i64 s.p.pk.el) ∧ w6.cell? ⟨b, off + j * 6 + 3, none⟩ = some (.slice s.A s.p.pk.hd.length s.c) ∧ w6.cell? ⟨b, off + j * 6 + 4, none⟩ = some (.int .i64 s.p.pk.tag) ∧ w6.cell? ⟨b, off + j * 6 + 5, none⟩ = some (.slice s.B s.p.pk.bd.length s.d)) := ⟨(hb6.cell (p := ⟨b, off + j * 6, none⟩) hbl).trans c0, (hb6.cell (p := ⟨b, off + j * 6 + 1, none⟩) hbl).trans c1, (hb6.cell (p := ⟨b, off + j * 6 + 2, none⟩) hbl).trans c2, (hb6.cell (p := ⟨b, off + j * 6 + 3, none⟩) hbl).trans c3, (hb6.cell (p := ⟨b, off + j * 6 + 4, none⟩) hbl).trans c4, (hb6.cell (p := ⟨b, off + j * 6 + 5, none⟩) hbl).trans c5⟩; have hr3 := row_drop (k := k) (HS2.out.2.2.1.below hb6 (Nat.le_refl _)) (by omega))
              | ((with_reducible refine step_appD elPld _ _ _ _ _ hd6 _ _ _ _ _ _ hr3 (flat_one _) hl3 (.tmp 41) (.tmp 44) rfl rfl (by go_simp) (by go_simp) ?_); intro g7 v7 w7 hd7 hg7 hgr7; have hb7 : Below w1.heap.size w1 w7 := hb6.grown hgr7 hb6.size hq6; have hq7 : ∀ q, g7 = some q → w1.heap.size ≤ q := ge_of hg7 hq6 hb6.size; have kE : (w7.cell? ⟨b, off + j * 6, none⟩ = some (.int .i64 s.p.kind) ∧ w7.cell? ⟨b, off + j * 6 + 1, none⟩ = some (.int .i64 s.p.next) ∧ w7.cell? ⟨b, off + j * 6 + 2, none⟩ = some (.int .i64 s.p.pk.el) ∧ w7.cell? ⟨b, off + j * 6 + 3, none⟩ = some (.slice s.A s.p.pk.hd.length s.c) ∧ w7.cell? ⟨b, off + j * 6 + 4, none⟩ = some (.int .i64 s.p.pk.tag) ∧ w7.cell? ⟨b, off + j * 6 + 5, none⟩ = some (.slice s.B s.p.pk.bd.length s.d)) := ⟨(hb7.cell (p := ⟨b, off + j * 6, none⟩) hbl).trans c0, (hb7.cell (p := ⟨b, off + j * 6 + 1, none⟩) hbl).trans c1, (hb7.cell (p := ⟨b, off + j * 6 + 2, none⟩) hbl).trans c2, (hb7.cell (p := ⟨b, off + j * 6 + 3, none⟩) hbl).trans c3, (hb7.cell (p := ⟨b, off + j * 6 + 4, none⟩) hbl).trans c4, (hb7.cell (p := ⟨b, off + j * 6 + 5, none⟩) hbl).trans c5⟩))
            all_goals
              have hfin := sort_fin (k := k) HS2.out hb7 hd7 hq7 (by omega) (by rw [List.flatMap_append, List.flatMap_cons, List.append_assoc]) hsx (by
                have e1 : s.p = pldAt ps j := by
                  unfold pldAt
                  rw [← HMAP.out, List.getD_eq_getElem?_getD, List.getElem?_map, hsx]
                  rfl
                rw [e1]; exact HCUT.out)
              obtain ⟨g9, d9, os9, rfl, hfin⟩ := hfin
              have HFIN := Lib.hid hfin
              clear hfin
              go_wp2
              go_roundw
              case rel => exact ⟨j + 1, d9, g9, os9, by omega, by go_num, by go_num, HFIN.out⟩
              case measure => simp [intOf]; omega
        · obtain rfl : k = j := by omega
          have HCUT : Hid (cutAt (pldAt ps k) (os.map (·.p)) = k) := cut_is hA.out (by rw [List.length_map, row_len hS.out.2.2.1]; omega) (fun h => by rw [List.length_map, row_len hS.out.2.2.1] at h; omega)
          have e0 : decide ((k : Int) < (k : Int)) = false := by simp
          clear hsp hsx
          go_wp2
          go_quiet (fail)
          go_wp2
          have HS2 := Lib.hid (hS.out.below (below_dr (Below.refl _ wr) nq))
          clear hS hA c0 c1 c2 c3 c4 c5
          generalize (wr.drewN nq) = w1 at *
          have hjd : k ≤ d := HS2.out.2.2.1.2.1
          have hdm := HS2.out.2.2.1.2.2.1
          have i0 : (0 : Int) ≤ (k : Int) := by omega
          have i2 : (k : Int) ≤ (d : Int) := by omega
          by_cases hkd : k < d
          · have i4 : ¬ (k : Int) = (d : Int) := by omega
            have i5 : ¬ d = k := by omega
            have i6 : ¬ k = d := by omega
            have hmx : d - k ≤ maxLen := by omega
            obtain ⟨b', off', s, e', hb1, hb2, hsx, c0, c1, c2, c3, c4, c5⟩ := row_at HS2.out.1 hlj
            simp only [Option.some.injEq, Addr.mk.injEq, and_true] at e'
            obtain ⟨rfl, rfl⟩ := e'
            have hlo := HS2.out.2.2.2.2.2.2.2
            have hbl : b < w1.heap.size := by omega
            have hal : Below w1.heap.size w1 ((w1.alloc (.cells #[] 39)).drew) := below_dr ((Below.refl _ w1).alloc (Nat.le_refl _) _) 1
            have hal2 : Below w1.heap.size w1 (((w1.alloc (.cells #[] 39)).alloc (.cells #[.int .i64 s.p.kind, .int .i64 s.p.next, .int .i64 s.p.pk.el, .slice s.A s.p.pk.hd.length s.c, .int .i64 s.p.pk.tag, .slice s.B s.p.pk.bd.length s.d] 39)).drew) := below_dr (((Below.refl _ w1).alloc (Nat.le_refl _) _).alloc (by simp) _) 1
            have SA : Hid (w1.drew.cell? ⟨b, off + k * 6, none⟩ = some (.int .i64 s.p.kind) ∧ w1.drew.cell? ⟨b, off + k * 6 + 1, none⟩ = some (.int .i64 s.p.next) ∧ w1.drew.cell? ⟨b, off + k * 6 + 2, none⟩ = some (.int .i64 s.p.pk.el) ∧ w1.drew.cell? ⟨b, off + k * 6 + 3, none⟩ = some (.slice s.A s.p.pk.hd.length s.c) ∧ w1.drew.cell? ⟨b, off + k * 6 + 4, none⟩ = some (.int .i64 s.p.pk.tag) ∧ w1.drew.cell? ⟨b, off + k * 6 + 5, none⟩ = some (.slice s.B s.p.pk.bd.length s.d)) := ⟨c0, c1, c2, c3, c4, c5⟩
            have SB : Hid ((w1.alloc (.cells #[] 39)).drew.cell? ⟨b, off + k * 6, none⟩ = some (.int .i64 s.p.kind) ∧ (w1.alloc (.cells #[] 39)).drew.cell? ⟨b, off + k * 6 + 1, none⟩ = some (.int .i64 s.p.next) ∧ (w1.alloc (.cells #[] 39)).drew.cell? ⟨b, off + k * 6 + 2, none⟩ = some (.int .i64 s.p.pk.el) ∧ (w1.alloc (.cells #[] 39)).drew.cell? ⟨b, off + k * 6 + 3, none⟩ = some (.slice s.A s.p.pk.hd.length s.c) ∧ (w1.alloc (.cells #[] 39)).drew.cell? ⟨b, off + k * 6 + 4, none⟩ = some (.int .i64 s.p.pk.tag) ∧ (w1.alloc (.cells #[] 39)).drew.cell? ⟨b, off + k * 6 + 5, none⟩ = some (.slice s.B s.p.pk.bd.length s.d)) := ⟨(hal.cell (p := ⟨b, off + k * 6, none⟩) hbl).trans c0, (hal.cell (p := ⟨b, off + k * 6 + 1, none⟩) hbl).trans c1, (hal.cell (p := ⟨b, off + k * 6 + 2, none⟩) hbl).trans c2, (hal.cell (p := ⟨b, off + k * 6 + 3, none⟩) hbl).trans c3, (hal.cell (p := ⟨b, off + k * 6 + 4, none⟩) hbl).trans c4, (hal.cell (p := ⟨b, off + k * 6 + 5, none⟩) hbl).trans c5⟩
            have SC : Hid (((w1.alloc (.cells #[] 39)).alloc (.cells #[.int .i64 s.p.kind, .int .i64 s.p.next, .int .i64 s.p.pk.el, .slice s.A s.p.pk.hd.length s.c, .int .i64 s.p.pk.tag, .slice s.B s.p.pk.bd.length s.d] 39)).drew.cell? ⟨b, off + k * 6, none⟩ = some (.int .i64 s.p.kind) ∧ ((w1.alloc (.cells #[] 39)).alloc (.cells #[.int .i64 s.p.kind, .int .i64 s.p.next, .int .i64 s.p.pk.el, .slice s.A s.p.pk.hd.length s.c, .int .i64 s.p.pk.tag, .slice s.B s.p.pk.bd.length s.d] 39)).drew.cell? ⟨b, off + k * 6 + 1, none⟩ = some (.int .i64 s.p.next) ∧ ((w1.alloc (.cells #[] 39)).alloc (.cells #[.int .i64 s.p.kind, .int .i64 s.p.next, .int .i64 s.p.pk.el, .slice s.A s.p.pk.hd.length s.c, .int .i64 s.p.pk.tag, .slice s.B s.p.pk.bd.length s.d] 39)).drew.cell? ⟨b, off + k * 6 + 2, none⟩ = some (.int .i64 s.p.pk.el) ∧ ((w1.alloc (.cells #[] 39)).alloc (.cells #[.int .i64 s.p.kind, .int .i64 s.p.next, .int .i64 s.p.pk.el, .slice s.A s.p.pk.hd.length s.c, .int .i64 s.p.pk.tag, .slice s.B s.p.pk.bd.length s.d] 39)).drew.cell? ⟨b, off + k * 6 + 3, none⟩ = some (.slice s.A s.p.pk.hd.length s.c) ∧ ((w1.alloc (.cells #[] 39)).alloc (.cells #[.int .i64 s.p.kind, .int .i64 s.p.next, .int .i64 s.p.pk.el, .slice s.A s.p.pk.hd.length s.c, .int .i64 s.p.pk.tag, .slice s.B s.p.pk.bd.length s.d] 39)).drew.cell? ⟨b, off + k * 6 + 4, none⟩ = some (.int .i64 s.p.pk.tag) ∧ ((w1.alloc (.cells #[] 39)).alloc (.cells #[.int .i64 s.p.kind, .int .i64 s.p.next, .int .i64 s.p.pk.el, .slice s.A s.p.pk.hd.length s.c, .int .i64 s.p.pk.tag, .slice s.B s.p.pk.bd.length s.d] 39)).drew.cell? ⟨b, off + k * 6 + 5, none⟩ = some (.slice s.B s.p.pk.bd.length s.d)) := ⟨(hal2.cell (p := ⟨b, off + k * 6, none⟩) hbl).trans c0, (hal2.cell (p := ⟨b, off + k * 6 + 1, none⟩) hbl).trans c1, (hal2.cell (p := ⟨b, off + k * 6 + 2, none⟩) hbl).trans c2, (hal2.cell (p := ⟨b, off + k * 6 + 3, none⟩) hbl).trans c3, (hal2.cell (p := ⟨b, off + k * 6 + 4, none⟩) hbl).trans c4, (hal2.cell (p := ⟨b, off + k * 6 + 5, none⟩) hbl).trans c5⟩
            have HD1 : Hid (Dest 39 6 (some w1.heap.size) ((w1.alloc (.cells #[] 39)).drew) (.slice (some ⟨w1.heap.size, 0, none⟩) 0 0) 0 []) := .inr ⟨_, rfl, accV_new w1 _ _⟩
            have hacc2 : AccV 39 6 w1.heap.size (((w1.alloc (.cells #[] 39)).alloc (.cells #[.int .i64 s.p.kind, .int .i64 s.p.next, .int .i64 s.p.pk.el, .slice s.A s.p.pk.hd.length s.c, .int .i64 s.p.pk.tag, .slice s.B s.p.pk.bd.length s.d] 39)).drew) (.slice (some ⟨w1.heap.size, 0, none⟩) 0 0) 0 [] := (accV_new w1 _ _).alloc _
            have HD2 : Hid (Dest 39 6 (some w1.heap.size) (((w1.alloc (.cells #[] 39)).alloc (.cells #[.int .i64 s.p.kind, .int .i64 s.p.next, .int .i64 s.p.pk.el, .slice s.A s.p.pk.hd.length s.c, .int .i64 s.p.pk.tag, .slice s.B s.p.pk.bd.length s.d] 39)).drew) (.slice (some ⟨w1.heap.size, 0, none⟩) 0 0) 0 []) := .inr ⟨_, rfl, hacc2⟩
            have HR1 : Hid (Row _ _ ((w1.alloc (.cells #[] 39)).drew) (some ⟨g, 0, none⟩) k d 6 ((os.take k).flatMap Slot.cells)) := row_take (k := k) (HS2.out.2.2.1.below hal (Nat.le_refl _)) (by omega)
            have HR2 : Hid (Row _ _ (((w1.alloc (.cells #[] 39)).alloc (.cells #[.int .i64 s.p.kind, .int .i64 s.p.next, .int .i64 s.p.pk.el, .slice s.A s.p.pk.hd.length s.c, .int .i64 s.p.pk.tag, .slice s.B s.p.pk.bd.length s.d] 39)).drew) (some ⟨g, 0, none⟩) k d 6 ((os.take k).flatMap Slot.cells)) := row_take (k := k) (HS2.out.2.2.1.below hal2 (Nat.le_refl _)) (by omega)
            have hrl0 : Row (w1.heap.size + 1) (w1.heap.size + 1 + 1) (((w1.alloc (.cells #[] 39)).alloc (.cells #[.int .i64 s.p.kind, .int .i64 s.p.next, .int .i64 s.p.pk.el, .slice s.A s.p.pk.hd.length s.c, .int .i64 s.p.pk.tag, .slice s.B s.p.pk.bd.length s.d] 39)).drew) (some ⟨w1.heap.size + 1, 0, none⟩) 1 1 6 s.cells := by
              have h1 := row_lit (w1.alloc (.cells #[] 39)) 39 s.cells rfl
              have e1 : (w1.alloc (.cells #[] 39)).heap.size = w1.heap.size + 1 := by simp
              rw [e1] at h1
              exact h1
            have HRL := Lib.hid hrl0
            have HAL := Lib.hid hal
            have HAL2 := Lib.hid hal2
            have hs2 : w1.heap.size + 1 + 1 ≤ (((w1.alloc (.cells #[] 39)).alloc (.cells #[.int .i64 s.p.kind, .int .i64 s.p.next, .int .i64 s.p.pk.el, .slice s.A s.p.pk.hd.length s.c, .int .i64 s.p.pk.tag, .slice s.B s.p.pk.bd.length s.d] 39)).drew).heap.size := by simp
            have hl1 : 0 + k ≤ 1000000 := by omega
            have hl2 : k + 1 ≤ 1000000 := by omega
            have hl3 : k + 1 + 0 ≤ 1000000 := by omega
            clear hal hal2 hrl0 hacc2
            have half : Below w1.heap.size w1 ((w1.alloc (.cells #[.int .i64 s.p.kind, .int .i64 s.p.next, .int .i64 s.p.pk.el, .slice s.A s.p.pk.hd.length s.c, .int .i64 s.p.pk.tag, .slice s.B s.p.pk.bd.length s.d] 39)).drew) := below_dr ((Below.refl _ w1).alloc (Nat.le_refl _) _) 1
            have hal3 : Below w1.heap.size w1 (((w1.alloc (.cells #[.int .i64 s.p.kind, .int .i64 s.p.next, .int .i64 s.p.pk.el, .slice s.A s.p.pk.hd.length s.c, .int .i64 s.p.pk.tag, .slice s.B s.p.pk.bd.length s.d] 39)).alloc (.cells #[] 39)).drew) := below_dr (((Below.refl _ w1).alloc (Nat.le_refl _) _).alloc (by simp) _) 1
            have SD : Hid ((w1.alloc (.cells #[.int .i64 s.p.kind, .int .i64 s.p.next, .int .i64 s.p.pk.el, .slice s.A s.p.pk.hd.length s.c, .int .i64 s.p.pk.tag, .slice s.B s.p.pk.bd.length s.d] 39)).drew.cell? ⟨b, off + k * 6, none⟩ = some (.int .i64 s.p.kind) ∧ (w1.alloc (.cells #[.int .i64 s.p.kind, .int .i64 s.p.next, .int .i64 s.p.pk.el, .slice s.A s.p.pk.hd.length s.c, .int .i64 s.p.pk.tag, .slice s.B s.p.pk.bd.length s.d] 39)).drew.cell? ⟨b, off + k * 6 + 1, none⟩ = some (.int .i64 s.p.next) ∧ (w1.alloc (.cells #[.int .i64 s.p.kind, .int .i64 s.p.next, .int .i64 s.p.pk.el, .slice s.A s.p.pk.hd.length s.c, .int .i64 s.p.pk.tag, .slice s.B s.p.pk.bd.length s.d] 39)).drew.cell? ⟨b, off + k * 6 + 2, none⟩ = some (.int .i64 s.p.pk.el) ∧ (w1.alloc (.cells #[.int .i64 s.p.kind, .int .i64 s.p.next, .int .i64 s.p.pk.el, .slice s.A s.p.pk.hd.length s.c, .int .i64 s.p.pk.tag, .slice s.B s.p.pk.bd.length s.d] 39)).drew.cell? ⟨b, off + k * 6 + 3, none⟩ = some (.slice s.A s.p.pk.hd.length s.c) ∧ (w1.alloc (.cells #[.int .i64 s.p.kind, .int .i64 s.p.next, .int .i64 s.p.pk.el, .slice s.A s.p.pk.hd.length s.c, .int .i64 s.p.pk.tag, .slice s.B s.p.pk.bd.length s.d] 39)).drew.cell? ⟨b, off + k * 6 + 4, none⟩ = some (.int .i64 s.p.pk.tag) ∧ (w1.alloc (.cells #[.int .i64 s.p.kind, .int .i64 s.p.next, .int .i64 s.p.pk.el, .slice s.A s.p.pk.hd.length s.c, .int .i64 s.p.pk.tag, .slice s.B s.p.pk.bd.length s.d] 39)).drew.cell? ⟨b, off + k * 6 + 5, none⟩ = some (.slice s.B s.p.pk.bd.length s.d)) := ⟨(half.cell (p := ⟨b, off + k * 6, none⟩) hbl).trans c0, (half.cell (p := ⟨b, off + k * 6 + 1, none⟩) hbl).trans c1, (half.cell (p := ⟨b, off + k * 6 + 2, none⟩) hbl).trans c2, (half.cell (p := ⟨b, off + k * 6 + 3, none⟩) hbl).trans c3, (half.cell (p := ⟨b, off + k * 6 + 4, none⟩) hbl).trans c4, (half.cell (p := ⟨b, off + k * 6 + 5, none⟩) hbl).trans c5⟩
            have SE : Hid (((w1.alloc (.cells #[.int .i64 s.p.kind, .int .i64 s.p.next, .int .i64 s.p.pk.el, .slice s.A s.p.pk.hd.length s.c, .int .i64 s.p.pk.tag, .slice s.B s.p.pk.bd.length s.d] 39)).alloc (.cells #[] 39)).drew.cell? ⟨b, off + k * 6, none⟩ = some (.int .i64 s.p.kind) ∧ ((w1.alloc (.cells #[.int .i64 s.p.kind, .int .i64 s.p.next, .int .i64 s.p.pk.el, .slice s.A s.p.pk.hd.length s.c, .int .i64 s.p.pk.tag, .slice s.B s.p.pk.bd.length s.d] 39)).alloc (.cells #[] 39)).drew.cell? ⟨b, off + k * 6 + 1, none⟩ = some (.int .i64 s.p.next) ∧ ((w1.alloc (.cells #[.int .i64 s.p.kind, .int .i64 s.p.next, .int .i64 s.p.pk.el, .slice s.A s.p.pk.hd.length s.c, .int .i64 s.p.pk.tag, .slice s.B s.p.pk.bd.length s.d] 39)).alloc (.cells #[] 39)).drew.cell? ⟨b, off + k * 6 + 2, none⟩ = some (.int .i64 s.p.pk.el) ∧ ((w1.alloc (.cells #[.int .i64 s.p.kind, .int .i64 s.p.next, .int .i64 s.p.pk.el, .slice s.A s.p.pk.hd.length s.c, .int .i64 s.p.pk.tag, .slice s.B s.p.pk.bd.length s.d] 39)).alloc (.cells #[] 39)).drew.cell? ⟨b, off + k * 6 + 3, none⟩ = some (.slice s.A s.p.pk.hd.length s.c) ∧ ((w1.alloc (.cells #[.int .i64 s.p.kind, .int .i64 s.p.next, .int .i64 s.p.pk.el, .slice s.A s.p.pk.hd.length s.c, .int .i64 s.p.pk.tag, .slice s.B s.p.pk.bd.length s.d] 39)).alloc (.cells #[] 39)).drew.cell? ⟨b, off + k * 6 + 4, none⟩ = some (.int .i64 s.p.pk.tag) ∧ ((w1.alloc (.cells #[.int .i64 s.p.kind, .int .i64 s.p.next, .int .i64 s.p.pk.el, .slice s.A s.p.pk.hd.length s.c, .int .i64 s.p.pk.tag, .slice s.B s.p.pk.bd.length s.d] 39)).alloc (.cells #[] 39)).drew.cell? ⟨b, off + k * 6 + 5, none⟩ = some (.slice s.B s.p.pk.bd.length s.d)) := ⟨(hal3.cell (p := ⟨b, off + k * 6, none⟩) hbl).trans c0, (hal3.cell (p := ⟨b, off + k * 6 + 1, none⟩) hbl).trans c1, (hal3.cell (p := ⟨b, off + k * 6 + 2, none⟩) hbl).trans c2, (hal3.cell (p := ⟨b, off + k * 6 + 3, none⟩) hbl).trans c3, (hal3.cell (p := ⟨b, off + k * 6 + 4, none⟩) hbl).trans c4, (hal3.cell (p := ⟨b, off + k * 6 + 5, none⟩) hbl).trans c5⟩
            have hacc3 : AccV 39 6 (w1.heap.size + 1) (((w1.alloc (.cells #[.int .i64 s.p.kind, .int .i64 s.p.next, .int .i64 s.p.pk.el, .slice s.A s.p.pk.hd.length s.c, .int .i64 s.p.pk.tag, .slice s.B s.p.pk.bd.length s.d] 39)).alloc (.cells #[] 39)).drew) (.slice (some ⟨w1.heap.size + 1, 0, none⟩) 0 0) 0 [] := by
              have h1 := accV_new (w1.alloc (.cells #[.int .i64 s.p.kind, .int .i64 s.p.next, .int .i64 s.p.pk.el, .slice s.A s.p.pk.hd.length s.c, .int .i64 s.p.pk.tag, .slice s.B s.p.pk.bd.length s.d] 39)) 39 6
              have e1 : (w1.alloc (.cells #[.int .i64 s.p.kind, .int .i64 s.p.next, .int .i64 s.p.pk.el, .slice s.A s.p.pk.hd.length s.c, .int .i64 s.p.pk.tag, .slice s.B s.p.pk.bd.length s.d] 39)).heap.size = w1.heap.size + 1 := by simp
              rw [e1] at h1
              exact h1
            have HD3 : Hid (Dest 39 6 (some (w1.heap.size + 1)) (((w1.alloc (.cells #[.int .i64 s.p.kind, .int .i64 s.p.next, .int .i64 s.p.pk.el, .slice s.A s.p.pk.hd.length s.c, .int .i64 s.p.pk.tag, .slice s.B s.p.pk.bd.length s.d] 39)).alloc (.cells #[] 39)).drew) (.slice (some ⟨w1.heap.size + 1, 0, none⟩) 0 0) 0 []) := .inr ⟨_, rfl, hacc3⟩
            have HR3 : Hid (Row _ _ (((w1.alloc (.cells #[.int .i64 s.p.kind, .int .i64 s.p.next, .int .i64 s.p.pk.el, .slice s.A s.p.pk.hd.length s.c, .int .i64 s.p.pk.tag, .slice s.B s.p.pk.bd.length s.d] 39)).alloc (.cells #[] 39)).drew) (some ⟨g, 0, none⟩) k d 6 ((os.take k).flatMap Slot.cells)) := row_take (k := k) (HS2.out.2.2.1.below hal3 (Nat.le_refl _)) (by omega)
            have hrl3 : Row w1.heap.size (w1.heap.size + 1) (((w1.alloc (.cells #[.int .i64 s.p.kind, .int .i64 s.p.next, .int .i64 s.p.pk.el, .slice s.A s.p.pk.hd.length s.c, .int .i64 s.p.pk.tag, .slice s.B s.p.pk.bd.length s.d] 39)).alloc (.cells #[] 39)).drew) (some ⟨w1.heap.size, 0, none⟩) 1 1 6 s.cells := (row_lit w1 39 s.cells rfl).keep (by simp) (fun y q1 q2 q3 => Below.heap_alloc _ _ _ q3)
            have HRL3 := Lib.hid hrl3
            have HAL3 := Lib.hid hal3
            have hs3 : w1.heap.size + 1 + 1 ≤ (((w1.alloc (.cells #[.int .i64 s.p.kind, .int .i64 s.p.next, .int .i64 s.p.pk.el, .slice s.A s.p.pk.hd.length s.c, .int .i64 s.p.pk.tag, .slice s.B s.p.pk.bd.length s.d] 39)).alloc (.cells #[] 39)).drew).heap.size := by simp
            clear half hal3 hrl3 hacc3
            go_region_held3 (fun w' => w'.cell? ⟨b, off + k * 6, none⟩ = some (.int .i64 s.p.kind) ∧ w'.cell? ⟨b, off + k * 6 + 1, none⟩ = some (.int .i64 s.p.next) ∧ w'.cell? ⟨b, off + k * 6 + 2, none⟩ = some (.int .i64 s.p.pk.el) ∧ w'.cell? ⟨b, off + k * 6 + 3, none⟩ = some (.slice s.A s.p.pk.hd.length s.c) ∧ w'.cell? ⟨b, off + k * 6 + 4, none⟩ = some (.int .i64 s.p.pk.tag) ∧ w'.cell? ⟨b, off + k * 6 + 5, none⟩ = some (.slice s.B s.p.pk.bd.length s.d))
              (first | with_reducible exact SA.out | with_reducible exact SB.out | with_reducible exact SC.out | with_reducible exact SD.out | with_reducible exact SE.out | with_reducible exact kB | with_reducible exact kC | with_reducible exact kD | with_reducible exact kE | fail)
              (first
              | ((with_reducible refine step_appD elPld _ _ _ _ _ HD1.out _ _ _ _ _ _ HR1.out (flat_one _) hl1 (.tmp 31) (.tmp 34) rfl rfl (by go_simp) (by go_simp) ?_); intro g5 v5 w5 hd5 hg5 hgr5; rw [List.nil_append, Nat.zero_add] at hd5; have hb5 : Below w1.heap.size w1 w5 := HAL.out.grown hgr5 (by simp) (fun q hq => by simp at hq; omega); have hq5 : ∀ q, g5 = some q → w1.heap.size ≤ q := ge_of hg5 (fun q e => by simp at e; omega) (by simp); have kB : (w5.cell? ⟨b, off + k * 6, none⟩ = some (.int .i64 s.p.kind) ∧ w5.cell? ⟨b, off + k * 6 + 1, none⟩ = some (.int .i64 s.p.next) ∧ w5.cell? ⟨b, off + k * 6 + 2, none⟩ = some (.int .i64 s.p.pk.el) ∧ w5.cell? ⟨b, off + k * 6 + 3, none⟩ = some (.slice s.A s.p.pk.hd.length s.c) ∧ w5.cell? ⟨b, off + k * 6 + 4, none⟩ = some (.int .i64 s.p.pk.tag) ∧ w5.cell? ⟨b, off + k * 6 + 5, none⟩ = some (.slice s.B s.p.pk.bd.length s.d)) := ⟨(hb5.cell (p := ⟨b, off + k * 6, none⟩) hbl).trans c0, (hb5.cell (p := ⟨b, off + k * 6 + 1, none⟩) hbl).trans c1, (hb5.cell (p := ⟨b, off + k * 6 + 2, none⟩) hbl).trans c2, (hb5.cell (p := ⟨b, off + k * 6 + 3, none⟩) hbl).trans c3, (hb5.cell (p := ⟨b, off + k * 6 + 4, none⟩) hbl).trans c4, (hb5.cell (p := ⟨b, off + k * 6 + 5, none⟩) hbl).trans c5⟩; have hb5a : Below w1.heap.size w1 (w5.alloc (.cells #[.int .i64 s.p.kind, .int .i64 s.p.next, .int .i64 s.p.pk.el, .slice s.A s.p.pk.hd.length s.c, .int .i64 s.p.pk.tag, .slice s.B s.p.pk.bd.length s.d] 39)) := hb5.alloc hb5.size _; have kC : ((w5.alloc (.cells #[.int .i64 s.p.kind, .int .i64 s.p.next, .int .i64 s.p.pk.el, .slice s.A s.p.pk.hd.length s.c, .int .i64 s.p.pk.tag, .slice s.B s.p.pk.bd.length s.d] 39)).cell? ⟨b, off + k * 6, none⟩ = some (.int .i64 s.p.kind) ∧ (w5.alloc (.cells #[.int .i64 s.p.kind, .int .i64 s.p.next, .int .i64 s.p.pk.el, .slice s.A s.p.pk.hd.length s.c, .int .i64 s.p.pk.tag, .slice s.B s.p.pk.bd.length s.d] 39)).cell? ⟨b, off + k * 6 + 1, none⟩ = some (.int .i64 s.p.next) ∧ (w5.alloc (.cells #[.int .i64 s.p.kind, .int .i64 s.p.next, .int .i64 s.p.pk.el, .slice s.A s.p.pk.hd.length s.c, .int .i64 s.p.pk.tag, .slice s.B s.p.pk.bd.length s.d] 39)).cell? ⟨b, off + k * 6 + 2, none⟩ = some (.int .i64 s.p.pk.el) ∧ (w5.alloc (.cells #[.int .i64 s.p.kind, .int .i64 s.p.next, .int .i64 s.p.pk.el, .slice s.A s.p.pk.hd.length s.c, .int .i64 s.p.pk.tag, .slice s.B s.p.pk.bd.length s.d] 39)).cell? ⟨b, off + k * 6 + 3, none⟩ = some (.slice s.A s.p.pk.hd.length s.c) ∧ (w5.alloc (.cells #[.int .i64 s.p.kind, .int .i64 s.p.next, .int .i64 s.p.pk.el, .slice s.A s.p.pk.hd.length s.c, .int .i64 s.p.pk.tag, .slice s.B s.p.pk.bd.length s.d] 39)).cell? ⟨b, off + k * 6 + 4, none⟩ = some (.int .i64 s.p.pk.tag) ∧ (w5.alloc (.cells #[.int .i64 s.p.kind, .int .i64 s.p.next, .int .i64 s.p.pk.el, .slice s.A s.p.pk.hd.length s.c, .int .i64 s.p.pk.tag, .slice s.B s.p.pk.bd.length s.d] 39)).cell? ⟨b, off + k * 6 + 5, none⟩ = some (.slice s.B s.p.pk.bd.length s.d)) := ⟨(hb5a.cell (p := ⟨b, off + k * 6, none⟩) hbl).trans c0, (hb5a.cell (p := ⟨b, off + k * 6 + 1, none⟩) hbl).trans c1, (hb5a.cell (p := ⟨b, off + k * 6 + 2, none⟩) hbl).trans c2, (hb5a.cell (p := ⟨b, off + k * 6 + 3, none⟩) hbl).trans c3, (hb5a.cell (p := ⟨b, off + k * 6 + 4, none⟩) hbl).trans c4, (hb5a.cell (p := ⟨b, off + k * 6 + 5, none⟩) hbl).trans c5⟩; have hd5a := dest_keep hd5 (w' := w5.alloc (.cells #[.int .i64 s.p.kind, .int .i64 s.p.next, .int .i64 s.p.pk.el, .slice s.A s.p.pk.hd.length s.c, .int .i64 s.p.pk.tag, .slice s.B s.p.pk.bd.length s.d] 39)) (fun q e => Below.heap_alloc _ _ _ (dest_lt hd5 q e)); have hrl : Row w5.heap.size (w5.heap.size + 1) (w5.alloc (.cells #[.int .i64 s.p.kind, .int .i64 s.p.next, .int .i64 s.p.pk.el, .slice s.A s.p.pk.hd.length s.c, .int .i64 s.p.pk.tag, .slice s.B s.p.pk.bd.length s.d] 39)) (some ⟨w5.heap.size, 0, none⟩) 1 1 6 s.cells := row_lit w5 _ s.cells rfl)
              | ((with_reducible refine step_appD elPld _ _ _ _ _ HD2.out _ _ _ _ _ _ HR2.out (flat_one _) hl1 (.tmp 31) (.tmp 34) rfl rfl (by go_simp) (by go_simp) ?_); intro g5 v5 w5 hd5 hg5 hgr5; rw [List.nil_append, Nat.zero_add] at hd5; have hb5 : Below w1.heap.size w1 w5 := HAL2.out.grown hgr5 (by have := hs2; omega) (fun q hq => by simp at hq; omega); have hq5 : ∀ q, g5 = some q → w1.heap.size ≤ q := ge_of hg5 (fun q e => by simp at e; omega) (by have := hs2; omega); have kB : (w5.cell? ⟨b, off + k * 6, none⟩ = some (.int .i64 s.p.kind) ∧ w5.cell? ⟨b, off + k * 6 + 1, none⟩ = some (.int .i64 s.p.next) ∧ w5.cell? ⟨b, off + k * 6 + 2, none⟩ = some (.int .i64 s.p.pk.el) ∧ w5.cell? ⟨b, off + k * 6 + 3, none⟩ = some (.slice s.A s.p.pk.hd.length s.c) ∧ w5.cell? ⟨b, off + k * 6 + 4, none⟩ = some (.int .i64 s.p.pk.tag) ∧ w5.cell? ⟨b, off + k * 6 + 5, none⟩ = some (.slice s.B s.p.pk.bd.length s.d)) := ⟨(hb5.cell (p := ⟨b, off + k * 6, none⟩) hbl).trans c0, (hb5.cell (p := ⟨b, off + k * 6 + 1, none⟩) hbl).trans c1, (hb5.cell (p := ⟨b, off + k * 6 + 2, none⟩) hbl).trans c2, (hb5.cell (p := ⟨b, off + k * 6 + 3, none⟩) hbl).trans c3, (hb5.cell (p := ⟨b, off + k * 6 + 4, none⟩) hbl).trans c4, (hb5.cell (p := ⟨b, off + k * 6 + 5, none⟩) hbl).trans c5⟩; have hrl5 := HRL.out.keep hgr5.size (fun y q1 q2 q3 => hgr5.block y q3 (by simp; omega)))
              | ((with_reducible refine step_appD elPld _ _ _ _ _ HD3.out _ _ _ _ _ _ HR3.out (flat_one _) hl1 (.tmp 31) (.tmp 34) rfl rfl (by go_simp) (by go_simp) ?_); intro g5 v5 w5 hd5 hg5 hgr5; rw [List.nil_append, Nat.zero_add] at hd5; have hb5 : Below w1.heap.size w1 w5 := HAL3.out.grown hgr5 (by have := hs3; omega) (fun q hq => by simp at hq; omega); have hq5 : ∀ q, g5 = some q → w1.heap.size ≤ q := ge_of hg5 (fun q e => by simp at e; omega) (by have := hs3; omega); have kB : (w5.cell? ⟨b, off + k * 6, none⟩ = some (.int .i64 s.p.kind) ∧ w5.cell? ⟨b, off + k * 6 + 1, none⟩ = some (.int .i64 s.p.next) ∧ w5.cell? ⟨b, off + k * 6 + 2, none⟩ = some (.int .i64 s.p.pk.el) ∧ w5.cell? ⟨b, off + k * 6 + 3, none⟩ = some (.slice s.A s.p.pk.hd.length s.c) ∧ w5.cell? ⟨b, off + k * 6 + 4, none⟩ = some (.int .i64 s.p.pk.tag) ∧ w5.cell? ⟨b, off + k * 6 + 5, none⟩ = some (.slice s.B s.p.pk.bd.length s.d)) := ⟨(hb5.cell (p := ⟨b, off + k * 6, none⟩) hbl).trans c0, (hb5.cell (p := ⟨b, off + k * 6 + 1, none⟩) hbl).trans c1, (hb5.cell (p := ⟨b, off + k * 6 + 2, none⟩) hbl).trans c2, (hb5.cell (p := ⟨b, off + k * 6 + 3, none⟩) hbl).trans c3, (hb5.cell (p := ⟨b, off + k * 6 + 4, none⟩) hbl).trans c4, (hb5.cell (p := ⟨b, off + k * 6 + 5, none⟩) hbl).trans c5⟩; have hrl5 := HRL3.out.keep hgr5.size (fun y q1 q2 q3 => hgr5.block y q3 (by simp; omega)))
              | ((with_reducible refine step_appD elPld _ _ _ _ _ hd5a _ _ _ _ _ _ hrl (cells_one s) hl2 (.tmp 35) (.tmp 40) rfl rfl (by go_simp) (by go_simp) ?_); intro g6 v6 w6 hd6 hg6 hgr6; have hb6 : Below w1.heap.size w1 w6 := hb5a.grown hgr6 (by have := hb5.size; simp; omega) hq5; have hq6 : ∀ q, g6 = some q → w1.heap.size ≤ q := ge_of hg6 hq5 (by have := hb5.size; simp; omega); have kD : (w6.cell? ⟨b, off + k * 6, none⟩ = some (.int .i64 s.p.kind) ∧ w6.cell? ⟨b, off + k * 6 + 1, none⟩ = some (.int .i64 s.p.next) ∧ w6.cell? ⟨b, off + k * 6 + 2, none⟩ = some (.int .i64 s.p.pk.el) ∧ w6.cell? ⟨b, off + k * 6 + 3, none⟩ = some (.slice s.A s.p.pk.hd.length s.c) ∧ w6.cell? ⟨b, off + k * 6 + 4, none⟩ = some (.int .i64 s.p.pk.tag) ∧ w6.cell? ⟨b, off + k * 6 + 5, none⟩ = some (.slice s.B s.p.pk.bd.length s.d)) := ⟨(hb6.cell (p := ⟨b, off + k * 6, none⟩) hbl).trans c0, (hb6.cell (p := ⟨b, off + k * 6 + 1, none⟩) hbl).trans c1, (hb6.cell (p := ⟨b, off + k * 6 + 2, none⟩) hbl).trans c2, (hb6.cell (p := ⟨b, off + k * 6 + 3, none⟩) hbl).trans c3, (hb6.cell (p := ⟨b, off + k * 6 + 4, none⟩) hbl).trans c4, (hb6.cell (p := ⟨b, off + k * 6 + 5, none⟩) hbl).trans c5⟩; have hr3 : Row 0 0 w6 (some ⟨g, k * 6, none⟩) 0 (d - k) 6 [] := Row.nil_ hmx)
              | ((with_reducible refine step_appD elPld _ _ _ _ _ hd5 _ _ _ _ _ _ hrl5 (cells_one s) hl2 (.tmp 35) (.tmp 40) rfl rfl (by go_simp) (by go_simp) ?_); intro g6 v6 w6 hd6 hg6 hgr6; have hb6 : Below w1.heap.size w1 w6 := hb5.grown hgr6 hb5.size hq5; have hq6 : ∀ q, g6 = some q → w1.heap.size ≤ q := ge_of hg6 hq5 hb5.size; have kD : (w6.cell? ⟨b, off + k * 6, none⟩ = some (.int .i64 s.p.kind) ∧ w6.cell? ⟨b, off + k * 6 + 1, none⟩ = some (.int .i64 s.p.next) ∧ w6.cell? ⟨b, off + k * 6 + 2, none⟩ = some (.int .i64 s.p.pk.el) ∧ w6.cell? ⟨b, off + k * 6 + 3, none⟩ = some (.slice s.A s.p.pk.hd.length s.c) ∧ w6.cell? ⟨b, off + k * 6 + 4, none⟩ = some (.int .i64 s.p.pk.tag) ∧ w6.cell? ⟨b, off + k * 6 + 5, none⟩ = some (.slice s.B s.p.pk.bd.length s.d)) := ⟨(hb6.cell (p := ⟨b, off + k * 6, none⟩) hbl).trans c0, (hb6.cell (p := ⟨b, off + k * 6 + 1, none⟩) hbl).trans c1, (hb6.cell (p := ⟨b, off + k * 6 + 2, none⟩) hbl).trans c2, (hb6.cell (p := ⟨b, off + k * 6 + 3, none⟩) hbl).trans c3, (hb6.cell (p := ⟨b, off + k * 6 + 4, none⟩) hbl).trans c4, (hb6.cell (p := ⟨b, off + k * 6 + 5, none⟩) hbl).trans c5⟩; have hr3 : Row 0 0 w6 (some ⟨g, k * 6, none⟩) 0 (d - k) 6 [] := Row.nil_ hmx)
              | ((with_reducible refine step_appD elPld _ _ _ _ _ hd6 _ _ _ _ _ _ hr3 (fun u hu => by simp at hu) hl3 (.tmp 41) (.tmp 44) rfl rfl (by go_simp) (by go_simp) ?_); intro g7 v7 w7 hd7 hg7 hgr7; have hb7 : Below w1.heap.size w1 w7 := hb6.grown hgr7 hb6.size hq6; have hq7 : ∀ q, g7 = some q → w1.heap.size ≤ q := ge_of hg7 hq6 hb6.size; have kE : (w7.cell? ⟨b, off + k * 6, none⟩ = some (.int .i64 s.p.kind) ∧ w7.cell? ⟨b, off + k * 6 + 1, none⟩ = some (.int .i64 s.p.next) ∧ w7.cell? ⟨b, off + k * 6 + 2, none⟩ = some (.int .i64 s.p.pk.el) ∧ w7.cell? ⟨b, off + k * 6 + 3, none⟩ = some (.slice s.A s.p.pk.hd.length s.c) ∧ w7.cell? ⟨b, off + k * 6 + 4, none⟩ = some (.int .i64 s.p.pk.tag) ∧ w7.cell? ⟨b, off + k * 6 + 5, none⟩ = some (.slice s.B s.p.pk.bd.length s.d)) := ⟨(hb7.cell (p := ⟨b, off + k * 6, none⟩) hbl).trans c0, (hb7.cell (p := ⟨b, off + k * 6 + 1, none⟩) hbl).trans c1, (hb7.cell (p := ⟨b, off + k * 6 + 2, none⟩) hbl).trans c2, (hb7.cell (p := ⟨b, off + k * 6 + 3, none⟩) hbl).trans c3, (hb7.cell (p := ⟨b, off + k * 6 + 4, none⟩) hbl).trans c4, (hb7.cell (p := ⟨b, off + k * 6 + 5, none⟩) hbl).trans c5⟩))
            all_goals
              have hfin := sort_fin (k := k) HS2.out hb7 hd7 hq7 (by omega) (by rw [List.flatMap_append, List.flatMap_cons, List.drop_of_length_le (by rw [row_len HS2.out.2.2.1]; exact Nat.le_refl _), List.flatMap_nil, List.append_nil, List.append_nil]) hsx (by
                have e1 : s.p = pldAt ps k := by
                  unfold pldAt
                  rw [← HMAP.out, List.getD_eq_getElem?_getD, List.getElem?_map, hsx]
                  rfl
                rw [e1]; exact HCUT.out)
              obtain ⟨g9, d9, os9, rfl, hfin⟩ := hfin
              have HFIN := Lib.hid hfin
              clear hfin
              go_wp2
              go_roundw
              case rel => exact ⟨k + 1, d9, g9, os9, by omega, by go_num, by go_num, HFIN.out⟩
              case measure => simp [intOf]; omega
          · obtain rfl : d = k := by omega
            have hmx : (0 : Nat) ≤ maxLen := Nat.zero_le _
            obtain ⟨b', off', s, e', hb1, hb2, hsx, c0, c1, c2, c3, c4, c5⟩ := row_at HS2.out.1 hlj
            simp only [Option.some.injEq, Addr.mk.injEq, and_true] at e'
            obtain ⟨rfl, rfl⟩ := e'
            have hlo := HS2.out.2.2.2.2.2.2.2
            have hbl : b < w1.heap.size := by omega
            have hal : Below w1.heap.size w1 ((w1.alloc (.cells #[] 39)).drew) := below_dr ((Below.refl _ w1).alloc (Nat.le_refl _) _) 1
            have hal2 : Below w1.heap.size w1 (((w1.alloc (.cells #[] 39)).alloc (.cells #[.int .i64 s.p.kind, .int .i64 s.p.next, .int .i64 s.p.pk.el, .slice s.A s.p.pk.hd.length s.c, .int .i64 s.p.pk.tag, .slice s.B s.p.pk.bd.length s.d] 39)).drew) := below_dr (((Below.refl _ w1).alloc (Nat.le_refl _) _).alloc (by simp) _) 1
            have SA : Hid (w1.drew.cell? ⟨b, off + d * 6, none⟩ = some (.int .i64 s.p.kind) ∧ w1.drew.cell? ⟨b, off + d * 6 + 1, none⟩ = some (.int .i64 s.p.next) ∧ w1.drew.cell? ⟨b, off + d * 6 + 2, none⟩ = some (.int .i64 s.p.pk.el) ∧ w1.drew.cell? ⟨b, off + d * 6 + 3, none⟩ = some (.slice s.A s.p.pk.hd.length s.c) ∧ w1.drew.cell? ⟨b, off + d * 6 + 4, none⟩ = some (.int .i64 s.p.pk.tag) ∧ w1.drew.cell? ⟨b, off + d * 6 + 5, none⟩ = some (.slice s.B s.p.pk.bd.length s.d)) := ⟨c0, c1, c2, c3, c4, c5⟩
            have SB : Hid ((w1.alloc (.cells #[] 39)).drew.cell? ⟨b, off + d * 6, none⟩ = some (.int .i64 s.p.kind) ∧ (w1.alloc (.cells #[] 39)).drew.cell? ⟨b, off + d * 6 + 1, none⟩ = some (.int .i64 s.p.next) ∧ (w1.alloc (.cells #[] 39)).drew.cell? ⟨b, off + d * 6 + 2, none⟩ = some (.int .i64 s.p.pk.el) ∧ (w1.alloc (.cells #[] 39)).drew.cell? ⟨b, off + d * 6 + 3, none⟩ = some (.slice s.A s.p.pk.hd.length s.c) ∧ (w1.alloc (.cells #[] 39)).drew.cell? ⟨b, off + d * 6 + 4, none⟩ = some (.int .i64 s.p.pk.tag) ∧ (w1.alloc (.cells #[] 39)).drew.cell? ⟨b, off + d * 6 + 5, none⟩ = some (.slice s.B s.p.pk.bd.length s.d)) := ⟨(hal.cell (p := ⟨b, off + d * 6, none⟩) hbl).trans c0, (hal.cell (p := ⟨b, off + d * 6 + 1, none⟩) hbl).trans c1, (hal.cell (p := ⟨b, off + d * 6 + 2, none⟩) hbl).trans c2, (hal.cell (p := ⟨b, off + d * 6 + 3, none⟩) hbl).trans c3, (hal.cell (p := ⟨b, off + d * 6 + 4, none⟩) hbl).trans c4, (hal.cell (p := ⟨b, off + d * 6 + 5, none⟩) hbl).trans c5⟩
            have SC : Hid (((w1.alloc (.cells #[] 39)).alloc (.cells #[.int .i64 s.p.kind, .int .i64 s.p.next, .int .i64 s.p.pk.el, .slice s.A s.p.pk.hd.length s.c, .int .i64 s.p.pk.tag, .slice s.B s.p.pk.bd.length s.d] 39)).drew.cell? ⟨b, off + d * 6, none⟩ = some (.int .i64 s.p.kind) ∧ ((w1.alloc (.cells #[] 39)).alloc (.cells #[.int .i64 s.p.kind, .int .i64 s.p.next, .int .i64 s.p.pk.el, .slice s.A s.p.pk.hd.length s.c, .int .i64 s.p.pk.tag, .slice s.B s.p.pk.bd.length s.d] 39)).drew.cell? ⟨b, off + d * 6 + 1, none⟩ = some (.int .i64 s.p.next) ∧ ((w1.alloc (.cells #[] 39)).alloc (.cells #[.int .i64 s.p.kind, .int .i64 s.p.next, .int .i64 s.p.pk.el, .slice s.A s.p.pk.hd.length s.c, .int .i64 s.p.pk.tag, .slice s.B s.p.pk.bd.length s.d] 39)).drew.cell? ⟨b, off + d * 6 + 2, none⟩ = some (.int .i64 s.p.pk.el) ∧ ((w1.alloc (.cells #[] 39)).alloc (.cells #[.int .i64 s.p.kind, .int .i64 s.p.next, .int .i64 s.p.pk.el, .slice s.A s.p.pk.hd.length s.c, .int .i64 s.p.pk.tag, .slice s.B s.p.pk.bd.length s.d] 39)).drew.cell? ⟨b, off + d * 6 + 3, none⟩ = some (.slice s.A s.p.pk.hd.length s.c) ∧ ((w1.alloc (.cells #[] 39)).alloc (.cells #[.int .i64 s.p.kind, .int .i64 s.p.next, .int .i64 s.p.pk.el, .slice s.A s.p.pk.hd.length s.c, .int .i64 s.p.pk.tag, .slice s.B s.p.pk.bd.length s.d] 39)).drew.cell? ⟨b, off + d * 6 + 4, none⟩ = some (.int .i64 s.p.pk.tag) ∧ ((w1.alloc (.cells #[] 39)).alloc (.cells #[.int .i64 s.p.kind, .int .i64 s.p.next, .int .i64 s.p.pk.el, .slice s.A s.p.pk.hd.length s.c, .int .i64 s.p.pk.tag, .slice s.B s.p.pk.bd.length s.d] 39)).drew.cell? ⟨b, off + d * 6 + 5, none⟩ = some (.slice s.B s.p.pk.bd.length s.d)) := ⟨(hal2.cell (p := ⟨b, off + d * 6, none⟩) hbl).trans c0, (hal2.cell (p := ⟨b, off + d * 6 + 1, none⟩) hbl).trans c1, (hal2.cell (p := ⟨b, off + d * 6 + 2, none⟩) hbl).trans c2, (hal2.cell (p := ⟨b, off + d * 6 + 3, none⟩) hbl).trans c3, (hal2.cell (p := ⟨b, off + d * 6 + 4, none⟩) hbl).trans c4, (hal2.cell (p := ⟨b, off + d * 6 + 5, none⟩) hbl).trans c5⟩
            have HD1 : Hid (Dest 39 6 (some w1.heap.size) ((w1.alloc (.cells #[] 39)).drew) (.slice (some ⟨w1.heap.size, 0, none⟩) 0 0) 0 []) := .inr ⟨_, rfl, accV_new w1 _ _⟩
            have hacc2 : AccV 39 6 w1.heap.size (((w1.alloc (.cells #[] 39)).alloc (.cells #[.int .i64 s.p.kind, .int .i64 s.p.next, .int .i64 s.p.pk.el, .slice s.A s.p.pk.hd.length s.c, .int .i64 s.p.pk.tag, .slice s.B s.p.pk.bd.length s.d] 39)).drew) (.slice (some ⟨w1.heap.size, 0, none⟩) 0 0) 0 [] := (accV_new w1 _ _).alloc _
            have HD2 : Hid (Dest 39 6 (some w1.heap.size) (((w1.alloc (.cells #[] 39)).alloc (.cells #[.int .i64 s.p.kind, .int .i64 s.p.next, .int .i64 s.p.pk.el, .slice s.A s.p.pk.hd.length s.c, .int .i64 s.p.pk.tag, .slice s.B s.p.pk.bd.length s.d] 39)).drew) (.slice (some ⟨w1.heap.size, 0, none⟩) 0 0) 0 []) := .inr ⟨_, rfl, hacc2⟩
            have HR1 : Hid (Row _ _ ((w1.alloc (.cells #[] 39)).drew) (some ⟨g, 0, none⟩) d d 6 ((os.take d).flatMap Slot.cells)) := row_take (k := d) (HS2.out.2.2.1.below hal (Nat.le_refl _)) (by omega)
            have HR2 : Hid (Row _ _ (((w1.alloc (.cells #[] 39)).alloc (.cells #[.int .i64 s.p.kind, .int .i64 s.p.next, .int .i64 s.p.pk.el, .slice s.A s.p.pk.hd.length s.c, .int .i64 s.p.pk.tag, .slice s.B s.p.pk.bd.length s.d] 39)).drew) (some ⟨g, 0, none⟩) d d 6 ((os.take d).flatMap Slot.cells)) := row_take (k := d) (HS2.out.2.2.1.below hal2 (Nat.le_refl _)) (by omega)
            have hrl0 : Row (w1.heap.size + 1) (w1.heap.size + 1 + 1) (((w1.alloc (.cells #[] 39)).alloc (.cells #[.int .i64 s.p.kind, .int .i64 s.p.next, .int .i64 s.p.pk.el, .slice s.A s.p.pk.hd.length s.c, .int .i64 s.p.pk.tag, .slice s.B s.p.pk.bd.length s.d] 39)).drew) (some ⟨w1.heap.size + 1, 0, none⟩) 1 1 6 s.cells := by
              have h1 := row_lit (w1.alloc (.cells #[] 39)) 39 s.cells rfl
              have e1 : (w1.alloc (.cells #[] 39)).heap.size = w1.heap.size + 1 := by simp
              rw [e1] at h1
              exact h1
            have HRL := Lib.hid hrl0
            have HAL := Lib.hid hal
            have HAL2 := Lib.hid hal2
            have hs2 : w1.heap.size + 1 + 1 ≤ (((w1.alloc (.cells #[] 39)).alloc (.cells #[.int .i64 s.p.kind, .int .i64 s.p.next, .int .i64 s.p.pk.el, .slice s.A s.p.pk.hd.length s.c, .int .i64 s.p.pk.tag, .slice s.B s.p.pk.bd.length s.d] 39)).drew).heap.size := by simp
            have hl1 : 0 + d ≤ 1000000 := by omega
            have hl2 : d + 1 ≤ 1000000 := by omega
            have hl3 : d + 1 + 0 ≤ 1000000 := by omega
            clear hal hal2 hrl0 hacc2
            have half : Below w1.heap.size w1 ((w1.alloc (.cells #[.int .i64 s.p.kind, .int .i64 s.p.next, .int .i64 s.p.pk.el, .slice s.A s.p.pk.hd.length s.c, .int .i64 s.p.pk.tag, .slice s.B s.p.pk.bd.length s.d] 39)).drew) := below_dr ((Below.refl _ w1).alloc (Nat.le_refl _) _) 1
            have hal3 : Below w1.heap.size w1 (((w1.alloc (.cells #[.int .i64 s.p.kind, .int .i64 s.p.next, .int .i64 s.p.pk.el, .slice s.A s.p.pk.hd.length s.c, .int .i64 s.p.pk.tag, .slice s.B s.p.pk.bd.length s.d] 39)).alloc (.cells #[] 39)).drew) := below_dr (((Below.refl _ w1).alloc (Nat.le_refl _) _).alloc (by simp) _) 1
            have SD : Hid ((w1.alloc (.cells #[.int .i64 s.p.kind, .int .i64 s.p.next, .int .i64 s.p.pk.el, .slice s.A s.p.pk.hd.length s.c, .int .i64 s.p.pk.tag, .slice s.B s.p.pk.bd.length s.d] 39)).drew.cell? ⟨b, off + d * 6, none⟩ = some (.int .i64 s.p.kind) ∧ (w1.alloc (.cells #[.int .i64 s.p.kind, .int .i64 s.p.next, .int .i64 s.p.pk.el, .slice s.A s.p.pk.hd.length s.c, .int .i64 s.p.pk.tag, .slice s.B s.p.pk.bd.length s.d] 39)).drew.cell? ⟨b, off + d * 6 + 1, none⟩ = some (.int .i64 s.p.next) ∧ (w1.alloc (.cells #[.int .i64 s.p.kind, .int .i64 s.p.next, .int .i64 s.p.pk.el, .slice s.A s.p.pk.hd.length s.c, .int .i64 s.p.pk.tag, .slice s.B s.p.pk.bd.length s.d] 39)).drew.cell? ⟨b, off + d * 6 + 2, none⟩ = some (.int .i64 s.p.pk.el) ∧ (w1.alloc (.cells #[.int .i64 s.p.kind, .int .i64 s.p.next, .int .i64 s.p.pk.el, .slice s.A s.p.pk.hd.length s.c, .int .i64 s.p.pk.tag, .slice s.B s.p.pk.bd.length s.d] 39)).drew.cell? ⟨b, off + d * 6 + 3, none⟩ = some (.slice s.A s.p.pk.hd.length s.c) ∧ (w1.alloc (.cells #[.int .i64 s.p.kind, .int .i64 s.p.next, .int .i64 s.p.pk.el, .slice s.A s.p.pk.hd.length s.c, .int .i64 s.p.pk.tag, .slice s.B s.p.pk.bd.length s.d] 39)).drew.cell? ⟨b, off + d * 6 + 4, none⟩ = some (.int .i64 s.p.pk.tag) ∧ (w1.alloc (.cells #[.int .i64 s.p.kind, .int .i64 s.p.next, .int .i64 s.p.pk.el, .slice s.A s.p.pk.hd.length s.c, .int .i64 s.p.pk.tag, .slice s.B s.p.pk.bd.length s.d] 39)).drew.cell? ⟨b, off + d * 6 + 5, none⟩ = some (.slice s.B s.p.pk.bd.length s.d)) := ⟨(half.cell (p := ⟨b, off + d * 6, none⟩) hbl).trans c0, (half.cell (p := ⟨b, off + d * 6 + 1, none⟩) hbl).trans c1, (half.cell (p := ⟨b, off + d * 6 + 2, none⟩) hbl).trans c2, (half.cell (p := ⟨b, off + d * 6 + 3, none⟩) hbl).trans c3, (half.cell (p := ⟨b, off + d * 6 + 4, none⟩) hbl).trans c4, (half.cell (p := ⟨b, off + d * 6 + 5, none⟩) hbl).trans c5⟩
            have SE : Hid (((w1.alloc (.cells #[.int .i64 s.p.kind, .int .i64 s.p.next, .int .i64 s.p.pk.el, .slice s.A s.p.pk.hd.length s.c, .int .i64 s.p.pk.tag, .slice s.B s.p.pk.bd.length s.d] 39)).alloc (.cells #[] 39)).drew.cell? ⟨b, off + d * 6, none⟩ = some (.int .i64 s.p.kind) ∧ ((w1.alloc (.cells #[.int .i64 s.p.kind, .int .i64 s.p.next, .int .i64 s.p.pk.el, .slice s.A s.p.pk.hd.length s.c, .int .i64 s.p.pk.tag, .slice s.B s.p.pk.bd.length s.d] 39)).alloc (.cells #[] 39)).drew.cell? ⟨b, off + d * 6 + 1, none⟩ = some (.int .i64 s.p.next) ∧ ((w1.alloc (.cells #[.int .i64 s.p.kind, .int .i64 s.p.next, .int .i64 s.p.pk.el, .slice s.A s.p.pk.hd.length s.c, .int .i64 s.p.pk.tag, .slice s.B s.p.pk.bd.length s.d] 39)).alloc (.cells #[] 39)).drew.cell? ⟨b, off + d * 6 + 2, none⟩ = some (.int .i64 s.p.pk.el) ∧ ((w1.alloc (.cells #[.int .i64 s.p.kind, .int .i64 s.p.next, .int .i64 s.p.pk.el, .slice s.A s.p.pk.hd.length s.c, .int .i64 s.p.pk.tag, .slice s.B s.p.pk.bd.length s.d] 39)).alloc (.cells #[] 39)).drew.cell? ⟨b, off + d * 6 + 3, none⟩ = some (.slice s.A s.p.pk.hd.length s.c) ∧ ((w1.alloc (.cells #[.int .i64 s.p.kind, .int .i64 s.p.next, .int .i64 s.p.pk.el, .slice s.A s.p.pk.hd.length s.c, .int .i64 s.p.pk.tag, .slice s.B s.p.pk.bd.length s.d] 39)).alloc (.cells #[] 39)).drew.cell? ⟨b, off + d * 6 + 4, none⟩ = some (.int .i64 s.p.pk.tag) ∧ ((w1.alloc (.cells #[.int .i64 s.p.kind, .int .i64 s.p.next, .int .i64 s.p.pk.el, .slice s.A s.p.pk.hd.length s.c, .int .i64 s.p.pk.tag, .slice s.B s.p.pk.bd.length s.d] 39)).alloc (.cells #[] 39)).drew.cell? ⟨b, off + d * 6 + 5, none⟩ = some (.slice s.B s.p.pk.bd.length s.d)) := ⟨(hal3.cell (p := ⟨b, off + d * 6, none⟩) hbl).trans c0, (hal3.cell (p := ⟨b, off + d * 6 + 1, none⟩) hbl).trans c1, (hal3.cell (p := ⟨b, off + d * 6 + 2, none⟩) hbl).trans c2, (hal3.cell (p := ⟨b, off + d * 6 + 3, none⟩) hbl).trans c3, (hal3.cell (p := ⟨b, off + d * 6 + 4, none⟩) hbl).trans c4, (hal3.cell (p := ⟨b, off + d * 6 + 5, none⟩) hbl).trans c5⟩
            have hacc3 : AccV 39 6 (w1.heap.size + 1) (((w1.alloc (.cells #[.int .i64 s.p.kind, .int .i64 s.p.next, .int .i64 s.p.pk.el, .slice s.A s.p.pk.hd.length s.c, .int .i64 s.p.pk.tag, .slice s.B s.p.pk.bd.length s.d] 39)).alloc (.cells #[] 39)).drew) (.slice (some ⟨w1.heap.size + 1, 0, none⟩) 0 0) 0 [] := by
              have h1 := accV_new (w1.alloc (.cells #[.int .i64 s.p.kind, .int .i64 s.p.next, .int .i64 s.p.pk.el, .slice s.A s.p.pk.hd.length s.c, .int .i64 s.p.pk.tag, .slice s.B s.p.pk.bd.length s.d] 39)) 39 6
              have e1 : (w1.alloc (.cells #[.int .i64 s.p.kind, .int .i64 s.p.next, .int .i64 s.p.pk.el, .slice s.A s.p.pk.hd.length s.c, .int .i64 s.p.pk.tag, .slice s.B s.p.pk.bd.length s.d] 39)).heap.size = w1.heap.size + 1 := by simp
              rw [e1] at h1
              exact h1
            have HD3 : Hid (Dest 39 6 (some (w1.heap.size + 1)) (((w1.alloc (.cells #[.int .i64 s.p.kind, .int .i64 s.p.next, .int .i64 s.p.pk.el, .slice s.A s.p.pk.hd.length s.c, .int .i64 s.p.pk.tag, .slice s.B s.p.pk.bd.length s.d] 39)).alloc (.cells #[] 39)).drew) (.slice (some ⟨w1.heap.size + 1, 0, none⟩) 0 0) 0 []) := .inr ⟨_, rfl, hacc3⟩
            have HR3 : Hid (Row _ _ (((w1.alloc (.cells #[.int .i64 s.p.kind, .int .i64 s.p.next, .int .i64 s.p.pk.el, .slice s.A s.p.pk.hd.length s.c, .int .i64 s.p.pk.tag, .slice s.B s.p.pk.bd.length s.d] 39)).alloc (.cells #[] 39)).drew) (some ⟨g, 0, none⟩) d d 6 ((os.take d).flatMap Slot.cells)) := row_take (k := d) (HS2.out.2.2.1.below hal3 (Nat.le_refl _)) (by omega)
            have hrl3 : Row w1.heap.size (w1.heap.size + 1) (((w1.alloc (.cells #[.int .i64 s.p.kind, .int .i64 s.p.next, .int .i64 s.p.pk.el, .slice s.A s.p.pk.hd.length s.c, .int .i64 s.p.pk.tag, .slice s.B s.p.pk.bd.length s.d] 39)).alloc (.cells #[] 39)).drew) (some ⟨w1.heap.size, 0, none⟩) 1 1 6 s.cells := (row_lit w1 39 s.cells rfl).keep (by simp) (fun y q1 q2 q3 => Below.heap_alloc _ _ _ q3)
            have HRL3 := Lib.hid hrl3
            have HAL3 := Lib.hid hal3
            have hs3 : w1.heap.size + 1 + 1 ≤ (((w1.alloc (.cells #[.int .i64 s.p.kind, .int .i64 s.p.next, .int .i64 s.p.pk.el, .slice s.A s.p.pk.hd.length s.c, .int .i64 s.p.pk.tag, .slice s.B s.p.pk.bd.length s.d] 39)).alloc (.cells #[] 39)).drew).heap.size := by simp
            clear half hal3 hrl3 hacc3
            go_region_held3 (fun w' => w'.cell? ⟨b, off + d * 6, none⟩ = some (.int .i64 s.p.kind) ∧ w'.cell? ⟨b, off + d * 6 + 1, none⟩ = some (.int .i64 s.p.next) ∧ w'.cell? ⟨b, off + d * 6 + 2, none⟩ = some (.int .i64 s.p.pk.el) ∧ w'.cell? ⟨b, off + d * 6 + 3, none⟩ = some (.slice s.A s.p.pk.hd.length s.c) ∧ w'.cell? ⟨b, off + d * 6 + 4, none⟩ = some (.int .i64 s.p.pk.tag) ∧ w'.cell? ⟨b, off + d * 6 + 5, none⟩ = some (.slice s.B s.p.pk.bd.length s.d))
              (first | with_reducible exact SA.out | with_reducible exact SB.out | with_reducible exact SC.out | with_reducible exact SD.out | with_reducible exact SE.out | with_reducible exact kB | with_reducible exact kC | with_reducible exact kD | with_reducible exact kE | fail)
              (first
              | ((with_reducible refine step_appD elPld _ _ _ _ _ HD1.out _ _ _ _ _ _ HR1.out (flat_one _) hl1 (.tmp 31) (.tmp 34) rfl rfl (by go_simp) (by go_simp) ?_); intro g5 v5 w5 hd5 hg5 hgr5; rw [List.nil_append, Nat.zero_add] at hd5; have hb5 : Below w1.heap.size w1 w5 := HAL.out.grown hgr5 (by simp) (fun q hq => by simp at hq; omega); have hq5 : ∀ q, g5 = some q → w1.heap.size ≤ q := ge_of hg5 (fun q e => by simp at e; omega) (by simp); have kB : (w5.cell? ⟨b, off + d * 6, none⟩ = some (.int .i64 s.p.kind) ∧ w5.cell? ⟨b, off + d * 6 + 1, none⟩ = some (.int .i64 s.p.next) ∧ w5.cell? ⟨b, off + d * 6 + 2, none⟩ = some (.int .i64 s.p.pk.el) ∧ w5.cell? ⟨b, off + d * 6 + 3, none⟩ = some (.slice s.A s.p.pk.hd.length s.c) ∧ w5.cell? ⟨b, off + d * 6 + 4, none⟩ = some (.int .i64 s.p.pk.tag) ∧ w5.cell? ⟨b, off + d * 6 + 5, none⟩ = some (.slice s.B s.p.pk.bd.length s.d)) := ⟨(hb5.cell (p := ⟨b, off + d * 6, none⟩) hbl).trans c0, (hb5.cell (p := ⟨b, off + d * 6 + 1, none⟩) hbl).trans c1, (hb5.cell (p := ⟨b, off + d * 6 + 2, none⟩) hbl).trans c2, (hb5.cell (p := ⟨b, off + d * 6 + 3, none⟩) hbl).trans c3, (hb5.cell (p := ⟨b, off + d * 6 + 4, none⟩) hbl).trans c4, (hb5.cell (p := ⟨b, off + d * 6 + 5, none⟩) hbl).trans c5⟩; have hb5a : Below w1.heap.size w1 (w5.alloc (.cells #[.int .i64 s.p.kind, .int .i64 s.p.next, .int .i64 s.p.pk.el, .slice s.A s.p.pk.hd.length s.c, .int .i64 s.p.pk.tag, .slice s.B s.p.pk.bd.length s.d] 39)) := hb5.alloc hb5.size _; have kC : ((w5.alloc (.cells #[.int .i64 s.p.kind, .int .i64 s.p.next, .int .i64 s.p.pk.el, .slice s.A s.p.pk.hd.length s.c, .int .i64 s.p.pk.tag, .slice s.B s.p.pk.bd.length s.d] 39)).cell? ⟨b, off + d * 6, none⟩ = some (.int .i64 s.p.kind) ∧ (w5.alloc (.cells #[.int .i64 s.p.kind, .int .i64 s.p.next, .int .i64 s.p.pk.el, .slice s.A s.p.pk.hd.length s.c, .int .i64 s.p.pk.tag, .slice s.B s.p.pk.bd.length s.d] 39)).cell? ⟨b, off + d * 6 + 1, none⟩ = some (.int .i64 s.p.next) ∧ (w5.alloc (.cells #[.int .i64 s.p.kind, .int .i64 s.p.next, .int .i64 s.p.pk.el, .slice s.A s.p.pk.hd.length s.c, .int .i64 s.p.pk.tag, .slice s.B s.p.pk.bd.length s.d] 39)).cell? ⟨b, off + d * 6 + 2, none⟩ = some (.int .i64 s.p.pk.el) ∧ (w5.alloc (.cells #[.int .i64 s.p.kind, .int .i64 s.p.next, .int .i64 s.p.pk.el, .slice s.A s.p.pk.hd.length s.c, .int .i64 s.p.pk.tag, .slice s.B s.p.pk.bd.length s.d] 39)).cell? ⟨b, off + d * 6 + 3, none⟩ = some (.slice s.A s.p.pk.hd.length s.c) ∧ (w5.alloc (.cells #[.int .i64 s.p.kind, .int .i64 s.p.next, .int .i64 s.p.pk.el, .slice s.A s.p.pk.hd.length s.c, .int .i64 s.p.pk.tag, .slice s.B s.p.pk.bd.length s.d] 39)).cell? ⟨b, off + d * 6 + 4, none⟩ = some (.int .i64 s.p.pk.tag) ∧ (w5.alloc (.cells #[.int .i64 s.p.kind, .int .i64 s.p.next, .int .i64 s.p.pk.el, .slice s.A s.p.pk.hd.length s.c, .int .i64 s.p.pk.tag, .slice s.B s.p.pk.bd.length s.d] 39)).cell? ⟨b, off + d * 6 + 5, none⟩ = some (.slice s.B s.p.pk.bd.length s.d)) := ⟨(hb5a.cell (p := ⟨b, off + d * 6, none⟩) hbl).trans c0, (hb5a.cell (p := ⟨b, off + d * 6 + 1, none⟩) hbl).trans c1, (hb5a.cell (p := ⟨b, off + d * 6 + 2, none⟩) hbl).trans c2, (hb5a.cell (p := ⟨b, off + d * 6 + 3, none⟩) hbl).trans c3, (hb5a.cell (p := ⟨b, off + d * 6 + 4, none⟩) hbl).trans c4, (hb5a.cell (p := ⟨b, off + d * 6 + 5, none⟩) hbl).trans c5⟩; have hd5a := dest_keep hd5 (w' := w5.alloc (.cells #[.int .i64 s.p.kind, .int .i64 s.p.next, .int .i64 s.p.pk.el, .slice s.A s.p.pk.hd.length s.c, .int .i64 s.p.pk.tag, .slice s.B s.p.pk.bd.length s.d] 39)) (fun q e => Below.heap_alloc _ _ _ (dest_lt hd5 q e)); have hrl : Row w5.heap.size (w5.heap.size + 1) (w5.alloc (.cells #[.int .i64 s.p.kind, .int .i64 s.p.next, .int .i64 s.p.pk.el, .slice s.A s.p.pk.hd.length s.c, .int .i64 s.p.pk.tag, .slice s.B s.p.pk.bd.length s.d] 39)) (some ⟨w5.heap.size, 0, none⟩) 1 1 6 s.cells := row_lit w5 _ s.cells rfl)
              | ((with_reducible refine step_appD elPld _ _ _ _ _ HD2.out _ _ _ _ _ _ HR2.out (flat_one _) hl1 (.tmp 31) (.tmp 34) rfl rfl (by go_simp) (by go_simp) ?_); intro g5 v5 w5 hd5 hg5 hgr5; rw [List.nil_append, Nat.zero_add] at hd5; have hb5 : Below w1.heap.size w1 w5 := HAL2.out.grown hgr5 (by have := hs2; omega) (fun q hq => by simp at hq; omega); have hq5 : ∀ q, g5 = some q → w1.heap.size ≤ q := ge_of hg5 (fun q e => by simp at e; omega) (by have := hs2; omega); have kB : (w5.cell? ⟨b, off + d * 6, none⟩ = some (.int .i64 s.p.kind) ∧ w5.cell? ⟨b, off + d * 6 + 1, none⟩ = some (.int .i64 s.p.next) ∧ w5.cell? ⟨b, off + d * 6 + 2, none⟩ = some (.int .i64 s.p.pk.el) ∧ w5.cell? ⟨b, off + d * 6 + 3, none⟩ = some (.slice s.A s.p.pk.hd.length s.c) ∧ w5.cell? ⟨b, off + d * 6 + 4, none⟩ = some (.int .i64 s.p.pk.tag) ∧ w5.cell? ⟨b, off + d * 6 + 5, none⟩ = some (.slice s.B s.p.pk.bd.length s.d)) := ⟨(hb5.cell (p := ⟨b, off + d * 6, none⟩) hbl).trans c0, (hb5.cell (p := ⟨b, off + d * 6 + 1, none⟩) hbl).trans c1, (hb5.cell (p := ⟨b, off + d * 6 + 2, none⟩) hbl).trans c2, (hb5.cell (p := ⟨b, off + d * 6 + 3, none⟩) hbl).trans c3, (hb5.cell (p := ⟨b, off + d * 6 + 4, none⟩) hbl).trans c4, (hb5.cell (p := ⟨b, off + d * 6 + 5, none⟩) hbl).trans c5⟩; have hrl5 := HRL.out.keep hgr5.size (fun y q1 q2 q3 => hgr5.block y q3 (by simp; omega)))
              | ((with_reducible refine step_appD elPld _ _ _ _ _ HD3.out _ _ _ _ _ _ HR3.out (flat_one _) hl1 (.tmp 31) (.tmp 34) rfl rfl (by go_simp) (by go_simp) ?_); intro g5 v5 w5 hd5 hg5 hgr5; rw [List.nil_append, Nat.zero_add] at hd5; have hb5 : Below w1.heap.size w1 w5 := HAL3.out.grown hgr5 (by have := hs3; omega) (fun q hq => by simp at hq; omega); have hq5 : ∀ q, g5 = some q → w1.heap.size ≤ q := ge_of hg5 (fun q e => by simp at e; omega) (by have := hs3; omega); have kB : (w5.cell? ⟨b, off + d * 6, none⟩ = some (.int .i64 s.p.kind) ∧ w5.cell? ⟨b, off + d * 6 + 1, none⟩ = some (.int .i64 s.p.next) ∧ w5.cell? ⟨b, off + d * 6 + 2, none⟩ = some (.int .i64 s.p.pk.el) ∧ w5.cell? ⟨b, off + d * 6 + 3, none⟩ = some (.slice s.A s.p.pk.hd.length s.c) ∧ w5.cell? ⟨b, off + d * 6 + 4, none⟩ = some (.int .i64 s.p.pk.tag) ∧ w5.cell? ⟨b, off + d * 6 + 5, none⟩ = some (.slice s.B s.p.pk.bd.length s.d)) := ⟨(hb5.cell (p := ⟨b, off + d * 6, none⟩) hbl).trans c0, (hb5.cell (p := ⟨b, off + d * 6 + 1, none⟩) hbl).trans c1, (hb5.cell (p := ⟨b, off + d * 6 + 2, none⟩) hbl).trans c2, (hb5.cell (p := ⟨b, off + d * 6 + 3, none⟩) hbl).trans c3, (hb5.cell (p := ⟨b, off + d * 6 + 4, none⟩) hbl).trans c4, (hb5.cell (p := ⟨b, off + d * 6 + 5, none⟩) hbl).trans c5⟩; have hrl5 := HRL3.out.keep hgr5.size (fun y q1 q2 q3 => hgr5.block y q3 (by simp; omega)))
              | ((with_reducible refine step_appD elPld _ _ _ _ _ hd5a _ _ _ _ _ _ hrl (cells_one s) hl2 (.tmp 35) (.tmp 40) rfl rfl (by go_simp) (by go_simp) ?_); intro g6 v6 w6 hd6 hg6 hgr6; have hb6 : Below w1.heap.size w1 w6 := hb5a.grown hgr6 (by have := hb5.size; simp; omega) hq5; have hq6 : ∀ q, g6 = some q → w1.heap.size ≤ q := ge_of hg6 hq5 (by have := hb5.size; simp; omega); have kD : (w6.cell? ⟨b, off + d * 6, none⟩ = some (.int .i64 s.p.kind) ∧ w6.cell? ⟨b, off + d * 6 + 1, none⟩ = some (.int .i64 s.p.next) ∧ w6.cell? ⟨b, off + d * 6 + 2, none⟩ = some (.int .i64 s.p.pk.el) ∧ w6.cell? ⟨b, off + d * 6 + 3, none⟩ = some (.slice s.A s.p.pk.hd.length s.c) ∧ w6.cell? ⟨b, off + d * 6 + 4, none⟩ = some (.int .i64 s.p.pk.tag) ∧ w6.cell? ⟨b, off + d * 6 + 5, none⟩ = some (.slice s.B s.p.pk.bd.length s.d)) := ⟨(hb6.cell (p := ⟨b, off + d * 6, none⟩) hbl).trans c0, (hb6.cell (p := ⟨b, off + d * 6 + 1, none⟩) hbl).trans c1, (hb6.cell (p := ⟨b, off + d * 6 + 2, none⟩) hbl).trans c2, (hb6.cell (p := ⟨b, off + d * 6 + 3, none⟩) hbl).trans c3, (hb6.cell (p := ⟨b, off + d * 6 + 4, none⟩) hbl).trans c4, (hb6.cell (p := ⟨b, off + d * 6 + 5, none⟩) hbl).trans c5⟩; have hr3 : Row 0 0 w6 (some ⟨g, 0, none⟩) 0 (0) 6 [] := Row.nil_ hmx)
              | ((with_reducible refine step_appD elPld _ _ _ _ _ hd5 _ _ _ _ _ _ hrl5 (cells_one s) hl2 (.tmp 35) (.tmp 40) rfl rfl (by go_simp) (by go_simp) ?_); intro g6 v6 w6 hd6 hg6 hgr6; have hb6 : Below w1.heap.size w1 w6 := hb5.grown hgr6 hb5.size hq5; have hq6 : ∀ q, g6 = some q → w1.heap.size ≤ q := ge_of hg6 hq5 hb5.size; have kD : (w6.cell? ⟨b, off + d * 6, none⟩ = some (.int .i64 s.p.kind) ∧ w6.cell? ⟨b, off + d * 6 + 1, none⟩ = some (.int .i64 s.p.next) ∧ w6.cell? ⟨b, off + d * 6 + 2, none⟩ = some (.int .i64 s.p.pk.el) ∧ w6.cell? ⟨b, off + d * 6 + 3, none⟩ = some (.slice s.A s.p.pk.hd.length s.c) ∧ w6.cell? ⟨b, off + d * 6 + 4, none⟩ = some (.int .i64 s.p.pk.tag) ∧ w6.cell? ⟨b, off + d * 6 + 5, none⟩ = some (.slice s.B s.p.pk.bd.length s.d)) := ⟨(hb6.cell (p := ⟨b, off + d * 6, none⟩) hbl).trans c0, (hb6.cell (p := ⟨b, off + d * 6 + 1, none⟩) hbl).trans c1, (hb6.cell (p := ⟨b, off + d * 6 + 2, none⟩) hbl).trans c2, (hb6.cell (p := ⟨b, off + d * 6 + 3, none⟩) hbl).trans c3, (hb6.cell (p := ⟨b, off + d * 6 + 4, none⟩) hbl).trans c4, (hb6.cell (p := ⟨b, off + d * 6 + 5, none⟩) hbl).trans c5⟩; have hr3 : Row 0 0 w6 (some ⟨g, 0, none⟩) 0 (0) 6 [] := Row.nil_ hmx)
              | ((with_reducible refine step_appD elPld _ _ _ _ _ hd6 _ _ _ _ _ _ hr3 (fun u hu => by simp at hu) hl3 (.tmp 41) (.tmp 44) rfl rfl (by go_simp) (by go_simp) ?_); intro g7 v7 w7 hd7 hg7 hgr7; have hb7 : Below w1.heap.size w1 w7 := hb6.grown hgr7 hb6.size hq6; have hq7 : ∀ q, g7 = some q → w1.heap.size ≤ q := ge_of hg7 hq6 hb6.size; have kE : (w7.cell? ⟨b, off + d * 6, none⟩ = some (.int .i64 s.p.kind) ∧ w7.cell? ⟨b, off + d * 6 + 1, none⟩ = some (.int .i64 s.p.next) ∧ w7.cell? ⟨b, off + d * 6 + 2, none⟩ = some (.int .i64 s.p.pk.el) ∧ w7.cell? ⟨b, off + d * 6 + 3, none⟩ = some (.slice s.A s.p.pk.hd.length s.c) ∧ w7.cell? ⟨b, off + d * 6 + 4, none⟩ = some (.int .i64 s.p.pk.tag) ∧ w7.cell? ⟨b, off + d * 6 + 5, none⟩ = some (.slice s.B s.p.pk.bd.length s.d)) := ⟨(hb7.cell (p := ⟨b, off + d * 6, none⟩) hbl).trans c0, (hb7.cell (p := ⟨b, off + d * 6 + 1, none⟩) hbl).trans c1, (hb7.cell (p := ⟨b, off + d * 6 + 2, none⟩) hbl).trans c2, (hb7.cell (p := ⟨b, off + d * 6 + 3, none⟩) hbl).trans c3, (hb7.cell (p := ⟨b, off + d * 6 + 4, none⟩) hbl).trans c4, (hb7.cell (p := ⟨b, off + d * 6 + 5, none⟩) hbl).trans c5⟩))
            all_goals
              have hfin := sort_fin (k := d) HS2.out hb7 hd7 hq7 (by omega) (by rw [List.flatMap_append, List.flatMap_cons, List.drop_of_length_le (by rw [row_len HS2.out.2.2.1]; exact Nat.le_refl _), List.flatMap_nil, List.append_nil, List.append_nil]) hsx (by
                have e1 : s.p = pldAt ps d := by
                  unfold pldAt
                  rw [← HMAP.out, List.getD_eq_getElem?_getD, List.getElem?_map, hsx]
                  rfl
                rw [e1]; exact HCUT.out)
              obtain ⟨g9, d9, os9, rfl, hfin⟩ := hfin
              have HFIN := Lib.hid hfin
              clear hfin
              go_wp2
              go_roundw
              case rel => exact ⟨d + 1, d9, g9, os9, by omega, by go_num, by go_num, HFIN.out⟩
              case measure => simp [intOf]; omega
    · obtain rfl : j = n := by omega
      have hps : ss.map (·.p) = ps := HMAP.out
      obtain ⟨r1, r2, r3, r4, r5, _, r7, r8⟩ := hR.out
      rw [List.take_of_length_le (by rw [List.length_map, HSL.out]; exact Nat.le_refl _), hps] at r5
      have hpool : Pool 0 wr.heap.size wr (some ⟨g, 0, none⟩) j d (sortP ps) := ⟨os, r5, r3.mono (Nat.zero_le _) (Nat.le_refl _), fun s hs => ⟨(r2 s (r4 s hs)).1.mono (Nat.le_refl _) r8, (r2 s (r4 s hs)).2.mono (Nat.le_refl _) r8⟩⟩
      have HPO := Lib.hid hpool
      have HHS : Hid (∀ p ∈ sortP ps, p.pk.hd.length ≤ 1000 ∧ p.pk.bd.length ≤ 1000) := fun p hp => by
        rw [← r5] at hp
        obtain ⟨s, hs, rfl⟩ := List.mem_map.1 hp
        exact HH.out _ (by rw [← hps]; exact List.mem_map_of_mem (r4 s hs))
      have HB7 := Lib.hid r7
      clear hpool hR r1 r2 r3 r4 r5 r7 hlj hps
      go_wp2_with fail
      ((with_reducible refine (l11Pool _ _ _ _ _ (sortP ps) _ HPO.out hn HHS.out).mono ?_); rintro e w2 ⟨A9, c9, rfl, hg9, hb9⟩)
      have HP : Hid (PoolP (sortP ps) w (.returned (.slice A9 (sortP ps).length c9)) w2) := ⟨A9, c9, rfl, hg9.lower r8, HB7.out.trans (hb9.mono r8)⟩
      clear hg9 hb9
      go_wp2
      go_ret
      exact HP.out

end Sp6
end Go.Proofs.Ytnjcpbkpcmemeac

/-
  The contract of the model's MixFlush.
-/
namespace Go.Proofs.Ytnjcpbkpcmemeac
open Go.RowKit
namespace Sp6
open Il Gm Mm Tm Lm Pm Pq Hlp5 Sl Mm6 Sp2

/-- A mix and a list of packets are returned, in new memory. -/
def FlushB (x : Mx) (l : List Pld) (w : World) (e : Ending) (w' : World) : Prop :=
  ∃ A c B d C q, e = .returned (.tuple #[.agg #[.int .i64 x.sec, .slice A x.seen.length c, .slice B x.pool.length d], .slice C l.length q]) ∧ MixR w.heap.size w'.heap.size w' A x.seen.length c B x.pool.length d x ∧ Pool w.heap.size w'.heap.size w' C l.length q l ∧ Below w.heap.size w w'
/-- .. the mix is the caller's own, and its keys can be appended to. -/
def FlushS (x : Mx) (l : List Pld) (w : World) (e : Ending) (w' : World) : Prop :=
  ∃ A c B d C q, e = .returned (.tuple #[.agg #[.int .i64 x.sec, .slice A x.seen.length c, .slice B x.pool.length d], .slice C l.length q]) ∧ MixD w.heap.size w' A c B d x ∧ Pool w.heap.size w'.heap.size w' C l.length q l ∧ Below w.heap.size w w'
theorem FlushS.b {x : Mx} {l : List Pld} {w : World} {e : Ending} {w' : World} (h : FlushS x l w e w') : FlushB x l w e w' := by
  obtain ⟨A, c, B, d, C, q, rfl, h1, h2, h3⟩ := h
  exact ⟨A, c, B, d, C, q, rfl, h1.mix, h2, h3⟩
theorem flush_no {x : Mx} {all : Bool} (h : mixOk x = false) : flushM x all = Mx.zero ∧ flushL x all = [] := by
  unfold flushM flushL
  rw [h]; exact ⟨rfl, rfl⟩
theorem flush_few {x : Mx} {all : Bool} (h : mixOk x = true) (h2 : x.pool.length < 2) (h3 : all = false) : flushM x all = x ∧ flushL x all = [] := by
  unfold flushM flushL
  rw [h, decide_eq_true h2, h3]; exact ⟨rfl, rfl⟩
theorem flush_yes {x : Mx} {all : Bool} (h : mixOk x = true) (h2 : ¬ x.pool.length < 2 ∨ all = true) : flushM x all = ⟨x.sec, x.seen, []⟩ ∧ flushL x all = sortP x.pool := by
  unfold flushM flushL
  have : (decide (x.pool.length < 2) && !all) = false := by
    rcases h2 with h2 | h2
    · rw [decide_eq_false h2]; rfl
    · rw [h2]; simp
  rw [h, this]; exact ⟨rfl, rfl⟩

set_option maxRecDepth 20000 in
set_option maxHeartbeats 2000000 in
theorem MixFlushS (x : Mx) (all : Bool) (A B : Option Addr) (c d lo hi : Nat) (w : World) (hx : MixR lo hi w A x.seen.length c B x.pool.length d x) :
    Calls Try.prog 11 #[.agg #[.int .i64 x.sec, .slice A x.seen.length c, .slice B x.pool.length d], .bool all] w (FlushS (flushM x all) (flushL x all) w) := by
  obtain ⟨zb0, zb1, hs2, hb2⟩ := two_blocks w #[.int .i64 x.sec, .slice A x.seen.length c, .slice B x.pool.length d] #[.int .i64 0, .slice none 0 0, .slice none 0 0] 26 26
  have HX := Lib.hid ((hx.top (lo2 := 0) (Nat.zero_le _)).below hb2 (Nat.le_refl _))
  have Z0 := Lib.hid zb0
  have Z2 := Lib.hid zb1
  have HB := Lib.hid hb2
  have hsz : w.heap.size + 1 < ((w.alloc (.cells #[.int .i64 x.sec, .slice A x.seen.length c, .slice B x.pool.length d] 26)).alloc (.cells #[.int .i64 0, .slice none 0 0, .slice none 0 0] 26)).heap.size := by rw [hs2]; omega
  clear hx zb0 zb1 hs2 hb2
  go_enter Try.func11, Try.ntmps11
  go_wp2_with fail
  generalize ((w.alloc (.cells #[.int .i64 x.sec, .slice A x.seen.length c, .slice B x.pool.length d] 26)).alloc (.cells #[.int .i64 0, .slice none 0 0, .slice none 0 0] 26)) = w2 at *
  ((with_reducible refine (MixValid x _ _ _ _ _ _ _ _ _ HX.out).mono ?_); rintro e w3 ⟨rfl, hb3⟩)
  have hs3 := hb3.size
  replace HX := Lib.hid (HX.out.below hb3 (Nat.le_refl _))
  replace Z0 := Lib.hid (Z0.out.below hb3 (Nat.le_refl _))
  replace Z2 := Lib.hid (Z2.out.below hb3 (Nat.le_refl _))
  replace HB := Lib.hid (HB.out.trans (hb3.mono HB.out.size))
  clear hb3
  cases hok : mixOk x
  · have HM := Lib.hid (flush_no (all := all) hok)
    clear hok
    have hal : Below w3.heap.size w3 (w3.alloc (.cells #[] 39)) := (Below.refl _ _).alloc (Nat.le_refl _) _
    obtain ⟨r0, r1, r2, rf⟩ := three_cells (Z2.out.below hal (Nat.le_refl _))
    have HBA := Lib.hid (HB.out.trans (hal.mono HB.out.size))
    clear hal
    go_upto_region 2 with (fail)
    go_wp2
    refine bodyPost_ret (v := .tuple #[.agg #[.int .i64 0, .slice none 0 0, .slice none 0 0], .slice (some ⟨w3.heap.size, 0, none⟩) 0 0]) ?_ rfl ?_
    · rw [results_cell_tmp rfl]
      go_simp
    · rw [HM.out.1, HM.out.2]
      exact ⟨none, 0, none, 0, _, 0, rfl, mixD_empty rfl (Nat.zero_le _), Pool.nil_ (Nat.zero_le _), by
        repeat first | exact HB.out | exact HBA.out | (refine Below.setCell ?_ (show w.heap.size ≤ w.heap.size + 1 by omega) _) | (refine Below.alloc ?_ (by have := HB.out.size; simp [World.setCell]; omega) _)⟩
  have HOK := Lib.hid hok
  clear hok
  obtain ⟨q1, q2, q3⟩ := mix_sizes HOK.out
  have HH : Hid (∀ p ∈ x.pool, p.pk.hd.length ≤ 1000 ∧ p.pk.bd.length ≤ 1000) := fun p hp => by have := q3 p hp; omega
  clear q3
  obtain ⟨a0, a1, a2, af⟩ := three_cells Z0.out
  go_wp2_with fail
  ((with_reducible refine (l11Copy x _ _ _ _ _ _ _ _ _ HX.out (by omega) (by omega) HH.out).mono ?_); rintro e w4 ⟨A3, c3, B3, d3, mid, rfl, hmg, hb4⟩)
  have hs4 := hb4.size
  replace HX := Lib.hid (HX.out.below hb4 (Nat.le_refl _))
  replace Z0 := Lib.hid (Z0.out.below hb4 (Nat.le_refl _))
  replace Z2 := Lib.hid (Z2.out.below hb4 (Nat.le_refl _))
  replace HB := Lib.hid (HB.out.trans (hb4.mono HB.out.size))
  have HMG := Lib.hid hmg
  clear hb4 hmg a0 a1 a2 af
  have hal : Below w4.heap.size w4 (w4.alloc (.cells #[.int .i64 x.sec, .slice A3 x.seen.length c3, .slice B3 x.pool.length d3] 26)) := (Below.refl _ _).alloc (Nat.le_refl _) _
  have Z6 : Hid (Blk (w4.alloc (.cells #[.int .i64 x.sec, .slice A3 x.seen.length c3, .slice B3 x.pool.length d3] 26)) w4.heap.size #[.int .i64 x.sec, .slice A3 x.seen.length c3, .slice B3 x.pool.length d3] 26) := heap_alloc_new _ _
  replace HX := Lib.hid (HX.out.below hal (Nat.le_refl _))
  replace Z0 := Lib.hid (Z0.out.below hal (Nat.le_refl _))
  replace Z2 := Lib.hid (Z2.out.below hal (Nat.le_refl _))
  replace HB := Lib.hid (HB.out.trans (hal.mono HB.out.size))
  replace HMG := Lib.hid (HMG.out.below hal (Nat.le_refl _))
  have hs5 : w4.heap.size < (w4.alloc (.cells #[.int .i64 x.sec, .slice A3 x.seen.length c3, .slice B3 x.pool.length d3] 26)).heap.size := by simp
  clear hal
  go_upto_region 4 with (fail)
  generalize (w4.alloc (.cells #[.int .i64 x.sec, .slice A3 x.seen.length c3, .slice B3 x.pool.length d3] 26)) = w5 at *
  have hal : Below w5.heap.size w5 (w5.alloc (.cells #[] 39)) := (Below.refl _ _).alloc (Nat.le_refl _) _
  have HMGA := Lib.hid (HMG.out.below hal (Nat.le_refl _))
  have HXA := Lib.hid (HX.out.below hal (Nat.le_refl _))
  have Z0A := Lib.hid (Z0.out.below hal (Nat.le_refl _))
  have Z2A := Lib.hid (Z2.out.below hal (Nat.le_refl _))
  have Z6A := Lib.hid (Z6.out.below hal (Nat.le_refl _))
  have HBA := Lib.hid (HB.out.trans (hal.mono HB.out.size))
  have hs6 : w5.heap.size < (w5.alloc (.cells #[] 39)).heap.size := by simp
  clear hal
  obtain ⟨a0, a1, a2, af⟩ := three_cells Z0.out
  obtain ⟨u0, u1, u2, uf⟩ := three_cells Z6.out
  by_cases hfew : x.pool.length < 2 ∧ all = false
  · obtain ⟨h2, h3⟩ := hfew
    have HM := Lib.hid (flush_few HOK.out h2 h3)
    have e2 : decide ((x.pool.length : Int) < 2) = true := by simp; omega
    subst h3
    obtain ⟨r0, r1, r2, rf⟩ := three_cells Z2A.out
    obtain ⟨y0, y1, y2, yf⟩ := three_cells Z6A.out
    go_wp2
    refine bodyPost_ret (v := .tuple #[.agg #[.int .i64 x.sec, .slice A3 x.seen.length c3, .slice B3 x.pool.length d3], .slice (some ⟨w5.heap.size, 0, none⟩) 0 0]) ?_ rfl ?_
    · rw [results_cell_tmp rfl]
      go_simp
    · rw [HM.out.1, HM.out.2]
      obtain ⟨A9, c9, B9, d9, e9, h9, h8⟩ := mixS_fin HMGA.out (b := w.heap.size + 1) (w := w) (by omega) (by omega) (by omega) (by omega) HBA.out (.bool true) (.int .i64 x.sec) (.slice A3 x.seen.length c3) (.slice B3 x.pool.length d3)
      simp only [Ending.returned.injEq, Value.tuple.injEq, Array.mk.injEq, List.cons.injEq, Value.agg.injEq, Value.slice.injEq, true_and, and_true] at e9
      obtain ⟨⟨rfl, rfl⟩, rfl, rfl⟩ := e9
      exact ⟨A3, c3, B3, d3, _, 0, rfl, h9, Pool.nil_ (Nat.zero_le _), h8⟩
  · have HM := Lib.hid (flush_yes (all := all) HOK.out (by
      by_cases h2 : x.pool.length < 2
      · right
        cases all
        · exact absurd ⟨h2, rfl⟩ hfew
        · rfl
      · exact .inl h2))
    have hk : ∀ y, y < w5.heap.size → y ≠ w4.heap.size → ((w5.setCell ⟨w4.heap.size, 2, none⟩ (.slice (some ⟨w5.heap.size, 0, none⟩) 0 0)).alloc (.cells #[] 39)).heap[y]? = w5.heap[y]? := fun y q1 q2 =>
      (Below.heap_alloc _ _ _ (by simpa [World.setCell] using q1)).trans (Below.heap_setCell _ _ _ _ q2)
    have hs7 : ((w5.setCell ⟨w4.heap.size, 2, none⟩ (.slice (some ⟨w5.heap.size, 0, none⟩) 0 0)).alloc (.cells #[] 39)).heap.size = w5.heap.size + 1 := by simp [World.setCell]
    obtain ⟨g8, hd8, hg8⟩ := HMG.out.1
    have hdl8 := dest_lt hd8
    have hmid := HMG.out.2.2.2
    have SEEN := Lib.hid (dest_keep hd8 (w' := ((w5.setCell ⟨w4.heap.size, 2, none⟩ (.slice (some ⟨w5.heap.size, 0, none⟩) 0 0)).alloc (.cells #[] 39))) (fun y e => hk y (hdl8 y e) (by have := hg8 y e; omega)))
    have HG8 := Lib.hid hg8
    have HX7 : Hid (Pool 0 w.heap.size ((w5.setCell ⟨w4.heap.size, 2, none⟩ (.slice (some ⟨w5.heap.size, 0, none⟩) 0 0)).alloc (.cells #[] 39)) B x.pool.length d x.pool) := HX.out.2.keep (by omega) (fun y q1 q2 q3 => hk y q3 (by omega))
    have Z67 : Hid (Blk ((w5.setCell ⟨w4.heap.size, 2, none⟩ (.slice (some ⟨w5.heap.size, 0, none⟩) 0 0)).alloc (.cells #[] 39)) w4.heap.size #[.int .i64 x.sec, .slice A3 x.seen.length c3, .slice (some ⟨w5.heap.size, 0, none⟩) 0 0] 26) := (Below.heap_alloc _ _ _ (by simpa [World.setCell] using hs5)).trans (blk3_set2 Z6.out)
    have Z07 : Hid (Blk ((w5.setCell ⟨w4.heap.size, 2, none⟩ (.slice (some ⟨w5.heap.size, 0, none⟩) 0 0)).alloc (.cells #[] 39)) w.heap.size _ _) := (hk _ (by omega) (by omega)).trans Z0.out
    have Z27 : Hid (Blk ((w5.setCell ⟨w4.heap.size, 2, none⟩ (.slice (some ⟨w5.heap.size, 0, none⟩) 0 0)).alloc (.cells #[] 39)) (w.heap.size + 1) _ _) := (hk _ (by omega) (by omega)).trans Z2.out
    have HB7 : Hid (Below w.heap.size w ((w5.setCell ⟨w4.heap.size, 2, none⟩ (.slice (some ⟨w5.heap.size, 0, none⟩) 0 0)).alloc (.cells #[] 39))) := (HB.out.setCell (show w.heap.size ≤ w4.heap.size by omega) _).alloc (by have := HB.out.size; simp [World.setCell]; omega) _
    have hs7' : w5.heap.size < ((w5.setCell ⟨w4.heap.size, 2, none⟩ (.slice (some ⟨w5.heap.size, 0, none⟩) 0 0)).alloc (.cells #[] 39)).heap.size := by omega
    have HNE : Hid (w4.heap.size ≠ w.heap.size + 1) := by show _ ≠ _; omega
    have HNE2 : Hid (w.heap.size ≠ w.heap.size + 1) := by show _ ≠ _; omega
    clear hk hs7 hd8 hg8 hdl8
    by_cases h2 : x.pool.length < 2
    case' pos =>
      have hall : all = true := by
        cases all
        · exact absurd ⟨h2, rfl⟩ hfew
        · rfl
      subst hall
      have e2 : decide ((x.pool.length : Int) < 2) = true := by simp; omega
    case' neg =>
      have e2 : decide ((x.pool.length : Int) < 2) = false := by simp; omega
    all_goals
      clear hfew
      go_upto_region 7 with (fail)
      clear a0 a1 a2 af u0 u1 u2 uf
      generalize ((w5.setCell ⟨w4.heap.size, 2, none⟩ (.slice (some ⟨w5.heap.size, 0, none⟩) 0 0)).alloc (.cells #[] 39)) = w6 at *
      have SA : Hid (w6.drew.cell? ⟨w4.heap.size, 0, none⟩ = some (.int .i64 x.sec) ∧ w6.drew.cell? ⟨w4.heap.size, 1, none⟩ = some (.slice A3 x.seen.length c3) ∧ w6.drew.cell? ⟨w4.heap.size, 2, none⟩ = some (.slice (some ⟨w5.heap.size, 0, none⟩) 0 0) ∧ w6.drew.cell? ⟨w.heap.size, 2, none⟩ = some (.slice B x.pool.length d)) := ⟨(three_cells Z67.out).1, (three_cells Z67.out).2.1, (three_cells Z67.out).2.2.1, (three_cells Z07.out).2.2.1⟩
      have PO : Hid (Pool 0 w.heap.size w6.drew B x.pool.length d x.pool) := HX7.out
      go_region_held3 (fun w' => w'.cell? ⟨w4.heap.size, 0, none⟩ = some (.int .i64 x.sec) ∧ w'.cell? ⟨w4.heap.size, 1, none⟩ = some (.slice A3 x.seen.length c3) ∧ w'.cell? ⟨w4.heap.size, 2, none⟩ = some (.slice (some ⟨w5.heap.size, 0, none⟩) 0 0) ∧ w'.cell? ⟨w.heap.size, 2, none⟩ = some (.slice B x.pool.length d))
        (first | with_reducible exact SA.out | with_reducible exact kB | with_reducible exact ⟨(far3 HNE.out _ _ _).trans kB.1, (far3 HNE.out _ _ _).trans kB.2.1, (far3 HNE.out _ _ _).trans kB.2.2.1, (far3 HNE2.out _ _ _).trans kB.2.2.2⟩ | fail)
        ((go_at_call 41; refine (l11Sort _ _ _ _ _ x.pool _ PO.out (by omega) HH.out).mono ?_; rintro e w7 ⟨A9, c9, rfl, hg9, hb90⟩; have hb9 : Below w6.heap.size w6 w7 := below_drew hb90; have z6 := Z67.out.below hb9 (Nat.le_refl _); have z0 := Z07.out.below hb9 (Nat.le_refl _); have kB : (w7.cell? ⟨w4.heap.size, 0, none⟩ = some (.int .i64 x.sec) ∧ w7.cell? ⟨w4.heap.size, 1, none⟩ = some (.slice A3 x.seen.length c3) ∧ w7.cell? ⟨w4.heap.size, 2, none⟩ = some (.slice (some ⟨w5.heap.size, 0, none⟩) 0 0) ∧ w7.cell? ⟨w.heap.size, 2, none⟩ = some (.slice B x.pool.length d)) := ⟨(three_cells z6).1, (three_cells z6).2.1, (three_cells z6).2.2.1, (three_cells z0).2.2.1⟩; obtain ⟨r0, r1, r2, rf⟩ := three_cells (Z27.out.below hb9 (Nat.le_refl _))))
      all_goals
        obtain ⟨A8, c8, G8, e8, hpo, hwi⟩ := hg9.own
        simp only [Value.slice.injEq, true_and] at e8
        obtain ⟨rfl, rfl⟩ := e8
        have hs8 : (((w7.setCell ⟨w.heap.size + 1, 0, none⟩ (.int .i64 x.sec)).setCell ⟨w.heap.size + 1, 1, none⟩ (.slice A3 x.seen.length c3)).setCell ⟨w.heap.size + 1, 2, none⟩ (.slice (some ⟨w5.heap.size, 0, none⟩) 0 0)).heap.size = w7.heap.size := by simp [World.setCell]
        have hs9 := hb9.size
        have P9 := Lib.hid ((hpo.pool hwi).keep (w' := (((w7.setCell ⟨w.heap.size + 1, 0, none⟩ (.int .i64 x.sec)).setCell ⟨w.heap.size + 1, 1, none⟩ (.slice A3 x.seen.length c3)).setCell ⟨w.heap.size + 1, 2, none⟩ (.slice (some ⟨w5.heap.size, 0, none⟩) 0 0))) (by omega) (fun y q1 q2 q3 => farb3 (by simp at q1; omega) _ _ _))
        have d7 := dest_keep SEEN.out (w' := w7) (fun y e => hb9.block y (dest_lt SEEN.out y e))
        have S9 : Hid (MixD w.heap.size (((w7.setCell ⟨w.heap.size + 1, 0, none⟩ (.int .i64 x.sec)).setCell ⟨w.heap.size + 1, 1, none⟩ (.slice A3 x.seen.length c3)).setCell ⟨w.heap.size + 1, 2, none⟩ (.slice (some ⟨w5.heap.size, 0, none⟩) 0 0)) A3 c3 (some ⟨w5.heap.size, 0, none⟩) 0 ⟨x.sec, x.seen, []⟩) :=
          ⟨g8, [[]], dest_keep d7 (fun y e => farb3 (by have := HG8.out y e; omega) _ _ _), PoolO.nil_ (Nat.zero_le _), fun f hf z hz => by simp at hf; subst hf; simp at hz, fun y e => ⟨by have := HG8.out y e; omega, fun f hf hm => by simp at hf; subst hf; simp at hm⟩⟩
        clear d7
        have B9 := Lib.hid ((((HB7.out.trans (hb9.mono HB7.out.size)).setCell (p := ⟨w.heap.size + 1, 0, none⟩) (show w.heap.size ≤ w.heap.size + 1 by omega) (.int .i64 x.sec)).setCell (p := ⟨w.heap.size + 1, 1, none⟩) (show w.heap.size ≤ w.heap.size + 1 by omega) (.slice A3 x.seen.length c3)).setCell (p := ⟨w.heap.size + 1, 2, none⟩) (show w.heap.size ≤ w.heap.size + 1 by omega) (.slice (some ⟨w5.heap.size, 0, none⟩) 0 0))
        have HS8 := Lib.hid hs8
        clear hs8 hpo hwi hg9 hb9 hb90 z6 z0 kB
        go_wp2
        refine bodyPost_ret (v := .tuple #[.agg #[.int .i64 x.sec, .slice A3 x.seen.length c3, .slice (some ⟨w5.heap.size, 0, none⟩) 0 0], .slice A9 (sortP x.pool).length c9]) ?_ rfl ?_
        · rw [results_cell_tmp rfl]
          go_simp
        · rw [HM.out.1, HM.out.2]
          have h8 := HS8.out
          exact ⟨A3, c3, _, 0, A9, c9, rfl, S9.out, P9.out.mono (by show w.heap.size ≤ w6.heap.size; omega) (by omega), B9.out⟩
theorem MixFlush (x : Mx) (all : Bool) (A B : Option Addr) (c d lo hi : Nat) (w : World) (hx : MixR lo hi w A x.seen.length c B x.pool.length d x) :
    Calls Try.prog 11 #[.agg #[.int .i64 x.sec, .slice A x.seen.length c, .slice B x.pool.length d], .bool all] w (FlushB (flushM x all) (flushL x all) w) := (MixFlushS x all A B c d lo hi w hx).mono fun _ _ h => h.b

end Sp6
end Go.Proofs.Ytnjcpbkpcmemeac
