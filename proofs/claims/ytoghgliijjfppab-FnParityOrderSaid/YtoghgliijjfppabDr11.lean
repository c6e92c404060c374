/-
  Draws of chapter 23: a long letter, pieces.
-/
import Derived.Test.YtoghgliijjfppabRda
import Derived.Test.YtoghgliijjfppabSp11c
import Derived.Test.YtoghgliijjfppabSp11d
import Derived.Deep.RegionLaw
import Derived.Deep.Cut
namespace Go.Proofs.Ytoghgliijjfppab
open Go.RowKit
namespace Rd
open Il Sl Fo Cm Cs Gm Pc
open Sp11 (NewG)

/-- Pieces are drawn. -/
def PcPost (rb N : Nat) (w : World) (e : Ending) (w' : World) : Prop :=
  ∃ A n c ps, e = .returned (.slice A n c) ∧ n ≤ 6 ∧ Sts w.heap.size w'.heap.size w' A n c ps ∧ Reader w' rb N ∧ w.grownBy w' (some rb)
/-- Pieces while they are spoilt. -/
def PcR (rb N : Nat) (w wr : World) (A : Option Addr) (n c : Nat) (ps : List (List Int)) : Prop :=
  Reader wr rb N ∧ w.grownBy wr (some rb) ∧ ∃ G, StsO wr A n c ps G ∧ Within w.heap.size wr.heap.size G
theorem PcR.drew {rb N : Nat} {w wr : World} {A : Option Addr} {n c : Nat} {ps : List (List Int)} (h : PcR rb N w wr A n c ps) : PcR rb N w wr.drew A n c ps := by
  obtain ⟨h1, h2, G, h3, h4⟩ := h
  exact ⟨h1, ⟨h2.os, h2.tape, h2.output, h2.size, h2.block⟩, G, h3.drewN 1, h4⟩
theorem PcR.grown {rb N N' : Nat} {w wr w' : World} {A : Option Addr} {n c : Nat} {ps : List (List Int)} (h : PcR rb N w wr A n c ps) (hg : wr.grownBy w' (some rb)) (hr : Reader w' rb N') (hlt : rb < w.heap.size) : PcR rb N' w w' A n c ps := by
  obtain ⟨_, h2, G, h3, h4⟩ := h
  exact ⟨hr, grown_trans h2 hg, G, h3.keep hg.size fun f hf x hx => hg.block x (h3.lt_ f hf x hx).2 (by have := h4 f hf x hx; simp; omega), h4.mono (Nat.le_refl _) hg.size⟩
theorem PcR.done {rb N : Nat} {w wr : World} {A : Option Addr} {n c : Nat} {ps : List (List Int)} (h : PcR rb N w wr A n c ps) (hn : n ≤ 6) : PcPost rb N w (.returned (.slice A n c)) wr := by
  obtain ⟨h1, h2, G, h3, h4⟩ := h
  exact ⟨A, n, c, ps, rfl, hn, h3.sts h4, h1, h2⟩
/-- The pieces of a cut. -/
theorem pcR_of {rb N : Nat} {w w1 w2 : World} {v : Value} {ss : List Sk} {ps : List (List Int)} (hr : Reader w1 rb N) (hg : w.grownBy w1 (some rb)) (hlt : rb < w.heap.size) (hk : GatK w1.heap.size w2.heap.size w2 v ss) (hs : ss.map (·.xs) = ps) (hb : Below w1.heap.size w1 w2) : ∃ A c, v = .slice A ps.length c ∧ PcR rb N w w2 A ps.length c ps := by
  obtain ⟨A, c, G, rfl, ho, hw⟩ := hk.own
  have hl : ss.length = ps.length := by rw [← hs, List.length_map]
  rw [hs, hl] at ho
  rw [hl]
  have hg1 := hg.size
  exact ⟨A, c, rfl, hr.below hb (by omega), ⟨hb.os.trans hg.os, hb.tape.trans hg.tape, hb.output.trans hg.output, by have := hb.size; omega, fun i hi hne => (hb.block i (by omega)).trans (hg.block i hi hne)⟩, G, ho, hw.mono hg1 (Nat.le_refl _)⟩
/-- One number of one piece is stored. -/
theorem PcR.poke {rb N : Nat} {w wr : World} {A : Option Addr} {n c k i : Nat} {ps : List (List Int)} (h : PcR rb N w wr A n c ps) (hlt : rb < w.heap.size) (hk : k < n) (hi : i < (slAt ps k).length) :
    ∃ b off b2 off2 e, A = some ⟨b, off, none⟩ ∧ b < wr.heap.size ∧ w.heap.size ≤ b ∧ wr.cell? ⟨b, off + k, none⟩ = some (.slice (some ⟨b2, off2, none⟩) (slAt ps k).length e) ∧ (∃ y, wr.cell? ⟨b2, off2 + i, none⟩ = some (.int .i64 y)) ∧ wr.frozen? ⟨b2, off2 + i, none⟩ = false ∧
      ∀ x, PcR rb N w (wr.setCell ⟨b2, off2 + i, none⟩ (.int .i64 x)) A n c (ps.set k ((slAt ps k).set i x)) := by
  obtain ⟨h1, h2, G, h3, h4⟩ := h
  obtain ⟨b, off, B, e, l, u, rfl, hc, ho, hm⟩ := h3.mark hk
  obtain ⟨b1, off1, H1, e1, q0, q1, q2, q3, _⟩ := (h3.sts h4).at_ hk
  simp only [Option.some.injEq, Addr.mk.injEq, and_true] at q0
  obtain ⟨rfl, rfl⟩ := q0
  obtain ⟨b2, off2, rfl, r1, r2, r3, r4⟩ := ho.1.2.2.2 (by omega)
  refine ⟨b, off, b2, off2, e, rfl, q3, q1, hc, ⟨_, r4 i hi⟩, ho.2 _ _ (by omega) rfl i hi, fun x => ?_⟩
  have hk2 : Kept l u wr (wr.setCell ⟨b2, off2 + i, none⟩ (.int .i64 x)) := (Kept.refl l u wr).set r1 r2 _
  obtain ⟨s1, s2⟩ := hm _ _ (by rw [List.length_set]) (ho.set_ hi x) hk2
  have hsz : (wr.setCell ⟨b2, off2 + i, none⟩ (.int .i64 x)).heap.size = wr.heap.size := by simp [World.setCell]
  have hfar : ∀ y, y < w.heap.size → (wr.setCell ⟨b2, off2 + i, none⟩ (.int .i64 x)).heap[y]? = wr.heap[y]? := fun y hy => s2.block y (by have := h2.size; omega) fun f hf hx => by have := h4 f hf y hx; omega
  exact ⟨h1.keep fun y hy => hfar y (by omega), ⟨h2.os, h2.tape, h2.output, by rw [hsz]; exact h2.size, fun y hy hne => (hfar y hy).trans (h2.block y hy hne)⟩, G, s1, by rw [hsz]; exact h4⟩
theorem PcR.mono {rb N N' : Nat} {w wr : World} {A : Option Addr} {n c : Nat} {ps : List (List Int)} (h : PcR rb N w wr A n c ps) (hN : N ≤ N') : PcR rb N' w wr A n c ps := ⟨h.1.mono hN, h.2⟩
theorem PcR.sts {rb N : Nat} {w wr : World} {A : Option Addr} {n c : Nat} {ps : List (List Int)} (h : PcR rb N w wr A n c ps) : Sts w.heap.size wr.heap.size wr A n c ps := by
  obtain ⟨_, _, G, h3, h4⟩ := h
  exact h3.sts h4
/-- One piece is taken away. -/
theorem PcR.lose {rb N : Nat} {w wr : World} {A : Option Addr} {n c k : Nat} {ps : List (List Int)} (h : PcR rb N w wr A n c ps) (hlt : rb < w.heap.size) (hk : k < n) :
    ∃ b off H e, A = some ⟨b, off, none⟩ ∧ (wr.alloc (.cells #[] 3)).cell? ⟨b, off + k, none⟩ = some (.slice H (slAt ps k).length e) ∧ (wr.alloc (.cells #[] 3)).frozen? ⟨b, off + k, none⟩ = false ∧
      PcR rb N w ((wr.alloc (.cells #[] 3)).setCell ⟨b, off + k, none⟩ (.slice (some ⟨wr.heap.size, 0, none⟩) 0 0)) A n c (ps.set k []) := by
  obtain ⟨h1, h2, G, h3, h4⟩ := h
  obtain ⟨b, off, H, e, rfl, hbz, ⟨f, hf, hbf⟩, hc, hfz, hset⟩ := Ck.setN h3 hk
  have hbw := h4 f hf b hbf
  have hal : Below wr.heap.size wr (wr.alloc (.cells #[] 3)) := (Below.refl _ _).alloc (Nat.le_refl _) _
  have hsz : ((wr.alloc (.cells #[] 3)).setCell ⟨b, off + k, none⟩ (.slice (some ⟨wr.heap.size, 0, none⟩) 0 0)).heap.size = (wr.alloc (.cells #[] 3)).heap.size := by simp [World.setCell]
  have hs2 := hal.size
  obtain ⟨G', hG, hG2⟩ := hset (wr.alloc (.cells #[] 3)) ⟨[], some ⟨wr.heap.size, 0, none⟩, 0, 0⟩ hs2 (fun f hf y hy => hal.block y (h3.lt_ f hf y hy).2) (Own.nil_ (Nat.zero_le _)) (fun y hy => by simp [fpk, fp] at hy)
  have hfar : ∀ y, y < w.heap.size → ((wr.alloc (.cells #[] 3)).setCell ⟨b, off + k, none⟩ (.slice (some ⟨wr.heap.size, 0, none⟩) 0 0)).heap[y]? = wr.heap[y]? := fun y hy => (Below.heap_setCell _ _ _ _ (show y ≠ b by omega)).trans (hal.block y (by have := h2.size; omega))
  have hblk := hal.block b hbz
  refine ⟨b, off, H, e, rfl, (World.cell?_of_block (a := ⟨b, off + k, none⟩) hblk).trans hc, (World.frozen?_of_block (a := ⟨b, off + k, none⟩) hblk).trans hfz, h1.keep fun y hy => hfar y (by omega), ⟨h2.os, h2.tape, h2.output, by rw [hsz]; have := h2.size; omega, fun y hy hne => (hfar y hy).trans (h2.block y hy hne)⟩, G', hG, fun f hf y hy => ?_⟩
  rcases hG2 f hf y hy with ⟨g, hg, hy2⟩ | hy2
  · have := h4 g hg y hy2; omega
  · simp [fpk, fp] at hy2
theorem PcR.rd {rb N : Nat} {w wr : World} {A : Option Addr} {n c : Nat} {ps : List (List Int)} (h : PcR rb N w wr A n c ps) : Reader wr rb N := h.1
theorem PcR.poke3 {rb N : Nat} {w wr : World} {A : Option Addr} {n c k : Nat} {ps : List (List Int)} (h : PcR rb N w wr A n c ps) (hlt : rb < w.heap.size) (hk : k < n) (h3 : (slAt ps k).length = 3) :
    ∃ b off b2 off2 e, A = some ⟨b, off, none⟩ ∧ ∀ w' N', wr.grownBy w' (some rb) → Reader w' rb N' → w'.cell? ⟨b, off + k, none⟩ = some (.slice (some ⟨b2, off2, none⟩) 3 e) ∧
      ∀ i, i < 3 → (∃ y, w'.cell? ⟨b2, off2 + i, none⟩ = some (.int .i64 y)) ∧ w'.frozen? ⟨b2, off2 + i, none⟩ = false ∧ ∀ x, PcR rb N' w (w'.setCell ⟨b2, off2 + i, none⟩ (.int .i64 x)) A n c (ps.set k ((slAt ps k).set i x)) := by
  obtain ⟨b, off, b2, off2, e, rfl, hbz, hbw, hc, _, _, _⟩ := h.poke hlt hk (i := 0) (by omega)
  rw [h3] at hc
  refine ⟨b, off, b2, off2, e, rfl, fun w' N' hg hr => ?_⟩
  have hc2 : w'.cell? ⟨b, off + k, none⟩ = some (.slice (some ⟨b2, off2, none⟩) 3 e) := (World.cell?_of_block (a := ⟨b, off + k, none⟩) (hg.block b hbz (by simp; omega))).trans hc
  refine ⟨hc2, fun i hi => ?_⟩
  obtain ⟨b', off', b2', off2', e', ea, _, _, hc', hy, hf, hs⟩ := (h.grown hg hr hlt).poke hlt hk (i := i) (by omega)
  simp only [Option.some.injEq, Addr.mk.injEq, and_true] at ea
  obtain ⟨rfl, rfl⟩ := ea
  rw [hc2] at hc'
  simp only [Option.some.injEq, Value.slice.injEq, Addr.mk.injEq, and_true] at hc'
  obtain ⟨⟨rfl, rfl⟩, _, _⟩ := hc'
  exact ⟨hy, hf, hs⟩

theorem cut_len3 {xs : List Int} {k : Nat} (hk : k < (cutF xs).length) : (slAt (cutF xs) k).length = 3 := by
  cases h : cutOk xs
  · rw [cutF_no h] at hk; exact absurd hk (by simp)
  · rw [cutF_yes h] at hk ⊢
    unfold slAt cutL
    rw [cutL_len] at hk
    rw [List.getD_eq_getElem?_getD, List.getElem?_map, List.getElem?_range hk]
    rfl
/-- The pieces that are no cut. -/
theorem sts_lit (w : World) : Sts w.heap.size (((w.alloc (.cells #[.int .i64 1, .int .i64 2, .int .i64 3] 3)).alloc (.cells #[.int .i64 4] 3)).alloc (.cells #[.slice (some ⟨w.heap.size, 0, none⟩) 3 3, .slice (some ⟨w.heap.size + 1, 0, none⟩) 1 1] 22)).heap.size
    (((w.alloc (.cells #[.int .i64 1, .int .i64 2, .int .i64 3] 3)).alloc (.cells #[.int .i64 4] 3)).alloc (.cells #[.slice (some ⟨w.heap.size, 0, none⟩) 3 3, .slice (some ⟨w.heap.size + 1, 0, none⟩) 1 1] 22)) (some ⟨w.heap.size + 1 + 1, 0, none⟩) 2 2 [[1, 2, 3], [4]] := by
  obtain ⟨k0, k1, k2, hs, _⟩ := Ck.three_blocks w #[.int .i64 1, .int .i64 2, .int .i64 3] #[.int .i64 4] #[.slice (some ⟨w.heap.size, 0, none⟩) 3 3, .slice (some ⟨w.heap.size + 1, 0, none⟩) 1 1] 3 3 22
  generalize ((w.alloc (.cells #[.int .i64 1, .int .i64 2, .int .i64 3] 3)).alloc (.cells #[.int .i64 4] 3)).alloc (.cells #[.slice (some ⟨w.heap.size, 0, none⟩) 3 3, .slice (some ⟨w.heap.size + 1, 0, none⟩) 1 1] 22) = W at *
  refine ⟨[⟨[1, 2, 3], some ⟨w.heap.size, 0, none⟩, 3, 0⟩, ⟨[4], some ⟨w.heap.size + 1, 0, none⟩, 1, 0⟩], rfl, ⟨rfl, Nat.le_refl _, by unfold maxLen; omega, fun _ => ⟨w.heap.size + 1 + 1, 0, rfl, by omega, by omega, by omega, fun j u hu => ?_⟩⟩, fun s hs => ?_⟩
  · rw [cell_of_row _ _ _ _ _ _ k2, Nat.zero_add]
    have hj := (List.getElem?_eq_some_iff.1 hu).1
    simp at hj
    obtain rfl | rfl : j = 0 ∨ j = 1 := by omega
    all_goals exact hu
  · simp only [List.mem_cons, List.not_mem_nil, or_false] at hs
    rcases hs with rfl | rfl
    · refine ⟨rfl, Nat.le_refl _, by show 3 ≤ maxLen; unfold maxLen; omega, fun _ => ⟨w.heap.size, 0, rfl, Nat.le_refl _, by omega, by omega, fun j hj => ?_⟩⟩
      rw [cell_of_row _ _ _ _ _ _ k0, Nat.zero_add]
      obtain rfl | rfl | rfl : j = 0 ∨ j = 1 ∨ j = 2 := by simp at hj; omega
      all_goals rfl
    · refine ⟨rfl, Nat.le_refl _, by show 1 ≤ maxLen; unfold maxLen; omega, fun _ => ⟨w.heap.size + 1, 0, rfl, by omega, by omega, by omega, fun j hj => ?_⟩⟩
      obtain rfl : j = 0 := by simp at hj; exact hj
      rw [cell_of_row _ _ _ _ _ _ k1]
      rfl
set_option maxRecDepth 20000 in
set_option maxHeartbeats 4000000 in
theorem l92Pieces (rb N : Nat) (w : World) (hr : Reader w rb N) (hN : N ≤ 70000) : Calls Try.prog 49 #[.pointer (some ⟨rb, 0, none⟩)] w (PcPost rb (N + 70) w) := by
  have HR := Lib.hid hr
  have hlt := hr.lt
  clear hr
  go_enter Try.func49, Try.ntmps49
  go_wp2_with fail
  ((with_reducible refine (l91ListAt rb N 14 14 _ rfl HR.out (by omega) (by omega)).mono ?_); rintro e w1 ⟨A1, c1, xs, rfl, hl1, _, ho1, hr1, hg1⟩)
  have HR1 := Lib.hid (hr1.mono (N' := N + 51) (by omega))
  have HG1 := Lib.hid hg1
  have HO1 := Lib.hid ho1.1
  clear hr1 hg1 ho1
  go_wp2_with fail
  ((with_reducible refine (Sp11.PiecesCut _ _ _ _ _ xs _ HO1.out).mono ?_); rintro e w2 ⟨v2, ss, rfl, hgk, hss, hb2⟩)
  obtain ⟨A2, c2, rfl, hpr⟩ := pcR_of HR1.out HG1.out hlt hgk hss hb2
  have HPR := Lib.hid hpr
  have hcl : (cutF xs).length ≤ 5 := cutF_len
  have HC3 : Hid (∀ k, k < (cutF xs).length → (slAt (cutF xs) k).length = 3) := fun k hk => cut_len3 hk
  clear hgk hss hb2 hpr HR1 HG1 HO1 HR
  generalize cutF xs = ps at *
  by_cases h0 : ps.length = 0
  · have hb3 : Below w2.heap.size w2 (((w2.alloc (.cells #[.int .i64 1, .int .i64 2, .int .i64 3] 3)).alloc (.cells #[.int .i64 4] 3)).alloc (.cells #[.slice (some ⟨w2.heap.size, 0, none⟩) 3 3, .slice (some ⟨w2.heap.size + 1, 0, none⟩) 1 1] 22)) := (Ck.three_blocks w2 _ _ _ _ _ _).2.2.2.2
    have HP : Hid (PcPost rb (N + 70) w (.returned (.slice (some ⟨w2.heap.size + 1 + 1, 0, none⟩) 2 2)) (((w2.alloc (.cells #[.int .i64 1, .int .i64 2, .int .i64 3] 3)).alloc (.cells #[.int .i64 4] 3)).alloc (.cells #[.slice (some ⟨w2.heap.size, 0, none⟩) 3 3, .slice (some ⟨w2.heap.size + 1, 0, none⟩) 1 1] 22))) := by
      obtain ⟨h1, h2, _⟩ := HPR.out
      have hg2 := h2.size
      refine ⟨_, 2, 2, _, rfl, by omega, (sts_lit w2).mono hg2 (Nat.le_refl _), (h1.below hb3 (by omega)).mono (by omega), ⟨hb3.os.trans h2.os, hb3.tape.trans h2.tape, hb3.output.trans h2.output, by have := hb3.size; omega, fun i hi hne => (hb3.block i (by omega)).trans (h2.block i hi hne)⟩⟩
    clear hb3 HPR
    have h0' : ((ps.length : Int) == 0) = true := by simp; exact List.eq_nil_of_length_eq_zero h0
    go_wp2
    go_ret
    exact HP.out
  have h0' : ((ps.length : Int) == 0) = false := by simpa using (by omega : ¬ (ps.length : Int) = 0)
  have hp1 : (1 : Int) ≤ (ps.length : Int) := by omega
  have hp2 : (ps.length : Int) ≤ 100000 := by omega
  clear h0
  go_wp2_with fail
  ((with_reducible refine (pick rb (N + 51) (ps.length : Int) _ HPR.out.rd (by omega) hp1 hp2).mono ?_); rintro e w3 ⟨k0, rfl, hk0, hk1, hr3, hg3, -⟩)
  have HPR3 := Lib.hid (HPR.out.grown hg3 hr3 hlt)
  clear HPR hr3 hg3
  obtain ⟨k, rfl⟩ := Int.eq_ofNat_of_zero_le hk0
  have hk : k < ps.length := by omega
  go_wp2_with fail
  ((with_reducible refine (pick rb (N + 51 + 1) 8 _ HPR3.out.rd (by omega) (by decide) (by decide)).mono ?_); rintro e w4 ⟨q, rfl, hq0, hq1, hr4, hg4, -⟩)
  have HPR4 := Lib.hid (HPR3.out.grown hg4 hr4 hlt)
  clear HPR3 hr4 hg4
  by_cases hq : q = 0
  · subst hq
    have HDD := Lib.hid HPR4.out.drew
    have hl3 := HC3.out k hk
    obtain ⟨b, off, b2, off2, e, rfl, hP⟩ := HDD.out.poke3 hlt hk hl3
    have HPK := Lib.hid hP
    have RA : Hid (Reader w4.drew rb (N + 51 + 1 + 1)) := HDD.out.rd
    have hcd := (hP w4.drew _ (World.grownBy.refl _ _) RA.out).1
    have hm1 : N + 51 + 1 + 1 ≤ 100000 := by omega
    have hm2 : N + 51 + 1 + 1 + 1 ≤ 90000 := by omega
    have hkl : (k : Int) < (ps.length : Int) := by omega
    clear hP hl3
    go_upto_region 7 with (fail)
    go_region_law (first
      | (go_simp; go_at_call 57; refine (l91Number rb (N + 51 + 1 + 1 + 1) _ r6 hm2).mono ?_; rintro e w7 ⟨v7, rfl, _, _, r7, g7⟩
         obtain ⟨hc7, hs7⟩ := HPK.out w7 _ (grown_trans g6 g7) r7
         obtain ⟨⟨y7, hy7⟩, hf7, hst7⟩ := hs7 i6 hi6
         have HST := Lib.hid (hst7 v7))
      | (go_simp; go_at_call 56; refine (pick rb (N + 51 + 1 + 1) 3 _ RA.out hm1 (by decide) (by decide)).mono ?_; rintro e w6 ⟨i0, rfl, hi0, hi1, r6, g6, s6⟩
         obtain ⟨i6, rfl⟩ := Int.eq_ofNat_of_zero_le hi0
         have hi6 : i6 < 3 := by omega
         have hc6 := (HPK.out w6 _ g6 r6).1)
      | fail)
    all_goals
      have HP := Lib.hid ((HST.out.mono (N' := N + 70) (by omega)).done (by omega))
      clear HST hc7 hs7 hst7 hy7 hf7 hc6 hcd HPK HDD RA
      go_wp2
      go_ret
      exact HP.out
  have hq' : (q == 0) = false := by simpa using hq
  by_cases hq1 : q = 1
  · subst hq1
    obtain ⟨b, off, H, e, rfl, hc5, hf5, hp5⟩ := HPR4.out.lose hlt hk
    have HP := Lib.hid ((hp5.mono (N' := N + 70) (by omega)).done (by omega))
    have hkl : (k : Int) < (ps.length : Int) := by omega
    clear HPR4 hp5
    go_wp2
    go_ret
    exact HP.out
  have hq1' : (q == 1) = false := by simpa using hq1
  by_cases hq2 : q = 2
  · subst hq2
    have HP : Hid (PcPost rb (N + 70) w (.returned (.slice A2 k c2)) w4) := by
      obtain ⟨h1, h2, _⟩ := HPR4.out
      exact ⟨A2, k, c2, ps.take k, rfl, by omega, HPR4.out.sts.take (by omega), h1.mono (by omega), h2⟩
    have hcp := HPR4.out.sts.cap_
    have hcm := HPR4.out.sts.max_
    unfold maxLen at hcm
    obtain ⟨b, off, _, _, rfl, _⟩ := HPR4.out.sts.at_ (k := k) hk
    clear HPR4
    go_wp2
    go_ret
    exact HP.out
  · have hq2' : (q == 2) = false := by simpa using hq2
    have HP := Lib.hid ((HPR4.out.mono (N' := N + 70) (by omega)).done (by omega))
    clear HPR4
    go_wp2
    go_ret
    exact HP.out

/-- Pieces are drawn from a code. -/
def PiecesP (w : World) (e : Ending) (w' : World) : Prop :=
  ∃ A n c ps, e = .returned (.slice A n c) ∧ n ≤ 6 ∧ Sts w.heap.size w'.heap.size w' A n c ps ∧ Below w.heap.size w w'
theorem DrawPiecesParity (A : Option Addr) (n c : Nat) (w : World) (h : CodeIs w A n c) : Calls Try.prog 27 #[.slice A n c] w (PiecesP w) := by
  go_enter Try.func27, Try.ntmps27
  go_wp2_with fail
  ((with_reducible refine (l6Open A n c w h).mono ?_); rintro e w1 ⟨rfl, hr1, hb1, hs1⟩)
  have HB1 := Lib.hid hb1
  have HR1 := Lib.hid hr1
  clear hb1 hr1
  go_wp2_with fail
  ((with_reducible refine (l92Pieces _ 0 _ HR1.out (by omega)).mono ?_); rintro e w2 ⟨A2, n2, c2, ps, rfl, hn2, hs2, _, hg2⟩)
  have HP : Hid (PiecesP w (.returned (.slice A2 n2 c2)) w2) := by
    have hs := HB1.out.size
    refine ⟨A2, n2, c2, ps, rfl, hn2, hs2.mono hs (Nat.le_refl _), HB1.out.grown hg2 hs fun k e => ?_⟩
    cases e
    exact Nat.le_refl _
  clear hs2 hg2
  go_wp2
  go_ret
  exact HP.out
theorem DrawPiecesJoin (A : Option Addr) (n c : Nat) (w : World) (h : CodeIs w A n c) : Calls Try.prog 29 #[.slice A n c] w (PiecesP w) := by
  go_enter Try.func29, Try.ntmps29
  go_wp2_with fail
  ((with_reducible refine (l6Open A n c w h).mono ?_); rintro e w1 ⟨rfl, hr1, hb1, hs1⟩)
  have HB1 := Lib.hid hb1
  have HR1 := Lib.hid hr1
  clear hb1 hr1
  go_wp2_with fail
  ((with_reducible refine (l92Pieces _ 0 _ HR1.out (by omega)).mono ?_); rintro e w2 ⟨A2, n2, c2, ps, rfl, hn2, hs2, _, hg2⟩)
  have HP : Hid (PiecesP w (.returned (.slice A2 n2 c2)) w2) := by
    have hs := HB1.out.size
    refine ⟨A2, n2, c2, ps, rfl, hn2, hs2.mono hs (Nat.le_refl _), HB1.out.grown hg2 hs fun k e => ?_⟩
    cases e
    exact Nat.le_refl _
  clear hs2 hg2
  go_wp2
  go_ret
  exact HP.out

end Rd
end Go.Proofs.Ytoghgliijjfppab
