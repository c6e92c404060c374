/-
  Draws of chapter 23: pieces, of which one is often missing, and a parity.
-/
import Derived.Test.YtoghgliijjfppaaDr11
namespace Go.Proofs.Ytoghgliijjfppaa
open Go.RowKit
namespace Rd
open Il Sl Fo Cm Cs Gm Pc
open Sp11 (NewG)

theorem disj_set {l : List (List Nat)} (h : l.Pairwise Disj) (k : Nat) : (l.set k []).Pairwise Disj := by
  refine List.pairwise_iff_getElem.2 fun i j hi hj hij => ?_
  rw [List.length_set] at hi hj
  have hold := List.pairwise_iff_getElem.1 h i j hi hj hij
  rw [List.getElem_set, List.getElem_set]
  split
  · intro x q1; simp at q1
  · split
    · intro x _ q2; simp at q2
    · exact hold
/-- A gathered slot is taken away. -/
theorem GatK.lose {lo hi : Nat} {w : World} {v : Value} {ss : List Sk} {k : Nat} (h : GatK lo hi w v ss) (hk : k < ss.length) :
    ∃ b cap, v = .slice (some ⟨b, 0, none⟩) ss.length cap ∧ (lo ≤ b ∧ b < hi ∧ b < w.heap.size) ∧ (∃ u, w.cell? ⟨b, k, none⟩ = some u) ∧ w.frozen? ⟨b, k, none⟩ = false ∧ ∀ A0, GatK lo hi (w.setCell ⟨b, k, none⟩ (.slice A0 0 0)) v (ss.set k ⟨[], A0, 0, 0⟩) := by
  obtain ⟨g, h1, h2, h3, h4⟩ := h
  rcases h1 with ⟨_, hz, _⟩ | ⟨q, rfl, ha⟩
  · omega
  obtain ⟨cap, rfl, hr⟩ := ha.row
  obtain ⟨b', off, e, q1, q2, hz, hc⟩ := hr.1.2.2.2 (by omega)
  simp only [Option.some.injEq, Addr.mk.injEq, and_true] at e
  obtain ⟨rfl, rfl⟩ := e
  have hb := h4 _ List.mem_cons_self q (by simp)
  have hcell := hc k _ (List.getElem?_eq_getElem (by rw [List.length_map]; exact hk))
  have hfz := hr.2 q 0 (by omega) rfl k (by omega)
  rw [Nat.zero_add] at hcell hfz
  refine ⟨q, cap, rfl, ⟨hb.1, hb.2, hz⟩, ⟨_, hcell⟩, hfz, fun A0 => ⟨some q, ?_, fun t ht => ?_, ?_, ?_⟩⟩
  · rw [List.length_set, List.map_set]
    exact .inr ⟨q, rfl, ha.set k _⟩
  · rcases List.mem_or_eq_of_mem_set ht with ht | rfl
    · refine (h2 t ht).keepC (by simp [World.setCell]) fun y hy => Below.heap_setCell _ _ _ _ (show y ≠ q by
        rintro rfl
        exact (List.pairwise_cons.1 h3).1 _ (List.mem_map_of_mem ht) y (by simp) hy)
    · exact Own.nil_ (Nat.zero_le _)
  · unfold Foot at h3 ⊢
    rw [List.pairwise_cons] at h3 ⊢
    rw [List.map_set]
    refine ⟨fun f hf => ?_, disj_set h3.2 k⟩
    rcases List.mem_or_eq_of_mem_set hf with hf | rfl
    · exact h3.1 f hf
    · intro x _ q2; simp [fpk, fp] at q2
  · intro f hf x hx
    rcases List.mem_cons.1 hf with rfl | hf
    · exact h4 _ List.mem_cons_self x hx
    · rw [List.map_set] at hf
      rcases List.mem_or_eq_of_mem_set hf with hf | rfl
      · exact h4 f (List.mem_cons_of_mem _ hf) x hx
      · simp [fpk, fp] at hx
/-- Pieces and a parity while they are spoilt. -/
def DgR (rb N M : Nat) (w wr : World) (v : Value) (n : Nat) (B : Option Addr) (m d : Nat) : Prop :=
  Reader wr rb N ∧ w.grownBy wr (some rb) ∧ M ≤ wr.heap.size ∧ w.heap.size ≤ M ∧ (∃ ss : List Sk, ss.length = n ∧ GatK w.heap.size M wr v ss) ∧ ∃ q, Ints M wr.heap.size wr B m d q
theorem DgR.rd {rb N M : Nat} {w wr : World} {v : Value} {n : Nat} {B : Option Addr} {m d : Nat} (h : DgR rb N M w wr v n B m d) : Reader wr rb N := h.1
theorem DgR.mono {rb N N' M : Nat} {w wr : World} {v : Value} {n : Nat} {B : Option Addr} {m d : Nat} (h : DgR rb N M w wr v n B m d) (hN : N ≤ N') : DgR rb N' M w wr v n B m d := ⟨h.1.mono hN, h.2⟩
theorem DgR.grown {rb N N' M : Nat} {w wr w' : World} {v : Value} {n : Nat} {B : Option Addr} {m d : Nat} (h : DgR rb N M w wr v n B m d) (hg : wr.grownBy w' (some rb)) (hr : Reader w' rb N') (hlt : rb < w.heap.size) : DgR rb N' M w w' v n B m d := by
  obtain ⟨_, h2, h3, h4, ⟨ss, h5, h6⟩, q, h7⟩ := h
  refine ⟨hr, grown_trans h2 hg, Nat.le_trans h3 hg.size, h4, ⟨ss, h5, h6.keep hg.size fun x q1 _ q3 => hg.block x q3 (by simp; omega)⟩, q, (h7.grown hg fun k e => by cases e; omega).mono (Nat.le_refl _) hg.size⟩
/-- One piece is taken away. -/
theorem DgR.lose {rb N M k : Nat} {w wr : World} {v : Value} {n : Nat} {B : Option Addr} {m d : Nat} (h : DgR rb N M w wr v n B m d) (hlt : rb < w.heap.size) (hk : k < n) :
    ∃ b cap, v = .slice (some ⟨b, 0, none⟩) n cap ∧ (∃ u, (wr.alloc (.cells #[] 3)).cell? ⟨b, k, none⟩ = some u) ∧ (wr.alloc (.cells #[] 3)).frozen? ⟨b, k, none⟩ = false ∧
      DgR rb N M w ((wr.alloc (.cells #[] 3)).setCell ⟨b, k, none⟩ (.slice (some ⟨wr.heap.size, 0, none⟩) 0 0)) v n B m d := by
  obtain ⟨h1, h2, h3, h4, ⟨ss, h5, h6⟩, q, h7⟩ := h
  have hal : Below wr.heap.size wr (wr.alloc (.cells #[] 3)) := (Below.refl _ _).alloc (Nat.le_refl _) _
  obtain ⟨b, cap, rfl, ⟨hb1, hb2, hb3⟩, hu, hf, hg⟩ := GatK.lose (h6.below hal (Nat.le_refl _)) (k := k) (by omega)
  have hsz : ((wr.alloc (.cells #[] 3)).setCell ⟨b, k, none⟩ (.slice (some ⟨wr.heap.size, 0, none⟩) 0 0)).heap.size = (wr.alloc (.cells #[] 3)).heap.size := by simp [World.setCell]
  have hs2 := hal.size
  have hw := h2.size
  have hoth : ∀ y, y < wr.heap.size → y ≠ b → ((wr.alloc (.cells #[] 3)).setCell ⟨b, k, none⟩ (.slice (some ⟨wr.heap.size, 0, none⟩) 0 0)).heap[y]? = wr.heap[y]? := fun y hy hne => (Below.heap_setCell _ _ _ _ hne).trans (hal.block y hy)
  rw [h5]
  rw [h5] at hg
  refine ⟨b, cap, rfl, hu, hf, h1.keep fun y hy => hoth y (by omega) (by omega), ⟨h2.os, h2.tape, h2.output, by omega, fun y hy hne => (hoth y (by omega) (by omega)).trans (h2.block y hy hne)⟩, by omega, h4, ⟨_, by rw [List.length_set]; exact h5, hg _⟩, q, ?_⟩
  exact ((h7.keep (w' := (wr.alloc (.cells #[] 3)).setCell ⟨b, k, none⟩ (.slice (some ⟨wr.heap.size, 0, none⟩) 0 0)) (by omega) fun y q1 _ q3 => hoth y q3 (by omega))).mono (Nat.le_refl _) (by omega)
/-- Pieces and a parity are drawn. -/
def RepP (w : World) (e : Ending) (w' : World) : Prop :=
  ∃ A n c ps B m d q, e = .returned (.tuple #[.slice A n c, .slice B m d]) ∧ n ≤ 6 ∧ Sts w.heap.size w'.heap.size w' A n c ps ∧ Ints w.heap.size w'.heap.size w' B m d q ∧ Below w.heap.size w w'
theorem DgR.done {rb N M : Nat} {w0 w wr : World} {v : Value} {n : Nat} {B : Option Addr} {m d : Nat} (h : DgR rb N M w wr v n B m d) (hb : Below w0.heap.size w0 w) (hrb : w0.heap.size ≤ rb) (hn : n ≤ 6) : RepP w0 (.returned (.tuple #[v, .slice B m d])) wr := by
  obtain ⟨_, h2, h3, h4, ⟨ss, h5, h6⟩, q, h7⟩ := h
  obtain ⟨A, c, G, rfl, ho, hw⟩ := h6.own
  have hs := hb.size
  exact ⟨A, ss.length, c, _, B, m, d, q, rfl, by omega, (ho.sts hw).mono hs h3, h7.mono (by omega) (Nat.le_refl _), hb.grown h2 hs fun k e => by cases e; exact hrb⟩
/-- .. one piece more. -/
def RepPre (rb : Nat) (w wr : World) (v : Value) (n : Nat) (B : Option Addr) (m d : Nat) : Prop :=
  w.grownBy wr (some rb) ∧ (∃ ss : List Sk, ss.length = n ∧ GatK w.heap.size wr.heap.size wr v ss) ∧ ∃ q, Ints w.heap.size wr.heap.size wr B m d q
theorem RepPre.done {rb : Nat} {w0 w wr : World} {v : Value} {n : Nat} {B : Option Addr} {m d : Nat} (h : RepPre rb w wr v n B m d) (hb : Below w0.heap.size w0 w) (hrb : w0.heap.size ≤ rb) (hn : n ≤ 6) : RepP w0 (.returned (.tuple #[v, .slice B m d])) wr := by
  obtain ⟨h2, ⟨ss, h5, h6⟩, q, h7⟩ := h
  obtain ⟨A, c, G, rfl, ho, hw⟩ := h6.own
  have hs := hb.size
  exact ⟨A, ss.length, c, _, B, m, d, q, rfl, by omega, (ho.sts hw).mono hs (Nat.le_refl _), h7.mono hs (Nat.le_refl _), hb.grown h2 hs fun k e => by cases e; exact hrb⟩
/-- Another parity. -/
theorem DgR.list {rb N N' M : Nat} {w wr w' : World} {v : Value} {n : Nat} {B B' : Option Addr} {m d m' d' : Nat} {q : List Int} (h : DgR rb N M w wr v n B m d) (hg : wr.grownBy w' (some rb)) (hr : Reader w' rb N') (hlt : rb < w.heap.size) (hi : Ints wr.heap.size w'.heap.size w' B' m' d' q) : DgR rb N' M w w' v n B' m' d' := by
  obtain ⟨h1, h2, h3, h4, h5, _⟩ := h.grown hg hr hlt
  exact ⟨h1, h2, h3, h4, h5, q, hi.mono h.2.2.1 (Nat.le_refl _)⟩
/-- One piece more. -/
theorem DgR.more {rb N M : Nat} {w wr : World} {v : Value} {n : Nat} {B : Option Addr} {m d : Nat} (h : DgR rb N M w wr v n B m d) : ∃ ss : List Sk, ss.length = n ∧ GatK w.heap.size M (wr.alloc (.cells #[.int .i64 1] 3)) v ss ∧ SkO (wr.alloc (.cells #[.int .i64 1] 3)) ⟨[1], some ⟨wr.heap.size, 0, none⟩, 1, wr.heap.size⟩ ∧ (w.heap.size ≤ M ∧ M ≤ wr.heap.size ∧ M ≤ (wr.alloc (.cells #[.int .i64 1] 3)).heap.size) ∧
    ∀ v9 w9, GatK w.heap.size w9.heap.size w9 v9 (ss ++ [⟨[1], some ⟨wr.heap.size, 0, none⟩, 1, wr.heap.size⟩]) → Below w.heap.size (wr.alloc (.cells #[.int .i64 1] 3)) w9 → (∀ y, y < (wr.alloc (.cells #[.int .i64 1] 3)).heap.size → y < w.heap.size ∨ M ≤ y → w9.heap[y]? = (wr.alloc (.cells #[.int .i64 1] 3)).heap[y]?) → RepPre rb w w9 v9 (n + 1) B m d := by
  obtain ⟨h1, h2, h3, h4, ⟨ss, h5, h6⟩, q, h7⟩ := h
  have hal : Below wr.heap.size wr (wr.alloc (.cells #[.int .i64 1] 3)) := (Below.refl _ _).alloc (Nat.le_refl _) _
  have hs1 : (wr.alloc (.cells #[.int .i64 1] 3)).heap.size = wr.heap.size + 1 := by simp
  have hw := h2.size
  have hk : Blk (wr.alloc (.cells #[.int .i64 1] 3)) wr.heap.size #[.int .i64 1] 3 := blk_new _ _ _
  refine ⟨ss, h5, h6.below hal (Nat.le_refl _), ⟨⟨rfl, Nat.le_refl _, by show 1 ≤ maxLen; unfold maxLen; omega, fun _ => ⟨wr.heap.size, 0, rfl, Nat.le_refl _, Nat.lt_succ_self _, hk.lt, fun j hj => ?_⟩⟩, fun b' off' _ e j _ => ?_⟩, ⟨h4, h3, by omega⟩, fun v9 w9 hg9 hb9 hk9 => ?_⟩
  · obtain rfl : j = 0 := by simp at hj; exact hj
    rw [cell_of_row _ _ _ _ _ _ hk]
    rfl
  · simp only [Option.some.injEq, Addr.mk.injEq, and_true] at e
    obtain ⟨rfl, rfl⟩ := e
    unfold Blk at hk
    generalize wr.alloc (.cells #[.int .i64 1] 3) = W at hk ⊢
    simp [World.frozen?, hk]
  · have hs9 := hb9.size
    refine ⟨⟨hb9.os.trans h2.os, hb9.tape.trans h2.tape, hb9.output.trans h2.output, by omega, fun i hi hne => (hb9.block i hi).trans ((hal.block i (by omega)).trans (h2.block i hi hne))⟩, ⟨_, by rw [List.length_append, h5]; rfl, hg9⟩, q, ?_⟩
    exact (h7.keep (by omega) fun y q1 _ q3 => (hk9 y (by omega) (.inr q1)).trans (hal.block y q3)).mono h4 (by omega)
set_option maxRecDepth 20000 in
set_option maxHeartbeats 4000000 in
theorem DrawPiecesRepair (A0 : Option Addr) (n0 c0 : Nat) (w : World) (h : CodeIs w A0 n0 c0) : Calls Try.prog 19 #[.slice A0 n0 c0] w (RepP w) := by
  go_enter Try.func19, Try.ntmps19
  go_wp2_with fail
  ((with_reducible refine (l6Open A0 n0 c0 w h).mono ?_); rintro e w1 ⟨rfl, hr1, hb1, hs1⟩)
  have HB1 := Lib.hid hb1
  have HR1 := Lib.hid hr1
  have hrb : w.heap.size ≤ w.heap.size := Nat.le_refl _
  have hlt : w.heap.size < w1.heap.size := by omega
  clear hb1 hr1 hs1
  go_wp2_with fail
  ((with_reducible refine (l91ListAt _ 0 14 14 _ rfl HR1.out (by omega) (by omega)).mono ?_); rintro e w2 ⟨A2, c2, xs, rfl, hl2, _, ho2, hr2, hg2⟩)
  have HR2 := Lib.hid (hr2.mono (N' := 51) (by omega))
  have HG2 := Lib.hid hg2
  have HO2 := Lib.hid ho2.1
  clear hr2 hg2 ho2
  go_wp2_with fail
  ((with_reducible refine (Sp11.PiecesCut _ _ _ _ _ xs _ HO2.out).mono ?_); rintro e w3 ⟨v3, ss, rfl, hgk, hss, hb3⟩)
  obtain ⟨A, c, G, rfl, ho3, hw3⟩ := hgk.own
  have HS3 := Lib.hid (ho3.sts hw3)
  have hl5 : ss.length ≤ 5 := by
    have h1 : (ss.map (·.xs)).length = (cutF xs).length := by rw [hss]
    have := cutF_len (xs := xs)
    rw [List.length_map] at h1
    omega
  have HGK := Lib.hid hgk
  have HB3 := Lib.hid hb3
  clear hgk hss hb3 ho3 hw3
  go_wp2_with fail
  ((with_reducible refine (Sp11.PiecesParity _ _ _ _ _ _ _ HS3.out).mono ?_); rintro e w4 ⟨B, d, rfl, ho4, hb4⟩)
  obtain ⟨n, hn⟩ : ∃ n, ss.length = n := ⟨_, rfl⟩
  have HD0 : Hid (DgR w.heap.size 98 w3.heap.size w1 w4 (.slice A ss.length c) ss.length B (parF (ss.map (·.xs))).length d) := by
    have hg1 := HG2.out.size
    have hg3 := HB3.out.size
    have hb4s := hb4.size
    refine ⟨((HR2.out.below HB3.out (by omega)).below hb4 (by omega)).mono (by omega), ?_, hb4s, by omega, ⟨ss, rfl, (HGK.out.below hb4 (Nat.le_refl _)).mono hg1 (Nat.le_refl _)⟩, _, ho4.1⟩
    exact ⟨hb4.os.trans (HB3.out.os.trans HG2.out.os), hb4.tape.trans (HB3.out.tape.trans HG2.out.tape), hb4.output.trans (HB3.out.output.trans HG2.out.output), by omega, fun i hi hne => (hb4.block i (by omega)).trans ((HB3.out.block i (by omega)).trans (HG2.out.block i hi hne))⟩
  rw [hn] at HD0 hl5 ⊢
  generalize (parF (ss.map (·.xs))).length = m at *
  clear ho4 hb4 HGK HB3 HS3 HO2 HG2 HR2 HR1 hn
  by_cases h0 : n = 0
  · subst h0
    have HD := Lib.hid (HD0.out.mono (N' := 100) (by omega))
    clear HD0
    go_wp2_with fail
    ((with_reducible refine (pick _ 100 12 _ HD.out.rd (by omega) (by decide) (by decide)).mono ?_); rintro e w7 ⟨q7, rfl, hq70, hq71, r7, g7, -⟩)
    have HD7 := Lib.hid (HD.out.grown g7 r7 hlt)
    clear HD r7 g7
    by_cases hz0 : q7 = 0
    · subst hz0
      have HP := Lib.hid (HD7.out.done HB1.out hrb (by omega))
      clear HD7
      go_wp2
      go_ret2
      exact HP.out
    have hz0' : (q7 == 0) = false := by simpa using hz0
    by_cases hz1 : q7 = 1
    · subst hz1
      go_wp2_with fail
      ((with_reducible refine (l91ListAt _ (100 + 1) 3 3 _ rfl HD7.out.rd (by omega) (by omega)).mono ?_); rintro e w8 ⟨A8, c8, xs8, rfl, hl8, _, ho8, r8, g8⟩)
      have HP := Lib.hid ((HD7.out.list g8 r8 hlt ho8.1).done HB1.out hrb (by omega))
      clear HD7 ho8 r8 g8
      go_wp2
      go_ret2
      exact HP.out
    have hz1' : (q7 == 1) = false := by simpa using hz1
    by_cases hz2 : q7 = 2
    · subst hz2
      obtain ⟨ss9, hs9, hg9, hsk9, hm9, HAP⟩ := HD7.out.more
      have HG9 := Lib.hid hg9
      have HSK9 := Lib.hid hsk9
      have HAP9 := Lib.hid HAP
      clear hg9 hsk9 HAP HD7
      go_wp2_with (at_builtin; go_loud (refine wpList_gatK (x := ⟨[1], some ⟨w7.heap.size, 0, none⟩, 1, w7.heap.size⟩) HG9.out HSK9.out (fun y hy => by have := (mem_fp.1 hy).2; dsimp only at this; have := hm9.2.1; omega) hm9.1 hm9.2.2 (by omega) _ _ rfl rfl rfl (by go_simp) ?_); intro v9 w9 hg9 hb9 hk9; obtain ⟨A9, m9, c9, rfl⟩ := hg9.sl)
      have HP := Lib.hid ((HAP9.out _ _ hg9 hb9 hk9).done HB1.out hrb (by omega))
      clear hg9 hb9 hk9 HG9 HSK9 HAP9
      go_wp2
      go_ret2
      exact HP.out
    have hz2' : (q7 == 2) = false := by simpa using hz2
    have HP := Lib.hid (HD7.out.done HB1.out hrb (by omega))
    clear HD7
    go_wp2
    go_ret2
    exact HP.out
  have hn1 : (1 : Int) ≤ (n : Int) := by omega
  have hn2 : (n : Int) ≤ 100000 := by omega
  have h0' : (0 : Int) < (n : Int) := by omega
  go_wp2_with fail
  ((with_reducible refine (pick _ 98 6 _ HD0.out.rd (by omega) (by decide) (by decide)).mono ?_); rintro e w5 ⟨q5, rfl, hq50, hq51, r5, g5, -⟩)
  have HD5 := Lib.hid (HD0.out.grown g5 r5 hlt)
  clear HD0 r5 g5
  by_cases hq5 : 0 < q5
  · have _h := trivial
    go_wp2_with fail
    ((with_reducible refine (pick _ (98 + 1) (n : Int) _ HD5.out.rd (by omega) hn1 hn2).mono ?_); rintro e w6 ⟨k6, rfl, hk60, hk61, r6, g6, -⟩)
    have HD6 := Lib.hid (HD5.out.grown g6 r6 hlt)
    clear HD5 r6 g6
    obtain ⟨k6, rfl⟩ := Int.eq_ofNat_of_zero_le hk60
    have hk6 : k6 < n := by omega
    obtain ⟨b6, cap6, e6, ⟨u6, hu6⟩, hf6, hd6⟩ := HD6.out.lose hlt hk6
    cases e6
    have HD := Lib.hid (hd6.mono (N' := 100) (by omega))
    clear HD6 hd6
    go_wp2_with fail
    ((with_reducible refine (pick _ 100 12 _ HD.out.rd (by omega) (by decide) (by decide)).mono ?_); rintro e w7 ⟨q7, rfl, hq70, hq71, r7, g7, -⟩)
    have HD7 := Lib.hid (HD.out.grown g7 r7 hlt)
    clear HD r7 g7
    by_cases hz0 : q7 = 0
    · subst hz0
      go_wp2_with fail
      ((with_reducible refine (pick _ (100 + 1) (n : Int) _ HD7.out.rd (by omega) hn1 hn2).mono ?_); rintro e w8 ⟨k8, rfl, hk80, hk81, r8, g8, -⟩)
      have HD8 := Lib.hid (HD7.out.grown g8 r8 hlt)
      clear HD7 r8 g8
      obtain ⟨k8, rfl⟩ := Int.eq_ofNat_of_zero_le hk80
      have hk8 : k8 < n := by omega
      obtain ⟨b8, cap8, e8, ⟨u8, hu8⟩, hf8, hd8⟩ := HD8.out.lose hlt hk8
      cases e8
      have HP := Lib.hid (hd8.done HB1.out hrb (by omega))
      clear HD8 hd8
      go_wp2
      go_ret2
      exact HP.out
    have hz0' : (q7 == 0) = false := by simpa using hz0
    by_cases hz1 : q7 = 1
    · subst hz1
      go_wp2_with fail
      ((with_reducible refine (l91ListAt _ (100 + 1) 3 3 _ rfl HD7.out.rd (by omega) (by omega)).mono ?_); rintro e w8 ⟨A8, c8, xs8, rfl, hl8, _, ho8, r8, g8⟩)
      have HP := Lib.hid ((HD7.out.list g8 r8 hlt ho8.1).done HB1.out hrb (by omega))
      clear HD7 ho8 r8 g8
      go_wp2
      go_ret2
      exact HP.out
    have hz1' : (q7 == 1) = false := by simpa using hz1
    by_cases hz2 : q7 = 2
    · subst hz2
      obtain ⟨ss9, hs9, hg9, hsk9, hm9, HAP⟩ := HD7.out.more
      have HG9 := Lib.hid hg9
      have HSK9 := Lib.hid hsk9
      have HAP9 := Lib.hid HAP
      clear hg9 hsk9 HAP HD7
      go_wp2_with (at_builtin; go_loud (refine wpList_gatK (x := ⟨[1], some ⟨w7.heap.size, 0, none⟩, 1, w7.heap.size⟩) HG9.out HSK9.out (fun y hy => by have := (mem_fp.1 hy).2; dsimp only at this; have := hm9.2.1; omega) hm9.1 hm9.2.2 (by omega) _ _ rfl rfl rfl (by go_simp) ?_); intro v9 w9 hg9 hb9 hk9; obtain ⟨A9, m9, c9, rfl⟩ := hg9.sl)
      have HP := Lib.hid ((HAP9.out _ _ hg9 hb9 hk9).done HB1.out hrb (by omega))
      clear hg9 hb9 hk9 HG9 HSK9 HAP9
      go_wp2
      go_ret2
      exact HP.out
    have hz2' : (q7 == 2) = false := by simpa using hz2
    have HP := Lib.hid (HD7.out.done HB1.out hrb (by omega))
    clear HD7
    go_wp2
    go_ret2
    exact HP.out
  · have HD := Lib.hid (HD5.out.mono (N' := 100) (by omega))
    clear HD5
    go_wp2_with fail
    ((with_reducible refine (pick _ 100 12 _ HD.out.rd (by omega) (by decide) (by decide)).mono ?_); rintro e w7 ⟨q7, rfl, hq70, hq71, r7, g7, -⟩)
    have HD7 := Lib.hid (HD.out.grown g7 r7 hlt)
    clear HD r7 g7
    by_cases hz0 : q7 = 0
    · subst hz0
      go_wp2_with fail
      ((with_reducible refine (pick _ (100 + 1) (n : Int) _ HD7.out.rd (by omega) hn1 hn2).mono ?_); rintro e w8 ⟨k8, rfl, hk80, hk81, r8, g8, -⟩)
      have HD8 := Lib.hid (HD7.out.grown g8 r8 hlt)
      clear HD7 r8 g8
      obtain ⟨k8, rfl⟩ := Int.eq_ofNat_of_zero_le hk80
      have hk8 : k8 < n := by omega
      obtain ⟨b8, cap8, e8, ⟨u8, hu8⟩, hf8, hd8⟩ := HD8.out.lose hlt hk8
      cases e8
      have HP := Lib.hid (hd8.done HB1.out hrb (by omega))
      clear HD8 hd8
      go_wp2
      go_ret2
      exact HP.out
    have hz0' : (q7 == 0) = false := by simpa using hz0
    by_cases hz1 : q7 = 1
    · subst hz1
      go_wp2_with fail
      ((with_reducible refine (l91ListAt _ (100 + 1) 3 3 _ rfl HD7.out.rd (by omega) (by omega)).mono ?_); rintro e w8 ⟨A8, c8, xs8, rfl, hl8, _, ho8, r8, g8⟩)
      have HP := Lib.hid ((HD7.out.list g8 r8 hlt ho8.1).done HB1.out hrb (by omega))
      clear HD7 ho8 r8 g8
      go_wp2
      go_ret2
      exact HP.out
    have hz1' : (q7 == 1) = false := by simpa using hz1
    by_cases hz2 : q7 = 2
    · subst hz2
      obtain ⟨ss9, hs9, hg9, hsk9, hm9, HAP⟩ := HD7.out.more
      have HG9 := Lib.hid hg9
      have HSK9 := Lib.hid hsk9
      have HAP9 := Lib.hid HAP
      clear hg9 hsk9 HAP HD7
      go_wp2_with (at_builtin; go_loud (refine wpList_gatK (x := ⟨[1], some ⟨w7.heap.size, 0, none⟩, 1, w7.heap.size⟩) HG9.out HSK9.out (fun y hy => by have := (mem_fp.1 hy).2; dsimp only at this; have := hm9.2.1; omega) hm9.1 hm9.2.2 (by omega) _ _ rfl rfl rfl (by go_simp) ?_); intro v9 w9 hg9 hb9 hk9; obtain ⟨A9, m9, c9, rfl⟩ := hg9.sl)
      have HP := Lib.hid ((HAP9.out _ _ hg9 hb9 hk9).done HB1.out hrb (by omega))
      clear hg9 hb9 hk9 HG9 HSK9 HAP9
      go_wp2
      go_ret2
      exact HP.out
    have hz2' : (q7 == 2) = false := by simpa using hz2
    have HP := Lib.hid (HD7.out.done HB1.out hrb (by omega))
    clear HD7
    go_wp2
    go_ret2
    exact HP.out

end Rd
end Go.Proofs.Ytoghgliijjfppaa
