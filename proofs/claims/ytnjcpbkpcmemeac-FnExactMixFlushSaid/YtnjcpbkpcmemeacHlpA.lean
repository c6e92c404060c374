/-
  Contracts of the exact laws' helpers that copy mixes: toPeeled, toPeeledS, toMix.
-/
import Derived.Test.YtnjcpbkpcmemeacHlp9
import Derived.Test.YtnjcpbkpcmemeacSp6b
import Derived.Test.YtnjcpbkpcmemeacIm6b
import Derived.Deep.Cut
namespace Go.Proofs.Ytnjcpbkpcmemeac
open Go.RowKit
namespace HlpA
open Il Pm Pq LawB Hlp5 Hlp6 Sl Mm6
open Sp6 (blk_set25 far25 size25 three_cells blk3_set0 blk3_set1 blk3_set2)

/-- Only block b may have turned. -/
structure SB (b : Nat) (w w' : World) : Prop where
  os : w'.os = w.os
  tape : w'.tape = w.tape
  output : w'.output = w.output
  size : w'.heap.size = w.heap.size
  block : ∀ z, z ≠ b → w'.heap[z]? = w.heap[z]?
theorem SB.refl (b : Nat) (w : World) : SB b w w := ⟨rfl, rfl, rfl, rfl, fun _ _ => rfl⟩
theorem SB.set {b : Nat} {w w' : World} (h : SB b w w') (o : Nat) (v : Value) : SB b w (w'.setCell ⟨b, o, none⟩ v) :=
  ⟨h.os, h.tape, h.output, by rw [← h.size]; simp [World.setCell], fun z hz => (Below.heap_setCell _ _ _ _ hz).trans (h.block z hz)⟩
theorem SB.drew {b : Nat} {w w' : World} (h : SB b w w') : SB b w w'.drew := ⟨h.os, h.tape, h.output, h.size, h.block⟩
theorem SB.bel {b K : Nat} {w0 w w' : World} (h : SB b w w') (hB : Below K w0 w) (hb : K ≤ b) : Below K w0 w' :=
  ⟨h.os.trans hB.os, h.tape.trans hB.tape, h.output.trans hB.output, by rw [h.size]; exact hB.size, fun z hz => (h.block z (by omega)).trans (hB.block z hz)⟩
theorem lies_same {b b1 b2 c d : Nat} {A B : Option Addr} {w w' : World} {p : Pkt} (h : Lies w b1 b2 A c B d p) (hs : SB b w w') (h1 : b ≠ b1) (h2 : b ≠ b2) : Lies w' b1 b2 A c B d p :=
  ⟨h.1.keep (by rw [hs.size]; exact Nat.le_refl _) (fun z q1 q2 _ => hs.block z (by omega)), h.2.1.keep (by rw [hs.size]; exact Nat.le_refl _) (fun z q1 q2 _ => hs.block z (by omega)), h.2.2⟩
theorem results_cell1' {fn : Func} {p : Tmp} {t : TypeId} (h : fn.results = #[.cell p t]) (tmps : Array Value) (P : Program) (w : World) : (results fn tmps).run P w = ((asAddr (tmps.getD p undef)).run P w).andThen fun a w₁ => (loadVar t a).run P w₁ := by
  simp only [results, h]
  simp [Sem.run_bind]

def CopyL (p : Pld) (w : World) (e : Ending) (w' : World) : Prop :=
  ∃ A c B d b1 b2, e = .returned (.agg #[.int .i64 p.kind, .int .i64 p.next, .int .i64 p.pk.el, .slice A p.pk.hd.length c, .int .i64 p.pk.tag, .slice B p.pk.bd.length d]) ∧ Lies w' b1 b2 A c B d p.pk ∧ w.heap.size ≤ b1 ∧ w.heap.size ≤ b2 ∧ Below w.heap.size w w'
set_option maxRecDepth 20000 in
set_option maxHeartbeats 1000000 in
theorem toPeeled (p : Pld) (A B : Option Addr) (c d l1 h1 l2 h2 : Nat) (w : World) (i1 : Ints l1 h1 w A p.pk.hd.length c p.pk.hd) (i2 : Ints l2 h2 w B p.pk.bd.length d p.pk.bd) (hn : p.pk.hd.length ≤ 1048576) (hm : p.pk.bd.length ≤ 1048576) :
    Calls Try.prog 76 #[.agg #[.int .i64 p.kind, .int .i64 p.next, .int .i64 p.pk.el, .slice A p.pk.hd.length c, .int .i64 p.pk.tag, .slice B p.pk.bd.length d]] w (CopyL p w) := by
  obtain ⟨z0, z1, z2, zs, zb⟩ := three_blocks w #[.int .i64 p.kind, .int .i64 p.next, .int .i64 p.pk.el, .slice A p.pk.hd.length c, .int .i64 p.pk.tag, .slice B p.pk.bd.length d] #[.int .i64 0, .int .i64 0, .int .i64 0, .slice none 0 0, .int .i64 0, .slice none 0 0] #[.int .i64 p.kind, .int .i64 p.next, .int .i64 0, .slice none 0 0, .int .i64 0, .slice none 0 0] 103 39 39
  have I1 := Lib.hid ((ints_top i1).below zb (Nat.le_refl _))
  have I2 := Lib.hid ((ints_top i2).below zb (Nat.le_refl _))
  have Z0 := Lib.hid z0
  have Z1 := Lib.hid z1
  have Z2 := Lib.hid z2
  have BB := Lib.hid zb
  have ZS := Lib.hid zs
  clear i1 i2 z0 z1 z2 zs zb
  go_enter Try.func76, Try.ntmps76
  go_wp2_with fail
  have hs3 : w.heap.size + 1 + 1 < (((w.alloc (.cells #[.int .i64 p.kind, .int .i64 p.next, .int .i64 p.pk.el, .slice A p.pk.hd.length c, .int .i64 p.pk.tag, .slice B p.pk.bd.length d] 103)).alloc (.cells #[.int .i64 0, .int .i64 0, .int .i64 0, .slice none 0 0, .int .i64 0, .slice none 0 0] 39)).alloc (.cells #[.int .i64 p.kind, .int .i64 p.next, .int .i64 0, .slice none 0 0, .int .i64 0, .slice none 0 0] 39)).heap.size := by rw [ZS.out]; omega
  clear ZS
  generalize (((w.alloc (.cells #[.int .i64 p.kind, .int .i64 p.next, .int .i64 p.pk.el, .slice A p.pk.hd.length c, .int .i64 p.pk.tag, .slice B p.pk.bd.length d] 103)).alloc (.cells #[.int .i64 0, .int .i64 0, .int .i64 0, .slice none 0 0, .int .i64 0, .slice none 0 0] 39)).alloc (.cells #[.int .i64 p.kind, .int .i64 p.next, .int .i64 0, .slice none 0 0, .int .i64 0, .slice none 0 0] 39)) = w3 at *
  ((with_reducible refine (toPacket p.pk A B c d _ _ _ _ _ I1.out I2.out hn hm).mono ?_); rintro e w4 ⟨A1, c1, B1, d1, b1, b2, rfl, hl, q1, q2, hb⟩)
  have hs4 := hb.size
  have HL := Lib.hid hl
  replace Z1 := Lib.hid (Z1.out.below hb (Nat.le_refl _))
  replace Z2 := Lib.hid (Z2.out.below hb (Nat.le_refl _))
  replace BB := Lib.hid (BB.out.trans (hb.mono BB.out.size))
  clear hb hl Z0 I1 I2
  obtain ⟨m0, m1, m2, m3, m4, m5, mf⟩ := Sp6.six_cellsB Z2.out
  go_upto_region 5 with (fail)
  clear m0 m1 m2 m3 m4 m5 mf
  have S5 : Hid (SB (w.heap.size + 1 + 1) w4 ((((w4.setCell ⟨w.heap.size + 1 + 1, 2, none⟩ (.int .i64 p.pk.el)).setCell ⟨w.heap.size + 1 + 1, 3, none⟩ (.slice A1 p.pk.hd.length c1)).setCell ⟨w.heap.size + 1 + 1, 4, none⟩ (.int .i64 p.pk.tag)).setCell ⟨w.heap.size + 1 + 1, 5, none⟩ (.slice B1 p.pk.bd.length d1))) := by
    refine Lib.hid ?_
    iterate 4 (refine SB.set ?_ _ _)
    exact SB.refl _ _
  have Y2 := Lib.hid (blk_set25 (v2 := .int .i64 p.pk.el) (v3 := .slice A1 p.pk.hd.length c1) (v4 := .int .i64 p.pk.tag) (v5 := .slice B1 p.pk.bd.length d1) Z2.out)
  have Y1 : Hid (Blk ((((w4.setCell ⟨w.heap.size + 1 + 1, 2, none⟩ (.int .i64 p.pk.el)).setCell ⟨w.heap.size + 1 + 1, 3, none⟩ (.slice A1 p.pk.hd.length c1)).setCell ⟨w.heap.size + 1 + 1, 4, none⟩ (.int .i64 p.pk.tag)).setCell ⟨w.heap.size + 1 + 1, 5, none⟩ (.slice B1 p.pk.bd.length d1)) (w.heap.size + 1) #[.int .i64 0, .int .i64 0, .int .i64 0, .slice none 0 0, .int .i64 0, .slice none 0 0] 39) := (S5.out.block _ (by omega)).trans Z1.out
  generalize ((((w4.setCell ⟨w.heap.size + 1 + 1, 2, none⟩ (.int .i64 p.pk.el)).setCell ⟨w.heap.size + 1 + 1, 3, none⟩ (.slice A1 p.pk.hd.length c1)).setCell ⟨w.heap.size + 1 + 1, 4, none⟩ (.int .i64 p.pk.tag)).setCell ⟨w.heap.size + 1 + 1, 5, none⟩ (.slice B1 p.pk.bd.length d1)) = w5 at *
  obtain ⟨m0, m1, m2, m3, m4, m5, mf⟩ := Sp6.six_cellsB Y2.out
  obtain ⟨k0, k1, k2, k3, k4, k5, kf⟩ := Sp6.six_cellsB Y1.out
  go_wp2
  refine bodyPost_ret (v := .agg #[.int .i64 p.kind, .int .i64 p.next, .int .i64 p.pk.el, .slice A1 p.pk.hd.length c1, .int .i64 p.pk.tag, .slice B1 p.pk.bd.length d1]) ?_ rfl ?_
  · rw [results_cell1' rfl]
    go_simp
  · have S6 : SB (w.heap.size + 1) w5 ((((((w5.setCell ⟨w.heap.size + 1, 0, none⟩ (.int .i64 p.kind)).setCell ⟨w.heap.size + 1, 1, none⟩ (.int .i64 p.next)).setCell ⟨w.heap.size + 1, 2, none⟩ (.int .i64 p.pk.el)).setCell ⟨w.heap.size + 1, 3, none⟩ (.slice A1 p.pk.hd.length c1)).setCell ⟨w.heap.size + 1, 4, none⟩ (.int .i64 p.pk.tag)).setCell ⟨w.heap.size + 1, 5, none⟩ (.slice B1 p.pk.bd.length d1)) := by
      iterate 6 (refine SB.set ?_ _ _)
      exact SB.refl _ _
    exact ⟨A1, c1, B1, d1, b1, b2, rfl, lies_same (lies_same HL.out S5.out (by omega) (by omega)) S6 (by omega) (by omega), by omega, by omega, S6.bel (S5.out.bel BB.out (by omega)) (by omega)⟩
def zeroS : Slot := ⟨Pld.zero, none, 0, none, 0, 0, 0⟩
theorem flat_set6 {ws : List Slot} {k : Nat} (y : Slot) (hk : k < ws.length) :
    (((((((ws.flatMap Slot.cells).set (k * 6) (.int .i64 y.p.kind)).set (k * 6 + 1) (.int .i64 y.p.next)).set (k * 6 + 2) (.int .i64 y.p.pk.el)).set (k * 6 + 3) (.slice y.A y.p.pk.hd.length y.c)).set (k * 6 + 4) (.int .i64 y.p.pk.tag)).set (k * 6 + 5) (.slice y.B y.p.pk.bd.length y.d)) = (ws.set k y).flatMap Slot.cells := by
  induction ws generalizing k with
  | nil => simp at hk
  | cons x ws ih =>
    cases k with
    | zero => rw [List.set_cons_zero, List.flatMap_cons, List.flatMap_cons]; rfl
    | succ k =>
      have h6 : x.cells.length = 6 := rfl
      rw [List.set_cons_succ, List.flatMap_cons, List.flatMap_cons, ← ih (by simpa using hk)]
      rw [List.set_append_right _ _ (by rw [h6]; omega), List.set_append_right _ _ (by rw [h6]; omega), List.set_append_right _ _ (by rw [h6]; omega), List.set_append_right _ _ (by rw [h6]; omega), List.set_append_right _ _ (by rw [h6]; omega), List.set_append_right _ _ (by rw [h6]; omega), h6]
      have q0 : (k + 1) * 6 - 6 = k * 6 := by omega
      have q1 : (k + 1) * 6 + 1 - 6 = k * 6 + 1 := by omega
      have q2 : (k + 1) * 6 + 2 - 6 = k * 6 + 2 := by omega
      have q3 : (k + 1) * 6 + 3 - 6 = k * 6 + 3 := by omega
      have q4 : (k + 1) * 6 + 4 - 6 = k * 6 + 4 := by omega
      have q5 : (k + 1) * 6 + 5 - 6 = k * 6 + 5 := by omega
      rw [q0, q1, q2, q3, q4, q5]
theorem put6 {g n k : Nat} {w : World} {v : Value} {ws : List Slot} (h : AccV 39 6 g w v n (ws.flatMap Slot.cells)) (y : Slot) (hk : k < ws.length) :
    AccV 39 6 g ((((((w.setCell ⟨g, k * 6, none⟩ (.int .i64 y.p.kind)).setCell ⟨g, k * 6 + 1, none⟩ (.int .i64 y.p.next)).setCell ⟨g, k * 6 + 2, none⟩ (.int .i64 y.p.pk.el)).setCell ⟨g, k * 6 + 3, none⟩ (.slice y.A y.p.pk.hd.length y.c)).setCell ⟨g, k * 6 + 4, none⟩ (.int .i64 y.p.pk.tag)).setCell ⟨g, k * 6 + 5, none⟩ (.slice y.B y.p.pk.bd.length y.d)) v n ((ws.set k y).flatMap Slot.cells) := by
  rw [← flat_set6 y hk]
  exact ((((((h.set (k * 6) _).set (k * 6 + 1) _).set (k * 6 + 2) _).set (k * 6 + 3) _).set (k * 6 + 4) _).set (k * 6 + 5) _)
theorem pl_cells {g n k : Nat} {w : World} {v : Value} {ws : List Slot} {x : Slot} (h : AccV 39 6 g w v n (ws.flatMap Slot.cells)) (hx : ws[k]? = some x) :
    (w.cell? ⟨g, k * 6, none⟩ = some (.int .i64 x.p.kind) ∧ w.cell? ⟨g, k * 6 + 1, none⟩ = some (.int .i64 x.p.next) ∧ w.cell? ⟨g, k * 6 + 2, none⟩ = some (.int .i64 x.p.pk.el) ∧ w.cell? ⟨g, k * 6 + 3, none⟩ = some (.slice x.A x.p.pk.hd.length x.c) ∧ w.cell? ⟨g, k * 6 + 4, none⟩ = some (.int .i64 x.p.pk.tag) ∧ w.cell? ⟨g, k * 6 + 5, none⟩ = some (.slice x.B x.p.pk.bd.length x.d)) ∧ w.frozen? ⟨g, k * 6, none⟩ = false ∧ w.frozen? ⟨g, k * 6 + 1, none⟩ = false ∧ w.frozen? ⟨g, k * 6 + 2, none⟩ = false ∧ w.frozen? ⟨g, k * 6 + 3, none⟩ = false ∧ w.frozen? ⟨g, k * 6 + 4, none⟩ = false ∧ w.frozen? ⟨g, k * 6 + 5, none⟩ = false := by
  have hkl := (List.getElem?_eq_some_iff.1 hx).1
  obtain ⟨cap, rfl, hr, hf⟩ := h.row
  have hl := hr.1
  rw [flat_len cells_len] at hl
  have hn : 0 < n := by omega
  obtain ⟨b, off, e, _, _, _, hc⟩ := hr.2.2.2 hn
  simp only [Option.some.injEq, Addr.mk.injEq, and_true] at e
  obtain ⟨rfl, rfl⟩ := e
  have hcell : ∀ i u, i < 6 → x.cells[i]? = some u → w.cell? ⟨g, k * 6 + i, none⟩ = some u := fun i u hi hu => by
    have := hc (k * 6 + i) u (by rw [flat_at cells_len hx hi]; exact hu)
    rwa [Nat.zero_add] at this
  have hfz : ∀ i, i < 6 → w.frozen? ⟨g, k * 6 + i, none⟩ = false := fun i hi => by
    have := hf g 0 hn rfl (k * 6 + i) (by omega)
    rwa [Nat.zero_add] at this
  exact ⟨⟨hcell 0 _ (by omega) rfl, hcell 1 _ (by omega) rfl, hcell 2 _ (by omega) rfl, hcell 3 _ (by omega) rfl, hcell 4 _ (by omega) rfl, hcell 5 _ (by omega) rfl⟩, hfz 0 (by omega), hfz 1 (by omega), hfz 2 (by omega), hfz 3 (by omega), hfz 4 (by omega), hfz 5 (by omega)⟩
theorem made_zero (n : Nat) : (madeCells (Value.cells (.agg #[.int .i64 0, .int .i64 0, .int .i64 0, .slice none 0 0, .int .i64 0, .slice none 0 0])) (n * 6)).toList = (List.replicate n zeroS).flatMap Slot.cells := by
  refine List.ext_getElem? fun i => ?_
  by_cases hi : i < n * 6
  · have h1 : (List.replicate n zeroS)[i / 6]? = some zeroS := by rw [List.getElem?_replicate, if_pos (by omega)]
    have h2 := flat_at cells_len h1 (show i % 6 < 6 by omega)
    rw [show i / 6 * 6 + i % 6 = i by omega] at h2
    rw [h2]
    have h3 : (madeCells (Value.cells (.agg #[.int .i64 0, .int .i64 0, .int .i64 0, .slice none 0 0, .int .i64 0, .slice none 0 0])) (n * 6)).toList[i]? = some ((Value.cells (.agg #[.int .i64 0, .int .i64 0, .int .i64 0, .slice none 0 0, .int .i64 0, .slice none 0 0]))[i % 6]!) := by
      rw [Array.getElem?_toList]
      unfold madeCells
      rw [Array.getElem?_map, Array.getElem?_range, if_pos hi]
      rfl
    rw [h3]
    have h6 : i % 6 < 6 := by omega
    generalize i % 6 = r at h6 ⊢
    match r, h6 with
    | 0, _ => rfl
    | 1, _ => rfl
    | 2, _ => rfl
    | 3, _ => rfl
    | 4, _ => rfl
    | 5, _ => rfl
  · rw [List.getElem?_eq_none (by rw [Array.length_toList, size_madeCells]; omega), List.getElem?_eq_none (by rw [flat_len cells_len, List.length_replicate]; omega)]
def ToRel (k n c j : Nat) (w wr : World) (ps : List Pld) : Prop :=
  ∃ ts : List Slot, ts.length = j ∧ ts.map (·.p) = ps.take j ∧ AccV 39 6 k wr (.slice (some ⟨k, 0, none⟩) n c) n ((ts ++ List.replicate (n - j) zeroS).flatMap Slot.cells) ∧ (∀ t ∈ ts, SlotO wr t) ∧ Foot ([k] :: ts.map fpS) ∧ Within w.heap.size wr.heap.size ([k] :: ts.map fpS) ∧ Below w.heap.size w wr
set_option maxRecDepth 20000 in
set_option maxHeartbeats 2000000 in
theorem toPeeledS (lo hi : Nat) (A : Option Addr) (n c : Nat) (ps : List Pld) (w : World) (hx : Pool lo hi w A n c ps) (hn : n ≤ 1048576) (hh : ∀ p ∈ ps, p.pk.hd.length ≤ 1048576 ∧ p.pk.bd.length ≤ 1048576) :
    Calls Try.prog 50 #[.slice A n c] w (Im6.CopyD ps w) := by
  obtain ⟨i0, e1, e2, e3, e4⟩ := el_parts elPld
  obtain ⟨w2, hmk, how, hgr⟩ := run_make_full (P := Try.prog) (w := w) w.heap.size 24 39 i0 _ 6 Try.underlying24 e1 e2 e3 .i64 .i64 n (by rw [e4]; omega) (by unfold maxLen; omega) (Nat.le_refl _)
  rw [made_zero] at how
  have hac : AccV 39 6 w.heap.size w2 (.slice (some ⟨w.heap.size, 0, none⟩) n n) n ((List.replicate n zeroS).flatMap Slot.cells) := ⟨n, rfl, how⟩
  have hb2 : Below w.heap.size w w2 := ⟨hgr.os, hgr.tape, hgr.output, hgr.size, fun z hz => hgr.block z hz (by simp)⟩
  have HX := Lib.hid (hx.top (lo' := 0) (Nat.zero_le _))
  have HH := Lib.hid hh
  have HL := Lib.hid hx.len_
  have HR0 : Hid (ToRel w.heap.size n n 0 w w2 ps) := ⟨[], rfl, rfl, hac, fun t h => by simp at h, ⟨by simp, fun f hf => by simp at hf; subst hf; simp⟩, fun f hf z hz => by
    simp at hf; subst hf; simp at hz; subst hz; exact ⟨Nat.le_refl _, hac.lt⟩, hb2⟩
  clear hx hh e1 e2 e3 e4 how hgr hac
  go_enter Try.func50, Try.ntmps50
  go_wp2
  go_loopw [4] (fun i wr => ∃ j : Nat, j ≤ n ∧ i = .int .i64 j ∧ Hid (ToRel w.heap.size n n j w wr ps)) (fun i _ => n - (intOf i).toNat)
  case atStart => exact ⟨0, Nat.zero_le _, rfl, HR0.out⟩
  case round =>
    clear HR0
    obtain ⟨j, hj, rfl, hR⟩ := hrel
    by_cases hlt : j < n
    · obtain ⟨ts, t1, t2, t3, t4, t5, t6, t7⟩ := hR.out
      obtain ⟨b, off, H, e, G, f, rfl, _, _, g0, g1, g2, g3, g4, g5, ih, ig⟩ := (HX.out.below t7 (Nat.le_refl _)).at_ hlt
      have hpm : pldAt ps j ∈ ps := by
        have hl := HL.out
        unfold pldAt
        rw [List.getD_eq_getElem?_getD, List.getElem?_eq_getElem (by omega), Option.getD_some]
        exact List.getElem_mem _
      have hsz := HH.out _ hpm
      have htk : ps.take (j + 1) = ps.take j ++ [pldAt ps j] := (Sp6.take_snoc (by have hl := HL.out; omega)).symm
      obtain ⟨hs1, hs2⟩ := hsz
      generalize pldAt ps j = p at *
      have HT := Lib.hid (And.intro t1 (And.intro t2 (And.intro t4 (And.intro t5 (And.intro t6 t7)))))
      have HTK := Lib.hid htk
      have IH := Lib.hid ih
      have IG := Lib.hid ig
      have T3 := Lib.hid t3
      clear t1 t2 t3 t4 t5 t6 t7 htk hpm ih ig hR
      go_wp2_with fail
      ((with_reducible refine (toPeeled p H G e f _ _ _ _ _ IH.out IG.out hs1 hs2).mono ?_); rintro e w4 ⟨A1, c1, B1, d1, b1, b2, rfl, hl, q1, q2, hb⟩)
      have hk4 := T3.out.lt
      have t3 := T3.out.block (hb.block _ hk4)
      have hzj : (ts ++ List.replicate (n - j) zeroS)[j]? = some zeroS := by
        rw [List.getElem?_append_right (by have := HT.out.1; omega), HT.out.1, Nat.sub_self, List.getElem?_replicate, if_pos (by omega)]
      obtain ⟨⟨m0, m1, m2, m3, m4, m5⟩, f0, f1, f2, f3, f4, f5⟩ := pl_cells t3 hzj
      have S5 : SB w.heap.size w4 ((((((w4.setCell ⟨w.heap.size, j * 6, none⟩ (.int .i64 p.kind)).setCell ⟨w.heap.size, j * 6 + 1, none⟩ (.int .i64 p.next)).setCell ⟨w.heap.size, j * 6 + 2, none⟩ (.int .i64 p.pk.el)).setCell ⟨w.heap.size, j * 6 + 3, none⟩ (.slice A1 p.pk.hd.length c1)).setCell ⟨w.heap.size, j * 6 + 4, none⟩ (.int .i64 p.pk.tag)).setCell ⟨w.heap.size, j * 6 + 5, none⟩ (.slice B1 p.pk.bd.length d1)) := by
        iterate 6 (refine SB.set ?_ _ _)
        exact SB.refl _ _
      have hls := lies_same hl S5 (by omega) (by omega)
      have hset : (ts ++ List.replicate (n - j) zeroS).set j ⟨p, A1, c1, B1, d1, b1, b2⟩ = (ts ++ [⟨p, A1, c1, B1, d1, b1, b2⟩]) ++ List.replicate (n - (j + 1)) zeroS := by
        have h1 := HT.out.1
        rw [List.set_append_right _ _ (by omega), h1, Nat.sub_self, show n - j = n - (j + 1) + 1 by omega, List.replicate_succ, List.set_cons_zero, List.append_assoc]
        rfl
      have hac := put6 t3 ⟨p, A1, c1, B1, d1, b1, b2⟩ (k := j) (by rw [List.length_append, List.length_replicate, HT.out.1]; omega)
      rw [hset] at hac
      have hfy : ∀ z ∈ fpS ⟨p, A1, c1, B1, d1, b1, b2⟩, wr.heap.size ≤ z ∧ z < w4.heap.size := fun z hz => by
        have h2 := lies_lt hl
        rcases List.mem_append.1 hz with hz | hz
        · obtain ⟨hn, rfl⟩ := mem_fp.1 hz
          exact ⟨q1, h2.1 hn⟩
        · obtain ⟨hn, rfl⟩ := mem_fp.1 hz
          exact ⟨q2, h2.2 hn⟩
      have HN : Hid (ToRel w.heap.size n n (j + 1) w ((((((w4.setCell ⟨w.heap.size, j * 6, none⟩ (.int .i64 p.kind)).setCell ⟨w.heap.size, j * 6 + 1, none⟩ (.int .i64 p.next)).setCell ⟨w.heap.size, j * 6 + 2, none⟩ (.int .i64 p.pk.el)).setCell ⟨w.heap.size, j * 6 + 3, none⟩ (.slice A1 p.pk.hd.length c1)).setCell ⟨w.heap.size, j * 6 + 4, none⟩ (.int .i64 p.pk.tag)).setCell ⟨w.heap.size, j * 6 + 5, none⟩ (.slice B1 p.pk.bd.length d1)) ps) := by
        obtain ⟨t1, t2, t4, t5, t6, t7⟩ := HT.out
        have hkt : ∀ t ∈ ts, w.heap.size ∉ fpS t := fun t ht hm => (List.pairwise_cons.1 t5.1).1 (fpS t) (List.mem_map_of_mem ht) w.heap.size (by simp) hm
        refine ⟨ts ++ [⟨p, A1, c1, B1, d1, b1, b2⟩], by simp [t1], by rw [List.map_append, t2, HTK.out]; rfl, hac, fun t ht => ?_, ?_, fun g hg z hz => ?_, S5.bel (t7.trans (hb.mono t7.size)) (Nat.le_refl _)⟩
        · rcases List.mem_append.1 ht with ht | ht
          · refine (t4 t ht).keepC (by rw [S5.size]; exact hb.size) fun z hz => ?_
            have hzl := slot_lt (t4 t ht) z hz
            exact (S5.block z (fun e => hkt t ht (e ▸ hz))).trans (hb.block z hzl)
          · rw [List.mem_singleton] at ht; subst ht
            exact ⟨hls.1, hls.2.1⟩
        · rw [List.map_append, ← List.cons_append]
          refine ⟨List.pairwise_append.2 ⟨t5.1, by simp, fun a ha g hg => ?_⟩, fun g hg => ?_⟩
          · rw [List.map_singleton, List.mem_singleton] at hg
            subst hg
            intro z z1 z2
            have := t6 a ha z z1
            have := hfy z z2
            omega
          · rcases List.mem_append.1 hg with hg | hg
            · exact t5.2 g hg
            · rw [List.map_singleton, List.mem_singleton] at hg
              subst hg
              exact Sp6.slot_nodup _ hl.2.2
        · rw [S5.size]
          rw [List.map_append, ← List.cons_append] at hg
          have hbs := hb.size
          rcases List.mem_append.1 hg with hg | hg
          · have := t6 g hg z hz
            omega
          · rw [List.map_singleton, List.mem_singleton] at hg
            subst hg
            have := hfy z hz
            have := t7.size
            omega
      clear t3 hac hls hl hb S5 hset hfy HT HTK IH IG T3 g0 g1 g2 g3 g4 g5 hzj
      go_wp2
      go_roundw
      case rel => exact ⟨j + 1, by omega, by go_num, HN.out⟩
      case measure => simp [intOf]; omega
    · obtain rfl : j = n := by omega
      go_wp2
      go_ret
      obtain ⟨ts, t1, t2, t3, t4, t5, t6, t7⟩ := hR.out
      have hl := HL.out
      rw [Nat.sub_self, List.replicate_zero, List.append_nil] at t3
      rw [List.take_of_length_le (by omega)] at t2
      subst hl
      exact ⟨some ⟨w.heap.size, 0, none⟩, ps.length, rfl, .inr ⟨w.heap.size, ts, t3, t2, t4, t5, t6⟩, t7⟩
theorem own_blk {lo hi n c : Nat} {w : World} {A : Option Addr} {xs : List Int} (h : Il.Own lo hi w A n c xs) : ∃ a, Il.Own a (a + 1) w A n c xs ∧ (0 < n → lo ≤ a ∧ a < hi) := by
  rcases Nat.eq_zero_or_pos n with rfl | hn
  · have hx : xs = [] := List.eq_nil_of_length_eq_zero h.1.1
    subst hx
    exact ⟨0, Own.nil_ h.1.2.2.1, fun h => absurd h (by omega)⟩
  · obtain ⟨a, q1, q2, q3⟩ := own_one h hn
    exact ⟨a, q3, fun _ => ⟨q1, q2⟩⟩
theorem own_same {b lo hi n c : Nat} {A : Option Addr} {w w' : World} {xs : List Int} (h : Il.Own lo hi w A n c xs) (hs : SB b w w') (h1 : b < lo ∨ hi ≤ b) : Il.Own lo hi w' A n c xs :=
  h.keep (by rw [hs.size]; exact Nat.le_refl _) (fun z q1 q2 _ => hs.block z (by omega))
def ToMixP (x : Mx) (w : World) (e : Ending) (w' : World) : Prop :=
  ∃ A c B d G, e = .returned (.agg #[.int .i64 x.sec, .slice A x.seen.length c, .slice B x.pool.length d]) ∧ MixO w' A x.seen.length c B x.pool.length d x G ∧ Within w.heap.size w'.heap.size G ∧ Below w.heap.size w w'
set_option maxRecDepth 20000 in
set_option maxHeartbeats 1000000 in
theorem toMix (x : Mx) (A B : Option Addr) (c d lo hi : Nat) (w : World) (hx : MixR lo hi w A x.seen.length c B x.pool.length d x) (hn : x.seen.length ≤ 1048576) (hm : x.pool.length ≤ 1048576) (hh : ∀ p ∈ x.pool, p.pk.hd.length ≤ 1048576 ∧ p.pk.bd.length ≤ 1048576) :
    Calls Try.prog 17 #[.agg #[.int .i64 x.sec, .slice A x.seen.length c, .slice B x.pool.length d]] w (ToMixP x w) := by
  obtain ⟨z0, z1, z2, zs, zb⟩ := three_blocks w #[.int .i64 x.sec, .slice A x.seen.length c, .slice B x.pool.length d] #[.int .i64 0, .slice none 0 0, .slice none 0 0] #[.int .i64 x.sec, .slice none 0 0, .slice none 0 0] 42 26 26
  have HX := Lib.hid ((hx.top (lo2 := 0) (Nat.zero_le _)).below zb (Nat.le_refl _))
  have Z0 := Lib.hid z0
  have Z1 := Lib.hid z1
  have Z2 := Lib.hid z2
  have BB := Lib.hid zb
  have ZS := Lib.hid zs
  have HH := Lib.hid hh
  clear hx z0 z1 z2 zs zb hh
  go_enter Try.func17, Try.ntmps17
  go_wp2_with fail
  have hs3 : w.heap.size + 1 + 1 < (((w.alloc (.cells #[.int .i64 x.sec, .slice A x.seen.length c, .slice B x.pool.length d] 42)).alloc (.cells #[.int .i64 0, .slice none 0 0, .slice none 0 0] 26)).alloc (.cells #[.int .i64 x.sec, .slice none 0 0, .slice none 0 0] 26)).heap.size := by rw [ZS.out]; omega
  clear ZS
  generalize (((w.alloc (.cells #[.int .i64 x.sec, .slice A x.seen.length c, .slice B x.pool.length d] 42)).alloc (.cells #[.int .i64 0, .slice none 0 0, .slice none 0 0] 26)).alloc (.cells #[.int .i64 x.sec, .slice none 0 0, .slice none 0 0] 26)) = w3 at *
  ((with_reducible refine (Hlp.toIntS _ _ _ _ _ x.seen _ HX.out.keys (by omega)).mono ?_); rintro e w4 ⟨A1, c1, rfl, ho, hb⟩)
  have hs4 := hb.size
  have S5 : Hid (SB (w.heap.size + 1 + 1) w4 (w4.setCell ⟨w.heap.size + 1 + 1, 1, none⟩ (.slice A1 x.seen.length c1))) := (SB.refl _ _).set _ _
  have O5 := Lib.hid (own_same ho S5.out (.inl (by omega)))
  have hsz5 := S5.out.size
  have P5 : Hid (Pool 0 w.heap.size (w4.setCell ⟨w.heap.size + 1 + 1, 1, none⟩ (.slice A1 x.seen.length c1)) B x.pool.length d x.pool) := (HX.out.pl.below hb (Nat.le_refl _)).keep (Nat.le_of_eq hsz5.symm) (fun z q1 q2 q3 => S5.out.block z (by omega))
  have Y0 : Hid (Blk (w4.setCell ⟨w.heap.size + 1 + 1, 1, none⟩ (.slice A1 x.seen.length c1)) w.heap.size #[.int .i64 x.sec, .slice A x.seen.length c, .slice B x.pool.length d] 42) := (S5.out.block _ (by omega)).trans (Z0.out.below hb (Nat.le_refl _))
  have Y1 : Hid (Blk (w4.setCell ⟨w.heap.size + 1 + 1, 1, none⟩ (.slice A1 x.seen.length c1)) (w.heap.size + 1) #[.int .i64 0, .slice none 0 0, .slice none 0 0] 26) := (S5.out.block _ (by omega)).trans (Z1.out.below hb (Nat.le_refl _))
  have Y2 := Lib.hid (blk3_set1 (v := .slice A1 x.seen.length c1) (Z2.out.below hb (Nat.le_refl _)))
  have B5 := Lib.hid (S5.out.bel (BB.out.trans (hb.mono BB.out.size)) (by omega))
  obtain ⟨k0, k1, k2, kf⟩ := three_cells (Z0.out.below hb (Nat.le_refl _))
  obtain ⟨m0, m1, m2, mf⟩ := three_cells (Z2.out.below hb (Nat.le_refl _))
  clear ho hb HX Z0 Z1 Z2 BB S5
  go_upto_region 4 with (fail)
  clear k0 k1 k2 kf m0 m1 m2 mf
  generalize (w4.setCell ⟨w.heap.size + 1 + 1, 1, none⟩ (.slice A1 x.seen.length c1)) = w5 at *
  obtain ⟨k0, k1, k2, kf⟩ := three_cells Y0.out
  go_wp2_with fail
  ((with_reducible refine (toPeeledS _ _ _ _ _ x.pool _ P5.out hm HH.out).mono ?_); rintro e w6 ⟨B1, d1, rfl, hpd, hb⟩)
  clear k0 k1 k2 kf
  have hs6 := hb.size
  have S7 : Hid (SB (w.heap.size + 1 + 1) w6 (w6.setCell ⟨w.heap.size + 1 + 1, 2, none⟩ (.slice B1 x.pool.length d1))) := (SB.refl _ _).set _ _
  have HPD := Lib.hid hpd
  have O6 := Lib.hid (own_same (O5.out.below hb (Nat.le_refl _)) S7.out (.inl (by omega)))
  have X1 : Hid (Blk (w6.setCell ⟨w.heap.size + 1 + 1, 2, none⟩ (.slice B1 x.pool.length d1)) (w.heap.size + 1) #[.int .i64 0, .slice none 0 0, .slice none 0 0] 26) := (S7.out.block _ (by omega)).trans (Y1.out.below hb (Nat.le_refl _))
  have X2 := Lib.hid (blk3_set2 (v := .slice B1 x.pool.length d1) (Y2.out.below hb (Nat.le_refl _)))
  have B7 := Lib.hid (S7.out.bel (B5.out.trans (hb.mono B5.out.size)) (by omega))
  obtain ⟨m0, m1, m2, mf⟩ := three_cells (Y2.out.below hb (Nat.le_refl _))
  clear hb hpd O5 P5 Y0 Y1 Y2 B5
  go_upto_region 5 with (fail)
  clear m0 m1 m2 mf
  generalize (w6.setCell ⟨w.heap.size + 1 + 1, 2, none⟩ (.slice B1 x.pool.length d1)) = w7 at *
  obtain ⟨k0, k1, k2, kf⟩ := three_cells X1.out
  obtain ⟨m0, m1, m2, mf⟩ := three_cells X2.out
  go_wp2
  refine bodyPost_ret (v := .agg #[.int .i64 x.sec, .slice A1 x.seen.length c1, .slice B1 x.pool.length d1]) ?_ rfl ?_
  · rw [results_cell1' rfl]
    go_simp
  · have S8 : SB (w.heap.size + 1) w7 (((w7.setCell ⟨w.heap.size + 1, 0, none⟩ (.int .i64 x.sec)).setCell ⟨w.heap.size + 1, 1, none⟩ (.slice A1 x.seen.length c1)).setCell ⟨w.heap.size + 1, 2, none⟩ (.slice B1 x.pool.length d1)) := by
      iterate 3 (refine SB.set ?_ _ _)
      exact SB.refl _ _
    obtain ⟨A9, c9, G, e9, hpo, hwi⟩ := HPD.out.own
    simp only [Value.slice.injEq, true_and] at e9
    obtain ⟨rfl, rfl⟩ := e9
    have e7 := S7.out.size
    have e8 := S8.size
    have hpo8 := hpo.keep (w' := (((w7.setCell ⟨w.heap.size + 1, 0, none⟩ (.int .i64 x.sec)).setCell ⟨w.heap.size + 1, 1, none⟩ (.slice A1 x.seen.length c1)).setCell ⟨w.heap.size + 1, 2, none⟩ (.slice B1 x.pool.length d1))) (by omega) (fun g hg z hz => by have := hwi g hg z hz; exact (S8.block z (by omega)).trans (S7.out.block z (by omega)))
    obtain ⟨a, ho9, ha9⟩ := own_blk (own_same O6.out S8 (.inl (by omega)))
    obtain ⟨G2, hG, hGw⟩ := Sl.mix_of (x := x) (lo := w.heap.size) (hi := (((w7.setCell ⟨w.heap.size + 1, 0, none⟩ (.int .i64 x.sec)).setCell ⟨w.heap.size + 1, 1, none⟩ (.slice A1 x.seen.length c1)).setCell ⟨w.heap.size + 1, 2, none⟩ (.slice B1 x.pool.length d1)).heap.size) ho9 hpo8 (fun g hg z hz => by have := hwi g hg z hz; omega) (fun h0 => by
      have := ha9 h0
      exact ⟨by omega, by omega, fun g hg hm => by have := hwi g hg a hm; omega⟩)
    exact ⟨A1, c1, B1, d1, G2, rfl, hG, hGw, S8.bel B7.out (by omega)⟩

end HlpA
end Go.Proofs.Ytnjcpbkpcmemeac
