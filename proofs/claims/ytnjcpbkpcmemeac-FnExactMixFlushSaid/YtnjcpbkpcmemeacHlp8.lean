/-
  Contracts of the exact laws' helpers on pools and mixes that a call owns: marking, and looking for marks.
-/
import Derived.Test.YtnjcpbkpcmemeacHlp7
import Derived.Test.YtnjcpbkpcmemeacSlo
import Derived.Deep.Cut
namespace Go.Proofs.Ytnjcpbkpcmemeac
open Go.RowKit
namespace Hlp8
open Il Pm Pq LawB Hlp5 Hlp6 Sl Sp6

theorem own_setC {b n c : Nat} {w : World} {A : Option Addr} {xs : List Int} (h : Il.Own b (b + 1) w A n c xs) {q : Addr} (hq : 0 < n → b ≠ q.block) (v : Value) : Il.Own b (b + 1) (w.setCell q v) A n c xs :=
  own_keepC h (by simp [World.setCell]) fun hn => Below.heap_setCell w q v b (hq hn)
/-- Marking a slice in a block of its own: where it is empty, nothing is written. -/
def MarkC (b : Nat) (A : Option Addr) (n c : Nat) (k0 : Int) (w : World) (e : Ending) (w' : World) : Prop :=
  e = .returned (.int .i64 (k0 + n)) ∧ Il.Own b (b + 1) w' A n c (marks k0 n) ∧ w'.os = w.os ∧ w'.tape = w.tape ∧ w'.output = w.output ∧ w'.heap.size = w.heap.size ∧ ∀ x, (0 < n → x ≠ b) → w'.heap[x]? = w.heap[x]?
theorem markC (b : Nat) (A : Option Addr) (n c : Nat) (xs : List Int) (k0 : Int) (w : World) (hx : Il.Own b (b + 1) w A n c xs) (hn : n ≤ 10000000) (h0 : 0 ≤ k0) (h1 : k0 ≤ 10000000) :
    Calls Try.prog 61 #[.slice A n c, .int .i64 k0] w (MarkC b A n c k0 w) := by
  obtain ⟨lo, hi, ho, e0, e1⟩ := own_rng hx
  refine (Hlp.markIntS lo hi A n c xs k0 w ho hn h0 h1).mono ?_
  rintro e w' ⟨rfl, hm, hk⟩
  refine ⟨rfl, own_back hm (fun h => ⟨(e1 h).1, (e1 h).2.1⟩), hk.os, hk.tape, hk.output, hk.size, fun x hx => hk.block x ?_⟩
  rcases Nat.eq_zero_or_pos n with q | q
  · have := e0 q; omega
  · have := e1 q; have := hx q; omega

theorem setr {lo hi b off n c k r : Nat} {w : World} {vs : List Value} (h : RowO lo hi w (some ⟨b, off, none⟩) n c 6 vs) (hk : k < n) (hr : r < 6) (v : Value) :
    RowO lo hi (w.setCell ⟨b, off + k * 6 + r, none⟩ v) (some ⟨b, off, none⟩) n c 6 (vs.set (k * 6 + r) v) := by
  rw [Nat.add_assoc]
  exact h.set_ (by omega) v

def MarkPs (A : Option Addr) (n c : Nat) (ps : List Pld) (G : List (List Nat)) (k0 : Int) (w : World) (e : Ending) (w' : World) : Prop :=
  e = .returned (.int .i64 (k0 + total ps)) ∧ PoolO w' A n c (markPool k0 ps) G ∧ KeptG G w w'
def MarkRel (A : Option Addr) (n c : Nat) (ps : List Pld) (G : List (List Nat)) (k0 : Int) (w wr : World) (j : Nat) : Prop :=
  PoolO wr A n c (markPool k0 (ps.take j) ++ ps.drop j) G ∧ KeptG G w wr
theorem pld_drop {ps : List Pld} {j : Nat} (k : Int) (h : j < ps.length) : pldAt (markPool k (ps.take j) ++ ps.drop j) j = pldAt ps j := by
  have hl : (markPool k (ps.take j)).length = j := by rw [markPool_len, List.length_take]; omega
  unfold pldAt
  rw [List.getD_eq_getElem?_getD, List.getElem?_append_right (by omega), hl, Nat.sub_self, List.getElem?_drop, Nat.add_zero, List.getD_eq_getElem?_getD]
theorem keptG_refl (G : List (List Nat)) (w : World) : KeptG G w w := ⟨rfl, rfl, rfl, Nat.le_refl _, fun _ _ _ => rfl⟩
set_option maxRecDepth 20000 in
set_option maxHeartbeats 2000000 in
theorem markPeeledS (A : Option Addr) (n c : Nat) (ps : List Pld) (G : List (List Nat)) (k0 : Int) (w : World) (hx : PoolO w A n c ps G) (ht : total ps ≤ 4500000) (h0 : 0 ≤ k0) (h1 : k0 ≤ 5500000) :
    Calls Try.prog 29 #[.slice A n c, .int .i64 k0] w (MarkPs A n c ps G k0 w) := by
  have HL := Lib.hid hx.len_
  have hc1 : c ≤ maxLen ∧ n ≤ c := by
    obtain ⟨b, ss, _, h2, _⟩ := hx
    exact ⟨h2.1.2.2.1, h2.1.2.1⟩
  obtain ⟨hc1, hc2⟩ := hc1
  unfold maxLen at hc1
  have HR0 : Hid (MarkRel A n c ps G k0 w w 0) := ⟨by simpa [markPool] using hx, keptG_refl _ _⟩
  clear hx
  go_enter Try.func29, Try.ntmps29
  go_wp2
  go_loopw [1, 5] (fun q i wr => ∃ j : Nat, j ≤ n ∧ i = .int .i64 j ∧ q = .int .i64 (k0 + total (ps.take j)) ∧ Hid (MarkRel A n c ps G k0 w wr j)) (fun _ i _ => n - (intOf i).toNat)
  case atStart => exact ⟨0, Nat.zero_le _, rfl, by simp [total], HR0.out⟩
  case round =>
    obtain ⟨j, hj, rfl, rfl, hR⟩ := hrel
    clear HR0
    by_cases hlj : j < n
    · have hjp : j < ps.length := by rw [HL.out]; exact hlj
      have hdr := pld_drop k0 hjp
      have hst := marked_step k0 hjp
      have htk := total_take hjp
      have htl := total_le (ps := ps) (j + 1)
      obtain ⟨b, off, ss, s, rfl, hmap, hs, hsp, hrow, hslots, rfl, hfoot⟩ := hR.out.1.open_ hlj
      obtain ⟨⟨c0, c1, c2, c3, c4, c5⟩, f0, f1, f2, f3, f4, f5⟩ := row_cells hrow hlj hs
      obtain ⟨d1, d2, d3, d4⟩ := foot_at hfoot hs (by omega)
      have hso := hslots s (List.mem_of_getElem? hs)
      rw [hdr] at hsp
      rw [← hsp] at hst htk
      unfold weight at htk
      have HST := Lib.hid hst
      have HTK := Lib.hid htk
      have htb : total (ps.take j) + (4 + s.p.pk.hd.length + s.p.pk.bd.length) ≤ 4500000 := by omega
      have HMAP := Lib.hid hmap
      have HS := Lib.hid hs
      have HSL := Lib.hid hslots
      have HFT := Lib.hid hfoot
      have HKG := Lib.hid hR.out.2
      have hbw := rowO_ltC hrow (by omega)
      generalize hkk : k0 + (total (ps.take j) : Int) = k at *
      have hk0 : 0 ≤ k := by omega
      have hk1 : k + (4 + s.p.pk.hd.length + s.p.pk.bd.length) ≤ 10000000 := by omega
      have HKK := Lib.hid hkk
      have R3 := Lib.hid (setr (r := 2) (setr (r := 1) (hrow.set_ (i := j * 6) (by omega) (.int .i64 k)) hlj (by omega) (.int .i64 (k + 1))) hlj (by omega) (.int .i64 (k + 1 + 1)))
      have O3 := Lib.hid (own_setC (q := ⟨b, off + j * 6 + 2, none⟩) (own_setC (q := ⟨b, off + j * 6 + 1, none⟩) (own_setC (q := ⟨b, off + j * 6, none⟩) hso.1 d1 (.int .i64 k)) d1 (.int .i64 (k + 1))) d1 (.int .i64 (k + 1 + 1)))
      have P3 := Lib.hid (own_setC (q := ⟨b, off + j * 6 + 2, none⟩) (own_setC (q := ⟨b, off + j * 6 + 1, none⟩) (own_setC (q := ⟨b, off + j * 6, none⟩) hso.2 d2 (.int .i64 k)) d2 (.int .i64 (k + 1))) d2 (.int .i64 (k + 1 + 1)))
      have K3 : Hid (∀ x, x ≠ b → (((wr.setCell ⟨b, off + j * 6, none⟩ (.int .i64 k)).setCell ⟨b, off + j * 6 + 1, none⟩ (.int .i64 (k + 1))).setCell ⟨b, off + j * 6 + 2, none⟩ (.int .i64 (k + 1 + 1))).heap[x]? = wr.heap[x]?) := fun x hx =>
        (Below.heap_setCell _ _ _ _ hx).trans ((Below.heap_setCell _ _ _ _ hx).trans (Below.heap_setCell _ _ _ _ hx))
      have Z3 : Hid ((((wr.setCell ⟨b, off + j * 6, none⟩ (.int .i64 k)).setCell ⟨b, off + j * 6 + 1, none⟩ (.int .i64 (k + 1))).setCell ⟨b, off + j * 6 + 2, none⟩ (.int .i64 (k + 1 + 1))).heap.size = wr.heap.size) := by show (((wr.setCell ⟨b, off + j * 6, none⟩ (.int .i64 k)).setCell ⟨b, off + j * 6 + 1, none⟩ (.int .i64 (k + 1))).setCell ⟨b, off + j * 6 + 2, none⟩ (.int .i64 (k + 1 + 1))).heap.size = wr.heap.size; simp [World.setCell]
      have T3 : Hid ((((wr.setCell ⟨b, off + j * 6, none⟩ (.int .i64 k)).setCell ⟨b, off + j * 6 + 1, none⟩ (.int .i64 (k + 1))).setCell ⟨b, off + j * 6 + 2, none⟩ (.int .i64 (k + 1 + 1))).os = wr.os ∧ (((wr.setCell ⟨b, off + j * 6, none⟩ (.int .i64 k)).setCell ⟨b, off + j * 6 + 1, none⟩ (.int .i64 (k + 1))).setCell ⟨b, off + j * 6 + 2, none⟩ (.int .i64 (k + 1 + 1))).tape = wr.tape ∧ (((wr.setCell ⟨b, off + j * 6, none⟩ (.int .i64 k)).setCell ⟨b, off + j * 6 + 1, none⟩ (.int .i64 (k + 1))).setCell ⟨b, off + j * 6 + 2, none⟩ (.int .i64 (k + 1 + 1))).output = wr.output) := ⟨rfl, rfl, rfl⟩
      clear hrow hso hmap hs hslots hfoot hR hkk hst htk hdr hsp
      go_wp2_with fail
      clear c0 c1 c2 c3 c4 c5 f0 f1 f2 f3 f4 f5
      generalize (((wr.setCell ⟨b, off + j * 6, none⟩ (.int .i64 k)).setCell ⟨b, off + j * 6 + 1, none⟩ (.int .i64 (k + 1))).setCell ⟨b, off + j * 6 + 2, none⟩ (.int .i64 (k + 1 + 1))) = w3 at *
      ((with_reducible refine (markC s.h s.A s.p.pk.hd.length s.c _ (k + 1 + 1 + 1) _ O3.out (by omega) (by omega) (by omega)).mono ?_); rintro e w4 ⟨rfl, m1, u1, u2, u3, u4, u5⟩)
      have R4 := Lib.hid (rowO_keepC R3.out (Nat.le_of_eq u4.symm) (fun _ => u5 b (fun q => Ne.symm (d1 q))))
      have P4 := Lib.hid (own_keepC P3.out (Nat.le_of_eq u4.symm) (fun q => u5 s.g (fun q2 => Ne.symm (d3 q2 q))))
      have M1 := Lib.hid m1
      have U4 := Lib.hid (And.intro u1 (And.intro u2 (And.intro u3 (And.intro u4 u5))))
      clear m1 u1 u2 u3 u4 u5 O3 P3
      have e4 : (((ss.flatMap Slot.cells).set (j * 6) (.int .i64 k)).set (j * 6 + 1) (.int .i64 (k + 1))).set (j * 6 + 2) (.int .i64 (k + 1 + 1)) = (ss.set j ⟨⟨k, k + 1, ⟨k + 1 + 1, s.p.pk.hd, s.p.pk.tag, s.p.pk.bd⟩⟩, s.A, s.c, s.B, s.d, s.h, s.g⟩).flatMap Slot.cells := by
        rw [← flat_sets (v0 := .int .i64 k) (v1 := .int .i64 (k + 1)) (v2 := .int .i64 (k + 1 + 1)) (v4 := .int .i64 s.p.pk.tag) HS.out rfl]
        refine (List.ext_getElem? fun i => ?_)
        by_cases hi : j * 6 + 4 = i
        · subst hi
          have q4 := flat_at cells_len HS.out (k := 4) (by omega)
          have hlt4 : j * 6 + 4 < (ss.flatMap Slot.cells).length := (List.getElem?_eq_some_iff.1 (q4.trans rfl)).1
          rw [List.getElem?_set_self (by simpa using hlt4), List.getElem?_set_ne (by omega), List.getElem?_set_ne (by omega), List.getElem?_set_ne (by omega), q4]
          rfl
        · rw [List.getElem?_set_ne hi]
      have hsj : (ss.set j ⟨⟨k, k + 1, ⟨k + 1 + 1, s.p.pk.hd, s.p.pk.tag, s.p.pk.bd⟩⟩, s.A, s.c, s.B, s.d, s.h, s.g⟩)[j]? = some ⟨⟨k, k + 1, ⟨k + 1 + 1, s.p.pk.hd, s.p.pk.tag, s.p.pk.bd⟩⟩, s.A, s.c, s.B, s.d, s.h, s.g⟩ := List.getElem?_set_self (List.getElem?_eq_some_iff.1 HS.out).1
      have R4b := R4.out
      rw [e4] at R4b
      obtain ⟨⟨c0, c1, c2, c3, c4, c5⟩, f0, f1, f2, f3, f4, f5⟩ := row_cells R4b hlj hsj
      dsimp only at c0 c1 c2 c3 c4 c5
      clear e4 hsj R4b
      have R5 := Lib.hid (setr (r := 4) R4.out hlj (by omega) (.int .i64 (k + 1 + 1 + 1 + s.p.pk.hd.length)))
      have M5 := Lib.hid (own_setC (q := ⟨b, off + j * 6 + 4, none⟩) M1.out d1 (.int .i64 (k + 1 + 1 + 1 + s.p.pk.hd.length)))
      have P5 := Lib.hid (own_setC (q := ⟨b, off + j * 6 + 4, none⟩) P4.out d2 (.int .i64 (k + 1 + 1 + 1 + s.p.pk.hd.length)))
      have K5 : Hid (∀ x, x ≠ b → (w4.setCell ⟨b, off + j * 6 + 4, none⟩ (.int .i64 (k + 1 + 1 + 1 + s.p.pk.hd.length))).heap[x]? = w4.heap[x]?) := fun x hx => Below.heap_setCell _ _ _ _ hx
      have Z5 : Hid ((w4.setCell ⟨b, off + j * 6 + 4, none⟩ (.int .i64 (k + 1 + 1 + 1 + s.p.pk.hd.length))).heap.size = w4.heap.size) := by show _ = w4.heap.size; simp [World.setCell]
      have T5 : Hid ((w4.setCell ⟨b, off + j * 6 + 4, none⟩ (.int .i64 (k + 1 + 1 + 1 + s.p.pk.hd.length))).os = w4.os ∧ (w4.setCell ⟨b, off + j * 6 + 4, none⟩ (.int .i64 (k + 1 + 1 + 1 + s.p.pk.hd.length))).tape = w4.tape ∧ (w4.setCell ⟨b, off + j * 6 + 4, none⟩ (.int .i64 (k + 1 + 1 + 1 + s.p.pk.hd.length))).output = w4.output) := ⟨rfl, rfl, rfl⟩
      go_wp2_with fail
      clear c0 c1 c2 c3 c4 c5 f0 f1 f2 f3 f4 f5
      generalize (w4.setCell ⟨b, off + j * 6 + 4, none⟩ (.int .i64 (k + 1 + 1 + 1 + s.p.pk.hd.length))) = w5 at *
      ((with_reducible refine (markC s.g s.B s.p.pk.bd.length s.d _ (k + 1 + 1 + 1 + s.p.pk.hd.length + 1) _ P5.out (by omega) (by omega) (by omega)).mono ?_); rintro e w6 ⟨rfl, m2, u1, u2, u3, u4, u5⟩)
      have e3 : k + 1 + 1 + 1 = k + 3 := by omega
      have e4 : k + 1 + 1 + 1 + (s.p.pk.hd.length : Int) + 1 = k + 4 + s.p.pk.hd.length := by omega
      have R6 := rowO_keepC R5.out (Nat.le_of_eq u4.symm) (fun _ => u5 b (fun q => Ne.symm (d2 q)))
      have M6 := own_keepC M5.out (Nat.le_of_eq u4.symm) (fun q => u5 s.h (fun q2 => d3 q q2))
      rw [e4] at m2
      rw [e3] at M6
      rw [flat_sets (s' := ⟨markPld k s.p, s.A, s.c, s.B, s.d, s.h, s.g⟩) HS.out (by
        simp only [Slot.cells, markPld, marks_len]
        rw [e3, show k + 1 + 1 = k + 2 by omega])] at R6
      have HN : Hid (MarkRel (some ⟨b, off, none⟩) n c ps (fp n b :: ss.map fpS) k0 w w6 (j + 1)) := by
        have hsz : wr.heap.size ≤ w6.heap.size := by rw [u4, Z5.out, U4.out.2.2.2.1, Z3.out]; exact Nat.le_refl _
        have hblk : ∀ x, x ≠ b → (0 < s.p.pk.hd.length → x ≠ s.h) → (0 < s.p.pk.bd.length → x ≠ s.g) → w6.heap[x]? = wr.heap[x]? := fun x q1 q2 q3 =>
          (u5 x q3).trans ((K5.out x q1).trans ((U4.out.2.2.2.2 x q2).trans (K3.out x q1)))
        have hp := PoolO.put (p' := markPld k s.p) HSL.out HFT.out HS.out (by omega) R6 (by simp [markPld, marks_len]) (by simp [markPld, marks_len])
          ⟨by simpa [markPld, marks_len] using M6, by simpa [markPld, marks_len] using m2⟩ hsz (fun x _ => hblk x)
        rw [HMAP.out, HST.out] at hp
        refine ⟨hp, u1.trans (T5.out.1.trans (U4.out.1.trans (T3.out.1.trans HKG.out.os))), u2.trans (T5.out.2.1.trans (U4.out.2.1.trans (T3.out.2.1.trans HKG.out.tape))), u3.trans (T5.out.2.2.trans (U4.out.2.2.1.trans (T3.out.2.2.trans HKG.out.output))), Nat.le_trans HKG.out.size hsz, fun x hx hG => ?_⟩
        have hsm := List.mem_cons_of_mem (fp n b) (List.mem_map_of_mem (f := fpS) (List.mem_of_getElem? HS.out))
        refine (hblk x (fun e => hG _ List.mem_cons_self (mem_fp.2 ⟨by omega, e⟩)) (fun q e => hG _ hsm (List.mem_append.2 (.inl (mem_fp.2 ⟨q, e⟩)))) (fun q e => hG _ hsm (List.mem_append.2 (.inr (mem_fp.2 ⟨q, e⟩))))).trans (HKG.out.block x hx hG)
      have HE : Hid (k + 1 + 1 + 1 + (s.p.pk.hd.length : Int) + 1 + s.p.pk.bd.length = k0 + (total (ps.take (j + 1)) : Int)) := by
        have q1 := HTK.out
        have q2 := HKK.out
        show _ = _
        omega
      clear e3 e4 R6 M6 m2 u1 u2 u3 u4 u5 R5 M5 P5 K5 Z5 T5 R4 P4 M1 U4 K3 Z3 T3 R3 HKG HFT HSL HS HMAP HST
      go_wp2
      go_roundw
      case rel => exact ⟨j + 1, by omega, by go_num, by rw [HE.out], HN.out⟩
      case measure => simp [intOf]; omega
    · obtain rfl : j = n := by omega
      have HP : Hid (MarkPs A j c ps G k0 w (.returned (.int .i64 (k0 + total (ps.take j)))) wr) := by
        have h1 := hR.out.1
        rw [List.take_of_length_le (by rw [HL.out]; exact Nat.le_refl _), List.drop_of_length_le (by rw [HL.out]; exact Nat.le_refl _), List.append_nil] at h1
        refine ⟨by rw [List.take_of_length_le (by rw [HL.out]; exact Nat.le_refl _)], h1, hR.out.2⟩
      clear hR hlj
      go_wp2
      go_ret
      exact HP.out

theorem pld_mark {ps : List Pld} {j : Nat} (k : Int) (h : j < ps.length) : pldAt (markPool k ps) j = markPld (k + total (ps.take j)) (pldAt ps j) := by
  induction ps generalizing k j with
  | nil => simp at h
  | cons p ps ih =>
    cases j with
    | zero => simp [pldAt, markPool, total]
    | succ j =>
      have h2 := ih (j := j) (k + weight p) (by simpa using h)
      have e1 : pldAt (markPool k (p :: ps)) (j + 1) = pldAt (markPool (k + weight p) ps) j := rfl
      have e2 : pldAt (p :: ps) (j + 1) = pldAt ps j := rfl
      have e3 : k + (weight p : Int) + (total (ps.take j) : Int) = k + (total ((p :: ps).take (j + 1)) : Int) := by unfold total; simp; omega
      rw [e1, h2, e2, e3]

set_option maxRecDepth 20000 in
set_option maxHeartbeats 1000000 in
theorem heldPeeledS (lo hi : Nat) (A : Option Addr) (n c : Nat) (ps : List Pld) (k0 : Int) (w : World) (hx : Pool lo hi w A n c (markPool k0 ps)) (ht : total ps ≤ 4500000) (h0 : 0 ≤ k0) (h1 : k0 ≤ 5500000) :
    Calls Try.prog 30 #[.slice A n c, .int .i64 k0] w fun e w' => e = .returned (.int .i64 (k0 + total ps)) ∧ w = w' := by
  have hl := hx.len_
  rw [markPool_len] at hl
  have HL := Lib.hid hl
  have hc1 := hx.max_
  have hc2 := hx.cap_
  unfold maxLen at hc1
  have HX := Lib.hid hx
  clear hx hl
  go_enter Try.func30, Try.ntmps30
  go_wp2
  go_loop [1, 5] (fun q i => ∃ j : Nat, j ≤ n ∧ i = .int .i64 j ∧ q = .int .i64 (k0 + total (ps.take j))) (fun _ i => n - (intOf i).toNat)
  case atStart => exact ⟨0, Nat.zero_le _, rfl, by simp [total]⟩
  case round =>
    obtain ⟨j, hj, rfl, rfl⟩ := hrel
    by_cases hlj : j < n
    · have hjp : j < ps.length := by rw [HL.out]; exact hlj
      have htk := total_take hjp
      have htl := total_le (ps := ps) (j + 1)
      obtain ⟨b, off, H, ch, G, cg, rfl, _, _, c0, c1, c2, c3, c4, c5, ih, ig⟩ := HX.out.at_ hlj
      rw [pld_mark k0 hjp] at c0 c1 c2 c3 c4 c5 ih ig
      unfold weight at htk
      have htb : total (ps.take j) + (4 + (pldAt ps j).pk.hd.length + (pldAt ps j).pk.bd.length) ≤ 4500000 := by omega
      have HTK := Lib.hid htk
      generalize hkk : k0 + (total (ps.take j) : Int) = k at *
      generalize pldAt ps j = p at *
      have HE : Hid (k + 1 + 1 + 1 + (p.pk.hd.length : Int) + 1 + p.pk.bd.length = k0 + (total (ps.take (j + 1)) : Int)) := by
        have q1 := HTK.out
        show _ = _
        omega
      have hk0 : 0 ≤ k := by omega
      have hk1 : k + (4 + p.pk.hd.length + p.pk.bd.length) ≤ 10000000 := by omega
      simp only [markPld, marks_len] at c0 c1 c2 c3 c4 c5 ih ig
      rw [show k + 2 = k + 1 + 1 by omega] at c2
      rw [show k + 3 = k + 1 + 1 + 1 by omega] at c4 ih
      rw [show k + 4 + (p.pk.hd.length : Int) = k + 1 + 1 + 1 + p.pk.hd.length + 1 by omega] at ig
      have IH := Lib.hid ih
      have IG := Lib.hid ig
      clear ih ig hkk htk htl
      go_wp2_with fail
      ((with_reducible refine (Hlp.heldIntS _ _ _ _ _ (k + 1 + 1 + 1) _ IH.out (by omega) (by omega) (by omega)).mono ?_); rintro e w1 ⟨rfl, rfl⟩)
      go_wp2_with fail
      ((with_reducible refine (Hlp.heldIntS _ _ _ _ _ (k + 1 + 1 + 1 + p.pk.hd.length + 1) _ IG.out (by omega) (by omega) (by omega)).mono ?_); rintro e w1 ⟨rfl, rfl⟩)
      clear c0 c1 c2 c3 c4 c5
      go_wp2
      go_round
      case rel => exact ⟨j + 1, by omega, by go_num, by rw [HE.out]⟩
      case measure => simp [intOf]; omega
    · obtain rfl : j = n := by omega
      have HT : Hid (total (ps.take j) = total ps) := by show _ = _; rw [List.take_of_length_le (by rw [HL.out]; exact Nat.le_refl _)]
      rw [HT.out]
      clear hlj
      go_wp2
      go_ret
      exact ⟨rfl, rfl⟩

/-- What marking makes of a mix. -/
def markX (k : Int) (x : Mx) : Mx := ⟨x.sec, marks k x.seen.length, markPool (k + x.seen.length) x.pool⟩
def totalX (x : Mx) : Nat := x.seen.length + total x.pool
def MarkM (A : Option Addr) (c : Nat) (B : Option Addr) (d : Nat) (x : Mx) (G : List (List Nat)) (k0 : Int) (w : World) (e : Ending) (w' : World) : Prop :=
  e = .returned (.int .i64 (k0 + totalX x)) ∧ MixO w' A x.seen.length c B x.pool.length d (markX k0 x) G ∧ KeptG G w w'
theorem keptG_mono {G H : List (List Nat)} {w w' : World} (h : KeptG G w w') (hs : ∀ f ∈ G, f ∈ H) : KeptG H w w' := ⟨h.os, h.tape, h.output, h.size, fun b hb hn => h.block b hb fun f hf => hn f (hs f hf)⟩
theorem keptG_trans {G : List (List Nat)} {w w' w2 : World} (h : KeptG G w w') (h2 : KeptG G w' w2) : KeptG G w w2 :=
  ⟨h2.os.trans h.os, h2.tape.trans h.tape, h2.output.trans h.output, Nat.le_trans h.size h2.size, fun b hb hn => (h2.block b (Nat.lt_of_lt_of_le hb h.size) hn).trans (h.block b hb hn)⟩
theorem keptG_below {G : List (List Nat)} {w w' : World} (h : Below w.heap.size w w') : KeptG G w w' := ⟨h.os, h.tape, h.output, h.size, fun b hb _ => h.block b hb⟩
theorem markMix (A : Option Addr) (c : Nat) (B : Option Addr) (d : Nat) (x : Mx) (G : List (List Nat)) (k0 : Int) (w : World) (hx : MixO w A x.seen.length c B x.pool.length d x G) (ht : totalX x ≤ 4500000) (h0 : 0 ≤ k0) (h1 : k0 ≤ 1000000) :
    Calls Try.prog 25 #[.agg #[.int .i64 x.sec, .slice A x.seen.length c, .slice B x.pool.length d], .int .i64 k0] w (MarkM A c B d x G k0 w) := by
  have hal : Below w.heap.size w (w.alloc (.cells #[.int .i64 x.sec, .slice A x.seen.length c, .slice B x.pool.length d] 26)) := (Below.refl _ _).alloc (Nat.le_refl _) _
  have hz : Blk (w.alloc (.cells #[.int .i64 x.sec, .slice A x.seen.length c, .slice B x.pool.length d] 26)) w.heap.size #[.int .i64 x.sec, .slice A x.seen.length c, .slice B x.pool.length d] 26 := heap_alloc_new _ _
  have hlt := hx.lt_
  have hx1 := hx.below hal (Nat.le_refl _)
  obtain ⟨a, H, o1, p1, rfl, hf⟩ := hx1
  have hpl := p1.lt_
  have hal2 : 0 < x.seen.length → a ≠ w.heap.size := fun q => by have := (hlt _ List.mem_cons_self a (mem_fp.2 ⟨q, rfl⟩)).2; omega
  have hdis : 0 < x.seen.length → ∀ f ∈ H, a ∉ f := fun q f hfm hm => (List.pairwise_cons.1 hf.1).1 f hfm a (mem_fp.2 ⟨q, rfl⟩) hm
  have O1 := Lib.hid o1
  have P1 := Lib.hid p1
  have HZ := Lib.hid hz
  have HF := Lib.hid hf
  have HAL := Lib.hid hal
  have HPL : Hid (∀ f ∈ H, w.heap.size ∉ f) := fun f hfm hm => by have := (hlt f (List.mem_cons_of_mem _ hfm) _ hm).2; omega
  have HDIS := Lib.hid hdis
  unfold totalX at ht
  clear hx o1 p1 hz hf hal hlt hpl hdis
  go_enter Try.func25, Try.ntmps25
  go_wp2_with fail
  ((with_reducible refine (markC a _ _ _ _ k0 _ O1.out (by omega) (by omega) (by omega)).mono ?_); rintro e w1 ⟨rfl, m1, u1, u2, u3, u4, u5⟩)
  have P2 := Lib.hid (P1.out.keep (Nat.le_of_eq u4.symm) (fun f hf x hx => u5 x (fun q e => HDIS.out q f hf (e ▸ hx))))
  have HZ2 : Hid (Blk w1 w.heap.size #[.int .i64 x.sec, .slice A x.seen.length c, .slice B x.pool.length d] 26) := (u5 _ (fun q => Ne.symm (hal2 q))).trans HZ.out
  have M1 := Lib.hid m1
  have U := Lib.hid (And.intro u1 (And.intro u2 (And.intro u3 (And.intro u4 u5))))
  clear m1 u1 u2 u3 u4 u5 O1 P1 HZ
  obtain ⟨z0, z1, z2, zf⟩ := three_cells HZ2.out
  go_wp2_with fail
  ((with_reducible refine (markPeeledS _ _ _ x.pool H (k0 + x.seen.length) _ P2.out (by omega) (by omega) (by omega)).mono ?_); rintro e w2 ⟨rfl, m2, kg⟩)
  have HP : Hid (MarkM A c B d x (fp x.seen.length a :: H) k0 w (.returned (.int .i64 (k0 + x.seen.length + total x.pool))) w2) := by
    refine ⟨by unfold totalX; simp only [Int.natCast_add, Int.add_assoc], ⟨a, H, ?_, m2, by rfl, HF.out⟩, ?_⟩
    · show Il.Own a (a + 1) w2 A x.seen.length c (marks k0 x.seen.length)
      exact own_keepC M1.out kg.size (fun q => kg.block a (own_ltC M1.out q) (HDIS.out q))
    · have h1 := HAL.out
      have hu := U.out
      have hk1 : KeptG (fp x.seen.length a :: H) (w.alloc (.cells #[.int .i64 x.sec, .slice A x.seen.length c, .slice B x.pool.length d] 26)) w1 :=
        ⟨hu.1, hu.2.1, hu.2.2.1, Nat.le_of_eq hu.2.2.2.1.symm, fun b _ hn => hu.2.2.2.2 b fun q e => hn _ List.mem_cons_self (mem_fp.2 ⟨q, e⟩)⟩
      have hk2 : KeptG (fp x.seen.length a :: H) w w1 := ⟨hk1.os.trans h1.os, hk1.tape.trans h1.tape, hk1.output.trans h1.output, Nat.le_trans h1.size hk1.size, fun b hb hn => (hk1.block b (Nat.lt_of_lt_of_le hb h1.size) hn).trans (h1.block b hb)⟩
      exact keptG_trans hk2 (keptG_mono kg fun f hf => List.mem_cons_of_mem _ hf)
  clear m2 kg z0 z1 z2 zf
  go_wp2
  go_ret
  exact HP.out

theorem heldMix (A : Option Addr) (c : Nat) (B : Option Addr) (d l1 h1 : Nat) (x : Mx) (k0 : Int) (w : World) (hx : MixR l1 h1 w A x.seen.length c B x.pool.length d (markX k0 x)) (ht : totalX x ≤ 4500000) (h0 : 0 ≤ k0) (hk : k0 ≤ 1000000) :
    Calls Try.prog 27 #[.agg #[.int .i64 x.sec, .slice A x.seen.length c, .slice B x.pool.length d], .int .i64 k0] w (IntB (k0 + totalX x) w) := by
  have hal : Below w.heap.size w (w.alloc (.cells #[.int .i64 x.sec, .slice A x.seen.length c, .slice B x.pool.length d] 26)) := (Below.refl _ _).alloc (Nat.le_refl _) _
  have O1 : Hid (Ints l1 h1 _ A x.seen.length c (marks k0 x.seen.length)) := hx.1.below hal (Nat.le_refl _)
  have P1 : Hid (Pool l1 h1 _ B x.pool.length d (markPool (k0 + x.seen.length) x.pool)) := hx.2.below hal (Nat.le_refl _)
  have HAL := Lib.hid hal
  have HE : Hid (k0 + (totalX x : Int) = k0 + x.seen.length + total x.pool) := by show _ = _; unfold totalX; simp only [Int.natCast_add, Int.add_assoc]
  rw [HE.out]
  unfold totalX at ht
  clear hx hal HE
  go_enter Try.func27, Try.ntmps27
  go_wp2_with fail
  ((with_reducible refine (Hlp.heldIntS _ _ _ _ _ k0 _ O1.out (by omega) (by omega) (by omega)).mono ?_); rintro e w1 ⟨rfl, rfl⟩)
  go_wp2_with fail
  ((with_reducible refine (heldPeeledS _ _ _ _ _ x.pool (k0 + x.seen.length) _ P1.out (by omega) (by omega) (by omega)).mono ?_); rintro e w1 ⟨rfl, rfl⟩)
  go_wp2
  go_ret
  exact ⟨rfl, HAL.out⟩

end Hlp8
end Go.Proofs.Ytnjcpbkpcmemeac
