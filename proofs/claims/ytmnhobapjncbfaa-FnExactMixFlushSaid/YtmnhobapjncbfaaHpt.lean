/-
  The contract of the program's heapOf: a heap of copied packets.
-/
import Derived.Test.YtmnhobapjncbfaaHps
import Derived.Test.YtmnhobapjncbfaaSp6d
namespace Go.Proofs.Ytmnhobapjncbfaa
open Go.RowKit
namespace Im6
open Il Gm Mm Tm Lm Pm Pq Hlp5 Sl Mm6 Hp6
open Sp6 (row_at row_len)

/-- Slots in blocks of their own, from lo on, below hi. -/
def Cop (lo hi : Nat) (w : World) (ss : List Slot) : Prop := (∀ s ∈ ss, SlotO w s) ∧ Foot (ss.map fpS) ∧ Within lo hi (ss.map fpS)
theorem Cop.keep {lo hi : Nat} {w w' : World} {ss : List Slot} (h : Cop lo hi w ss) (hs : w.heap.size ≤ w'.heap.size) (hk : ∀ z, lo ≤ z → z < hi → w'.heap[z]? = w.heap[z]?) : Cop lo hi w' ss :=
  ⟨fun s hm => (h.1 s hm).keepC hs fun z hz => by have := h.2.2 _ (List.mem_map_of_mem hm) z hz; exact hk z this.1 this.2, h.2.1, h.2.2⟩
theorem copied_open {lo hi : Nat} {w : World} {B : Option Addr} {d : Nat} {ps : List Pld} (h : PoolD lo hi w (.slice B ps.length d) ps) : ∃ ss : List Slot, ss.map (·.p) = ps ∧ Row lo hi w B ps.length d 6 (ss.flatMap Slot.cells) ∧ Cop lo hi w ss := by
  obtain ⟨A, c, G, e, ho, hw⟩ := h.own
  simp only [Value.slice.injEq, true_and] at e
  obtain ⟨rfl, rfl⟩ := e
  obtain ⟨b, ss, h1, h2, h3, rfl, h5⟩ := ho
  refine ⟨ss, h1, row_in h2.1 fun hn => hw _ List.mem_cons_self _ (mem_fp.2 ⟨hn, rfl⟩), h3, ⟨(List.pairwise_cons.1 h5.1).2, fun f hf => h5.2 f (List.mem_cons_of_mem _ hf)⟩, fun f hf => hw f (List.mem_cons_of_mem _ hf)⟩
def HeapOfP (ps : List Pld) (w : World) (e : Ending) (w' : World) : Prop :=
  ∃ hb k vs ss c0 c1, e = .returned (.pointer (some ⟨hb, 0, none⟩)) ∧ HpS hb k w' vs ∧ vs.Perm (deco ss) ∧ IsHeap leW vs vs.length ∧ ss.map (·.p) = ps ∧ Cop c0 c1 w' ss ∧ (w.heap.size ≤ hb ∧ hb < c0 ∧ w.heap.size ≤ k ∧ (k < c0 ∨ c1 ≤ k) ∧ c0 ≤ c1 ∧ c1 ≤ w'.heap.size) ∧ Below w.heap.size w w'
def HoRel (w wr : World) (B : Option Addr) (n d c0 c1 i k : Nat) (vs : List Wt) (ss : List Slot) : Prop :=
  HpS (w.heap.size + 1) k wr vs ∧ vs.Perm (deco (ss.take i)) ∧ IsHeap leW vs vs.length ∧ (w.heap.size ≤ k ∧ (k < c0 ∨ c1 ≤ k)) ∧ Row c0 c1 wr B n d 6 (ss.flatMap Slot.cells) ∧ Cop c0 c1 wr ss ∧ c1 ≤ wr.heap.size ∧ Below w.heap.size w wr
theorem HoRel.below {w wr w' : World} {B : Option Addr} {n d c0 c1 i k : Nat} {vs : List Wt} {ss : List Slot} (h : HoRel w wr B n d c0 c1 i k vs ss) (hB : Below wr.heap.size wr w') : HoRel w w' B n d c0 c1 i k vs ss := by
  obtain ⟨h1, h2, h3, h4, h5, h6, h7, h8⟩ := h
  exact ⟨h1.below hB, h2, h3, h4, h5.below hB (Nat.le_refl _), h6.keep hB.size fun z _ hz => hB.block z (by omega), Nat.le_trans h7 hB.size, h8.trans (hB.mono h8.size)⟩
theorem HoRel.push {w wr w' : World} {B : Option Addr} {n d c0 c1 i k k' : Nat} {vs us : List Wt} {ss : List Slot} {s : Slot} (h : HoRel w wr B n d c0 c1 i k vs ss) (hc : w.heap.size + 1 < c0) (hs : ss[i]? = some s) (h1 : HpS (w.heap.size + 1) k' w' us) (h2 : us.Perm (vs ++ [⟨s, i⟩])) (h3 : IsHeap leW us us.length) (h4 : k' = k ∨ wr.heap.size ≤ k') (h5 : KeptH (w.heap.size + 1) (some k) wr w') : HoRel w w' B n d c0 c1 (i + 1) k' us ss := by
  obtain ⟨r1, r2, r3, r4, r5, r6, r7, r8⟩ := h
  have hil := (List.getElem?_eq_some_iff.1 hs).1
  have hk : ∀ z, c0 ≤ z → z < c1 → w'.heap[z]? = wr.heap[z]? := fun z q1 q2 => h5.block z (by omega) (by omega) (fun e => by simp only [Option.some.injEq] at e; omega)
  have hlt := r1.lt
  refine ⟨h1, ?_, h3, ?_, r5.keep h5.size fun z q1 q2 _ => hk z q1 q2, r6.keep h5.size hk, Nat.le_trans r7 h5.size, ?_⟩
  · have e : ss.take (i + 1) = ss.take i ++ [s] := by
      rw [List.take_add_one, hs]; rfl
    rw [e, deco_snoc, List.length_take, Nat.min_eq_left (by omega)]
    exact h2.trans (r2.append_right _)
  · rcases h4 with rfl | h4 <;> omega
  · exact ⟨h5.os.trans r8.os, h5.tape.trans r8.tape, h5.output.trans r8.output, Nat.le_trans r8.size h5.size, fun z hz => (h5.block z (by omega) (by omega) (fun e => by simp only [Option.some.injEq] at e; omega)).trans (r8.block z hz)⟩
theorem hPushL (hb k : Nat) (ws : List Wt) (s : Slot) (j : Nat) (w : World) (hS : HpS hb k w ws) (hl : ws.length ≤ 1000) (hI : IsHeap leW ws ws.length) :
    Calls Try.prog 72 #[.iface 66 (.pointer (some ⟨hb, 0, none⟩)), .iface 70 (.agg #[.int .i64 s.p.kind, .int .i64 s.p.next, .int .i64 s.p.pk.el, .slice s.A s.p.pk.hd.length s.c, .int .i64 s.p.pk.tag, .slice s.B s.p.pk.bd.length s.d, .int .i64 j])] w (HPushP hb k ws ⟨s, j⟩ w) := hPush hb k ws ⟨s, j⟩ w hS hl hI
set_option maxRecDepth 20000 in
set_option maxHeartbeats 2000000 in
theorem heapOf (lo hi : Nat) (A : Option Addr) (n c : Nat) (ps : List Pld) (w : World) (hx : Pool lo hi w A n c ps) (hn : n ≤ 1000) (hh : ∀ p ∈ ps, p.pk.hd.length ≤ 1000 ∧ p.pk.bd.length ≤ 1000) :
    Calls Try.prog 42 #[.slice A n c] w (HeapOfP ps w) := by
  have hlen := hx.len_
  subst hlen
  have hal : Below w.heap.size w (w.alloc (.cells #[] 70)) := (Below.refl _ _).alloc (Nat.le_refl _) _
  have hal2 := hal.alloc hal.size (.cells #[.slice (some ⟨w.heap.size, 0, none⟩) 0 0] 89)
  have hs1 : (w.alloc (.cells #[] 70)).heap.size = w.heap.size + 1 := by simp
  have hS : HpS (w.heap.size + 1) w.heap.size ((w.alloc (.cells #[] 70)).alloc (.cells #[.slice (some ⟨w.heap.size, 0, none⟩) 0 0] 89)) [] := by
    refine ⟨0, ?_, (accV_new w 70 7).alloc _, by omega⟩
    have := heap_alloc_new (w.alloc (.cells #[] 70)) (.cells #[.slice (some ⟨w.heap.size, 0, none⟩) 0 0] 89)
    rw [hs1] at this
    exact this
  have HX := Lib.hid (hx.below hal2 (Nat.le_refl _))
  have HS := Lib.hid hS
  have HAL := Lib.hid hal2
  have HH := Lib.hid hh
  have hs2 : w.heap.size + 1 < ((w.alloc (.cells #[] 70)).alloc (.cells #[.slice (some ⟨w.heap.size, 0, none⟩) 0 0] 89)).heap.size := by simp
  clear hal hal2 hs1 hS hx hh
  go_enter Try.func42, Try.ntmps42
  go_wp2_with fail
  generalize ((w.alloc (.cells #[] 70)).alloc (.cells #[.slice (some ⟨w.heap.size, 0, none⟩) 0 0] 89)) = w2 at *
  ((with_reducible refine (copyPool _ _ _ _ _ ps _ HX.out hn HH.out).mono ?_); rintro e w3 ⟨B, d, rfl, hpd, hb3⟩)
  obtain ⟨ss, rfl, hrow, hcop⟩ := copied_open hpd
  have hsl := row_len hrow
  simp only [List.length_map] at hrow hn ⊢
  have HC : Hid (HoRel w w3 B ss.length d w2.heap.size w3.heap.size 0 w.heap.size [] ss) :=
    ⟨HS.out.below hb3, List.Perm.refl _, fun i _ h => absurd h (Nat.not_lt_zero _), ⟨Nat.le_refl _, .inl (by omega)⟩, hrow, hcop, Nat.le_refl _, HAL.out.trans (hb3.mono HAL.out.size)⟩
  have hs3 := hb3.size
  clear hpd hrow hcop hb3 HX HS HAL HH hsl
  go_wp2
  go_loopw [11] (fun i wr => ∃ (j k : Nat) (vs : List Wt), j ≤ ss.length ∧ i = .int .i64 j ∧ Hid (HoRel w wr B ss.length d w2.heap.size w3.heap.size j k vs ss)) (fun i _ => ss.length - (intOf i).toNat)
  case atStart => exact ⟨0, _, [], Nat.zero_le _, rfl, HC.out⟩
  case round =>
    clear HC
    obtain ⟨j, k, vs, hj, rfl, hR⟩ := hrel
    by_cases hlt : j < ss.length
    · obtain ⟨b, off, s, rfl, hb1, hb2, hs, c0, c1, c2, c3, c4, c5⟩ := row_at hR.out.2.2.2.2.1 hlt
      have HSJ := Lib.hid hs
      have hal : Below wr.heap.size wr (wr.alloc (.cells #[.int .i64 s.p.kind, .int .i64 s.p.next, .int .i64 s.p.pk.el, .slice s.A s.p.pk.hd.length s.c, .int .i64 s.p.pk.tag, .slice s.B s.p.pk.bd.length s.d] 59)) := (Below.refl _ _).alloc (Nat.le_refl _) _
      have HR4 := Lib.hid (hR.out.below hal)
      have hvl : vs.length ≤ 1000 := by
        have := hR.out.2.1.length_eq
        rw [deco_len, List.length_take] at this
        omega
      clear hs hal hR
      have hwx : w.heap.size + 1 < w2.heap.size := hs2
      have HP1 := Lib.hid HR4.out.1
      have HP2 := Lib.hid HR4.out.2.2.1
      go_wp2_with fail
      ((with_reducible refine (hPushL (w.heap.size + 1) k vs s j _ HP1.out hvl HP2.out).mono ?_); rintro e w5 ⟨rfl, k1, us, h1, h2, h3, h4, h5⟩)
      have HR5 := Lib.hid (HR4.out.push hwx HSJ.out h1 h2 h3 h4 h5)
      clear h1 h2 h3 h4 h5 HP1 HP2 HR4 c0 c1 c2 c3 c4 c5
      go_wp2
      go_roundw
      case rel => exact ⟨j + 1, k1, us, by omega, by go_num, HR5.out⟩
      case measure => simp [intOf]; omega
    · obtain rfl : j = ss.length := by omega
      have hT := hR.out.2.1
      rw [List.take_of_length_le (Nat.le_refl _)] at hT
      have HT := Lib.hid hT
      clear hT
      go_wp2
      go_ret
      obtain ⟨r1, r2, r3, r4, r5, r6, r7, r8⟩ := hR.out
      exact ⟨w.heap.size + 1, k, vs, ss, _, _, rfl, r1, HT.out, r3, rfl, r6, ⟨by omega, by omega, r4.1, r4.2, by omega, r7⟩, r8⟩

end Im6
end Go.Proofs.Ytmnhobapjncbfaa
