/-
  Helpers of the laws: lists of lists that came in, in new memory.
-/
import Derived.Test.YtoghgliijjfppabH8
import Derived.Test.YtoghgliijjfppabCk
import Derived.Laws.MakeOwn
namespace Go.Proofs.Ytoghgliijjfppab
open Go.RowKit
namespace H8
open Il Sl Fo Cm Cs Sg Gm

theorem sk_own {lo hi : Nat} {w : World} {A : Option Addr} {c : Nat} {xs : List Int} (h : Il.Own lo hi w A xs.length c xs) : ∃ g, SkO w ⟨xs, A, c, g⟩ ∧ ∀ y ∈ fpk ⟨xs, A, c, g⟩, lo ≤ y ∧ y < hi := by
  rcases Nat.eq_zero_or_pos xs.length with hz | hz
  · refine ⟨0, ⟨⟨rfl, h.1.2.1, h.1.2.2.1, fun hn => absurd (show 0 < xs.length from hn) (by omega)⟩, fun _ _ hn => absurd (show 0 < xs.length from hn) (by omega)⟩, fun y hy => ?_⟩
    have := (mem_fp.1 hy).1
    dsimp only at this
    omega
  · obtain ⟨b, off, e, q1, q2, q3, q4⟩ := h.1.2.2.2 hz
    refine ⟨b, ⟨⟨rfl, h.1.2.1, h.1.2.2.1, fun _ => ⟨b, off, e, Nat.le_refl _, Nat.lt_succ_self _, q3, q4⟩⟩, h.2⟩, fun y hy => ?_⟩
    have := (mem_fp.1 hy).2
    dsimp only at this
    omega
def partS (xss : List (List Int)) (n j : Nat) : List (List Int) := xss.take j ++ List.replicate (n - j) []
theorem part_step {xss : List (List Int)} {n j : Nat} (hl : xss.length = n) (hj : j < n) : (partS xss n j).set j (slAt xss j) = partS xss n (j + 1) := by
  unfold partS
  have h1 : (xss.take j).length = j := by rw [List.length_take]; omega
  rw [List.set_append_right _ _ (by omega), h1, Nat.sub_self]
  obtain ⟨m, hm⟩ : ∃ m, n - j = m + 1 := ⟨n - j - 1, by omega⟩
  rw [hm, List.replicate_succ, List.set_cons_zero, show n - (j + 1) = m by omega, ← Ck.take_slot (by omega), List.append_assoc]
  rfl
theorem part_all {xss : List (List Int)} {n : Nat} (hl : xss.length = n) : partS xss n n = xss := by
  unfold partS
  rw [Nat.sub_self, List.take_of_length_le (by omega)]; simp
theorem made_nil (n : Nat) : (madeCells (Value.cells (.slice none 0 0)) (n * 1)).toList = (List.replicate n (⟨[], none, 0, 0⟩ : Sk)).map Sk.cell := by
  refine List.ext_getElem? fun i => ?_
  rw [List.map_replicate]
  by_cases hi : i < n
  · rw [List.getElem?_replicate, if_pos hi]
    simp [madeCells, Value.cells, hi, Nat.mod_one]
    rfl
  · rw [List.getElem?_eq_none (by rw [Array.length_toList, size_madeCells]; omega), List.getElem?_eq_none (by simp; omega)]
def TRel (w wr : World) (A : Option Addr) (n c : Nat) (xss : List (List Int)) (j : Nat) : Prop :=
  Below w.heap.size w wr ∧ ∃ G, StsO wr A n c (partS xss n j) G ∧ Within w.heap.size wr.heap.size G
/-- Slots in new memory. -/
def NewS (xss : List (List Int)) (w : World) (e : Ending) (w' : World) : Prop :=
  ∃ A c G, e = .returned (.slice A xss.length c) ∧ StsO w' A xss.length c xss G ∧ Within w.heap.size w'.heap.size G ∧ Below w.heap.size w w'
set_option maxRecDepth 20000 in
set_option maxHeartbeats 1000000 in
theorem toIntSS (lo hi : Nat) (A : Option Addr) (n c : Nat) (xss : List (List Int)) (w : World) (hx : Sts lo hi w A n c xss) (hn : n + tot xss ≤ 1048576) :
    Calls Try.prog 20 #[.slice A n c] w (NewS xss w) := by
  have hc1 := hx.max_
  have hc2 := hx.cap_
  have HL := Lib.hid hx.len_
  unfold maxLen at hc1
  obtain ⟨i0, e1, e2, e3, e4⟩ := el_parts elSk
  obtain ⟨w2, hmk, how, hgr⟩ := run_make_full (P := Try.prog) (w := w) w.heap.size 23 22 i0 _ 1 elSk.under e1 e2 e3 .i64 .i64 n (by rw [e4]; omega) (by unfold maxLen; omega) (Nat.le_refl _)
  rw [made_nil] at how
  have hac : AccV 22 1 w.heap.size w2 (.slice (some ⟨w.heap.size, 0, none⟩) n n) n ((List.replicate n (⟨[], none, 0, 0⟩ : Sk)).map Sk.cell) := ⟨n, rfl, how⟩
  have hb2 : Below w.heap.size w w2 := ⟨hgr.os, hgr.tape, hgr.output, hgr.size, fun z hz => hgr.block z hz (by simp)⟩
  obtain ⟨cap, ec, hrow⟩ := hac.row
  simp only [Value.slice.injEq, true_and] at ec
  subst ec
  have hfp : (List.replicate n (⟨[], none, 0, 0⟩ : Sk)).map fpk = List.replicate n [] := by rw [List.map_replicate]; rfl
  have HT0 : Hid (TRel w w2 (some ⟨w.heap.size, 0, none⟩) n n xss 0) := by
    refine ⟨hb2, _, ⟨w.heap.size, List.replicate n ⟨[], none, 0, 0⟩, by unfold partS; rw [List.map_replicate]; simp, hrow, fun s hs => ?_, rfl, ?_⟩, ?_⟩
    · obtain rfl := List.eq_of_mem_replicate hs
      exact Own.nil_ (Nat.zero_le _)
    · unfold Foot
      rw [hfp, List.pairwise_cons]
      refine ⟨fun f hf x _ q2 => ?_, ?_⟩
      · rw [List.eq_of_mem_replicate hf] at q2; simp at q2
      · rw [List.pairwise_replicate]
        exact .inr fun x q1 _ => by simp at q1
    · intro f hf x hx
      rcases List.mem_cons.1 hf with rfl | hf
      · have := (mem_fp.1 hx).2
        have := hac.lt
        omega
      · rw [hfp] at hf
        rw [List.eq_of_mem_replicate hf] at hx; simp at hx
  have HX := Lib.hid (hx.top (Nat.zero_le _))
  clear how hgr hac hb2 hrow hfp e1 e2 e3 e4 hx
  go_enter Try.func20, Try.ntmps20
  go_wp2
  go_loopw [4] (fun i wr => ∃ j : Nat, j ≤ n ∧ i = .int .i64 (j : Nat) ∧ Hid (TRel w wr (some ⟨w.heap.size, 0, none⟩) n n xss j)) (fun i _ => n - (intOf i).toNat)
  case atStart => exact ⟨0, Nat.zero_le _, rfl, HT0.out⟩
  case round =>
    obtain ⟨j, hj, rfl, hT⟩ := hrel
    clear HT0
    by_cases hlj : j < n
    · have HXr := Lib.hid (HX.out.below hT.out.1 (Nat.le_refl _))
      obtain ⟨b, off, B, d, rfl, _, _, hbz, cB, iB⟩ := HXr.out.at_ hlj
      have IB := Lib.hid iB
      have hle : (slAt xss j).length ≤ 10000000 := by
        have h1 := tot_take (xss := xss) (j := j) (by rw [HL.out]; exact hlj)
        have h2 := tot_le (xss := xss) (j + 1)
        omega
      have HST : Hid (∀ A4 c4 w4, Il.Own wr.heap.size w4.heap.size w4 A4 (slAt xss j).length c4 (slAt xss j) → Below wr.heap.size wr w4 → (w4.cell? ⟨w.heap.size, j, none⟩).isSome = true ∧ w4.frozen? ⟨w.heap.size, j, none⟩ = false ∧ TRel w (w4.setCell ⟨w.heap.size, j, none⟩ (.slice A4 (slAt xss j).length c4)) (some ⟨w.heap.size, 0, none⟩) n n xss (j + 1)) := fun A4 c4 w4 ho4 hb4 => by
        obtain ⟨hbw, G, hst, hG⟩ := hT.out
        obtain ⟨b9, off9, H9, e9, q0, q1, ⟨f9, hf9, hbf9⟩, q3, q4, q5⟩ := Ck.setN hst hlj
        simp only [Option.some.injEq, Addr.mk.injEq, and_true] at q0
        obtain ⟨rfl, rfl⟩ := q0
        rw [Nat.zero_add] at q3 q4 q5
        obtain ⟨g, hsk, hsf⟩ := sk_own ho4
        obtain ⟨G', h1, h2⟩ := q5 w4 ⟨slAt xss j, A4, c4, g⟩ hb4.size (fun f hf y hy => hb4.block y (hG f hf y hy).2) hsk hsf
        rw [show (⟨slAt xss j, A4, c4, g⟩ : Sk).xs = slAt xss j from rfl, part_step HL.out hlj] at h1
        have hsz : (w4.setCell ⟨w.heap.size, j, none⟩ (.slice A4 (slAt xss j).length c4)).heap.size = w4.heap.size := by simp [World.setCell]
        have hs4 := hb4.size
        refine ⟨by rw [(hb4.cell (p := ⟨w.heap.size, j, none⟩) q1).trans q3]; rfl, (World.frozen?_of_block (a := ⟨w.heap.size, j, none⟩) (hb4.block _ q1)).trans q4, (hbw.trans (hb4.mono hbw.size)).setCell (p := ⟨w.heap.size, j, none⟩) (Nat.le_refl _) _, G', h1, fun f hf y hy => ?_⟩
        rw [hsz]
        have hbs := hbw.size
        rcases h2 f hf y hy with ⟨g2, hg2, hyg⟩ | hyf
        · have := hG g2 hg2 y hyg; omega
        · have := hsf y hyf; omega
      clear iB hT HXr
      generalize slAt xss j = xs at *
      go_wp2_with fail
      ((with_reducible refine (Hlp.toIntS _ _ _ _ _ xs _ IB.out (by have := IB.out.len_; omega)).mono ?_); rintro e w4 ⟨A4, c4, rfl, ho4, hb4⟩)
      obtain ⟨p1, p2, p3⟩ := HST.out A4 c4 w4 ho4 hb4
      obtain ⟨pv, pc⟩ := Option.isSome_iff_exists.1 p1
      have HN := Lib.hid p3
      clear p1 p3 ho4 hb4 HST
      go_wp2
      go_roundw
      case rel => exact ⟨j + 1, by omega, by go_num, HN.out⟩
      case measure => simp [intOf]; omega
    · obtain rfl : j = n := by omega
      obtain ⟨hbw, G, hst, hG⟩ := hT.out
      rw [part_all HL.out] at hst
      have HP : Hid (NewS xss w (.returned (.slice (some ⟨w.heap.size, 0, none⟩) j j)) wr) := by
        have hl := HL.out
        subst hl
        exact ⟨_, _, G, rfl, hst, hG, hbw⟩
      clear hst hG hbw hT
      go_wp2
      go_ret
      exact HP.out
end H8
end Go.Proofs.Ytoghgliijjfppab
