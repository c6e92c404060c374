/-
  Contract of the laws' copy of flows.
-/
import Derived.Test.YtcbhjnjallnidaaHv
namespace Go.Proofs.Ytcbhjnjallnidaa
open Go.RowKit
namespace Hv
open Il Sl Fc Sp13

theorem made_zero (n : Nat) : (madeCells (Value.cells (.agg #[.int .i64 0, .int .i64 0, .int .i64 0])) (n * 3)).toList = (List.replicate n Fl.zero).flatMap Fl.cells := by
  refine List.ext_getElem? fun i => ?_
  by_cases hi : i < n * 3
  · have h1 : (List.replicate n Fl.zero)[i / 3]? = some Fl.zero := by rw [List.getElem?_replicate, if_pos (by omega)]
    have h2 := flat_at cells_len h1 (show i % 3 < 3 by omega)
    rw [show i / 3 * 3 + i % 3 = i by omega] at h2
    rw [h2]
    have h3 : (madeCells (Value.cells (.agg #[.int .i64 0, .int .i64 0, .int .i64 0])) (n * 3)).toList[i]? = some ((Value.cells (.agg #[.int .i64 0, .int .i64 0, .int .i64 0]))[i % 3]!) := by
      rw [Array.getElem?_toList]
      unfold madeCells
      rw [Array.getElem?_map, Array.getElem?_range, if_pos hi]
      rfl
    rw [h3]
    have h6 : i % 3 < 3 := by omega
    generalize i % 3 = r at h6 ⊢
    match r, h6 with
    | 0, _ => rfl
    | 1, _ => rfl
    | 2, _ => rfl
  · rw [List.getElem?_eq_none (by rw [Array.length_toList, size_madeCells]; omega), List.getElem?_eq_none (by rw [flat_len cells_len, List.length_replicate]; omega)]
theorem copy_stepC {xs : List Fl} {j n : Nat} (hn : xs.length = n) (h : j < n) : (xs.take j ++ List.replicate (n - j) Fl.zero).set j (flAt xs j) = xs.take (j + 1) ++ List.replicate (n - (j + 1)) Fl.zero := by
  have h1 : (xs.take j).length = j := by rw [List.length_take]; omega
  rw [List.set_append_right _ _ (by omega), h1, Nat.sub_self]
  have h2 : n - j = (n - (j + 1)) + 1 := by omega
  rw [h2, List.replicate_succ, List.set_cons_zero, take_fl (by omega), List.append_assoc]
  rfl
def TcRel (n : Nat) (w wr : World) (ys : List Fl) : Prop := FlsO w.heap.size (w.heap.size + 1) wr (some ⟨w.heap.size, 0, none⟩) n n ys ∧ Below w.heap.size w wr
set_option maxRecDepth 20000 in
set_option maxHeartbeats 1000000 in
theorem toFlowS (lo hi : Nat) (A : Option Addr) (n c : Nat) (xs : List Fl) (w : World) (hx : Fls lo hi w A n c xs) (hn : n ≤ 1048576) :
    Calls Try.prog 19 #[.slice A n c] w (FlsPost xs w) := by
  obtain ⟨i0, e1, e2, e3, e4⟩ := el_parts elFl
  obtain ⟨w2, hmk, how, hgr⟩ := run_make_full (P := Try.prog) (w := w) w.heap.size 23 28 i0 _ 3 Try.underlying23 e1 e2 e3 .i64 .i64 n (by rw [e4]; omega) (by unfold maxLen; omega) (Nat.le_refl _)
  rw [made_zero] at how
  have hac : AccV 28 3 w.heap.size w2 (.slice (some ⟨w.heap.size, 0, none⟩) n n) n ((List.replicate n Fl.zero).flatMap Fl.cells) := ⟨n, rfl, how⟩
  have hb2 : Below w.heap.size w w2 := ⟨hgr.os, hgr.tape, hgr.output, hgr.size, fun z hz => hgr.block z hz (by simp)⟩
  have hc1 := hx.max_
  have hc2 := hx.cap_
  have HL := Lib.hid hx.len_
  have HX := Lib.hid (hx.top (Nat.le_refl _))
  have HR0 : Hid (TcRel n w w2 (xs.take 0 ++ List.replicate (n - 0) Fl.zero)) := by
    obtain ⟨cap, e, hr⟩ := hac.row
    simp only [Value.slice.injEq] at e
    obtain ⟨_, _, rfl⟩ := e
    exact ⟨by rw [List.take_zero, List.nil_append, Nat.sub_zero]; exact hr, hb2⟩
  clear hx e1 e2 e3 e4 how hgr hac hb2
  go_enter Try.func19, Try.ntmps19
  go_wp2
  clear hmk
  go_loopw [4] (fun i wr => ∃ j : Nat, j ≤ n ∧ i = .int .i64 j ∧ Hid (TcRel n w wr (xs.take j ++ List.replicate (n - j) Fl.zero))) (fun i _ => n - (intOf i).toNat)
  case atStart => exact ⟨0, Nat.zero_le _, rfl, HR0.out⟩
  case round =>
    clear HR0
    obtain ⟨j, hj, rfl, hR⟩ := hrel
    by_cases hlt : j < n
    · obtain ⟨b, off, rfl, _, _, hbz, c0, c1, c2⟩ := (HX.out.below hR.out.2 (Nat.le_refl _)).at_ hlt
      have HST := Lib.hid (copy_stepC (xs := xs) (j := j) HL.out hlt)
      generalize flAt xs j = x at *
      go_wp2_with fail
      ((with_reducible refine (toFlow x _).mono ?_); rintro e w4 ⟨rfl, hb⟩)
      have hd := hR.out.1.below hb (Nat.le_refl _)
      have HB4 := Lib.hid (hR.out.2.trans (hb.mono hR.out.2.size))
      obtain ⟨b2, off2, eb, hb1, hb2, _, m0, m1, m2⟩ := hd.row_.at_ hlt
      simp only [Option.some.injEq, Addr.mk.injEq, and_true] at eb
      obtain ⟨rfl, rfl⟩ := eb
      obtain ⟨f0, f1, f2⟩ := FlsO.free hd hlt
      have hp := FlsO.put hd hlt x
      rw [HST.out] at hp
      rw [Nat.zero_add] at m0 m1 m2 f0 f1 f2 hp
      have HT : Hid (TcRel n w (((w4.setCell ⟨w.heap.size, j * 3, none⟩ (.int .i64 x.fr)).setCell ⟨w.heap.size, j * 3 + 1, none⟩ (.int .i64 x.to)).setCell ⟨w.heap.size, j * 3 + 2, none⟩ (.int .i64 x.nm)) (xs.take (j + 1) ++ List.replicate (n - (j + 1)) Fl.zero)) :=
        ⟨hp, ((HB4.out.setCell (p := ⟨w.heap.size, j * 3, none⟩) (Nat.le_refl _) _).setCell (p := ⟨w.heap.size, j * 3 + 1, none⟩) (Nat.le_refl _) _).setCell (p := ⟨w.heap.size, j * 3 + 2, none⟩) (Nat.le_refl _) _⟩
      clear hR hb hd hp HB4 c0 c1 c2
      generalize flAt (xs.take j ++ List.replicate (n - j) Fl.zero) j = y at *
      go_wp2
      go_roundw
      case rel => exact ⟨j + 1, by omega, by go_num, HT.out⟩
      case measure => simp [intOf]; omega
    · obtain rfl : j = n := by omega
      have hT1 := hR.out.1
      rw [List.take_of_length_le (by rw [HL.out]; exact Nat.le_refl _), Nat.sub_self, List.replicate_zero, List.append_nil] at hT1
      have hT2 := hR.out.2
      have hpost : FlsPost xs w (.returned (.slice (some ⟨w.heap.size, 0, none⟩) j j)) wr := ⟨_, j, by rw [HL.out], by rw [HL.out]; exact hT1.top (Nat.le_refl _), hT2⟩
      have HT := Lib.hid hpost
      clear hR hT1 hT2 hpost hlt
      go_wp2
      go_ret
      exact HT.out

end Hv
end Go.Proofs.Ytcbhjnjallnidaa
