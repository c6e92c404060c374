/-
  Contracts of the laws' helpers on slots and caches: sizes, copies, equality, marks.
-/
import Derived.Test.YtoghgliijjfppabGk
import Derived.Test.YtoghgliijjfppabSg
import Derived.Test.YtoghgliijjfppabHlp
import Derived.StillTailTactics
import Derived.Deep.RegionLaw
import Derived.Deep.Cut
namespace Go.Proofs.Ytoghgliijjfppab
open Go.RowKit
namespace H8
open Il Sl Fo Cm Cs Sg Hlp

theorem ints_dr {lo hi : Nat} {w : World} {A : Option Addr} {n c : Nat} {xs : List Int} (h : Ints lo hi w A n c xs) : Ints lo hi w.drew A n c xs := h
theorem below_dr {K d : Nat} {w w' : World} (h : Below K w w') : Below K w (w'.drewN d) := ⟨h.os, h.tape, h.output, h.size, h.block⟩
theorem blk_keptG {G : List (List Nat)} {w w' : World} {lo hi b : Nat} {cs : Array Value} {t : TypeId} (h : Blk w b cs t) (hk : KeptG G w w') (hw : Within lo hi G) (hd : b < lo ∨ hi ≤ b) : Blk w' b cs t := h.same (keptG_at hk hw b h.lt hd)
def EqRel (l1 h1 l2 h2 : Nat) (w wr : World) (A B : Option Addr) (n c d : Nat) (xss : List (List Int)) : Prop := Sts l1 h1 wr A n c xss ∧ Sts l2 h2 wr B n d xss ∧ ∃ q, wr = w.drewN q
set_option maxRecDepth 20000 in
set_option maxHeartbeats 1000000 in
theorem eqIntSS (A B : Option Addr) (n c d l1 h1 l2 h2 : Nat) (xss : List (List Int)) (w : World) (i1 : Sts l1 h1 w A n c xss) (i2 : Sts l2 h2 w B n d xss) :
    Calls Try.prog 13 #[.slice A n c, .slice B n d] w (BoolPost true w) := by
  have hc1 := i1.max_
  have hc2 := i1.cap_
  unfold maxLen at hc1
  have HR0 : Hid (EqRel l1 h1 l2 h2 w w A B n c d xss) := ⟨i1, i2, 0, rfl⟩
  clear i1 i2
  go_enter Try.func13, Try.ntmps13
  go_wp2
  go_loopw [5] (fun i wr => ∃ j : Nat, j ≤ n ∧ i = .int .i64 j ∧ Hid (EqRel l1 h1 l2 h2 w wr A B n c d xss)) (fun i _ => n - (intOf i).toNat)
  case atStart => exact ⟨0, Nat.zero_le _, rfl, HR0.out⟩
  case round =>
    obtain ⟨j, hj, rfl, hR⟩ := hrel
    clear HR0
    by_cases hlj : j < n
    · obtain ⟨b, off, H, e, rfl, _, _, _, c0, ih⟩ := hR.out.1.at_ hlj
      obtain ⟨b', off', H', e', rfl, _, _, _, c0', ih'⟩ := hR.out.2.1.at_ hlj
      have IH := Lib.hid ih
      have IH' := Lib.hid ih'
      clear ih ih'
      generalize slAt xss j = xs at *
      go_wp2
      go_still_tail 8, (by kernel_rfl)
      change wpList _ _ _ _ _ wr.drew
      go_wp2_with fail
      ((with_reducible refine (Hlp.eqIntS _ _ _ _ _ _ _ _ _ _ xs xs _ (ints_dr IH.out) (ints_dr IH'.out)).mono ?_); rintro e w1 ⟨rfl, q, rfl⟩)
      rw [decide_eq_true rfl]
      have HR2 : Hid (EqRel l1 h1 l2 h2 w (wr.drewN (1 + q)) (some ⟨b, off, none⟩) (some ⟨b', off', none⟩) n c d xss) := by
        obtain ⟨r1, r2, q2, r3⟩ := hR.out
        exact ⟨r1, r2, q2 + (1 + q), by rw [r3, World.drewN_drewN]⟩
      clear hR
      go_wp2
      go_roundw
      case rel => exact ⟨j + 1, by omega, by go_num, HR2.out⟩
      case measure => simp [intOf]; omega
    · go_wp2
      go_ret
      exact ⟨rfl, hR.out.2.2⟩

/-- Two structs in blocks. -/
theorem two_blks (w : World) (a b : Array Value) (t1 t2 : TypeId) :
    Blk ((w.alloc (.cells a t1)).alloc (.cells b t2)) w.heap.size a t1 ∧ Blk ((w.alloc (.cells a t1)).alloc (.cells b t2)) (w.heap.size + 1) b t2 ∧ ((w.alloc (.cells a t1)).alloc (.cells b t2)).heap.size = w.heap.size + 1 + 1 ∧ Below w.heap.size w ((w.alloc (.cells a t1)).alloc (.cells b t2)) := by
  have h1 := (Below.refl w.heap.size w).alloc (Nat.le_refl _) (.cells a t1)
  have h2 := h1.alloc h1.size (.cells b t2)
  have e1 : (w.alloc (.cells a t1)).heap.size = w.heap.size + 1 := by simp
  refine ⟨(Below.heap_alloc _ _ _ (by omega)).trans (heap_alloc_new _ _), ?_, by simp, h2⟩
  have := heap_alloc_new (w.alloc (.cells a t1)) (.cells b t2)
  rw [e1] at this
  exact this

def MarkSP (A : Option Addr) (n c : Nat) (xss : List (List Int)) (G : List (List Nat)) (k0 : Int) (w : World) (e : Ending) (w' : World) : Prop :=
  e = .returned (.int .i64 (k0 + tot xss)) ∧ StsO w' A n c (markSS k0 xss) G ∧ KeptG G w w'
set_option maxRecDepth 20000 in
set_option maxHeartbeats 1000000 in
theorem markIntSS (A : Option Addr) (n c : Nat) (xss : List (List Int)) (G : List (List Nat)) (k0 : Int) (w : World) (hx : StsO w A n c xss G) (ht : tot xss ≤ 2000000) (h0 : 0 ≤ k0) (h1 : k0 ≤ 2000000) :
    Calls Try.prog 16 #[.slice A n c, .int .i64 k0] w (MarkSP A n c xss G k0 w) := by
  have hc1 := (hx.sts hx.lt_).max_
  have hc2 := (hx.sts hx.lt_).cap_
  have HL := Lib.hid hx.len_
  unfold maxLen at hc1
  have HX := Lib.hid hx
  clear hx
  go_enter Try.func16, Try.ntmps16
  go_wp2
  go_loopw [1, 5] (fun q i wr => ∃ j : Nat, j ≤ n ∧ i = .int .i64 j ∧ q = .int .i64 (k0 + tot (xss.take j)) ∧ Hid (StsO wr A n c (markSS k0 (xss.take j) ++ xss.drop j) G ∧ KeptG G w wr)) (fun _ i _ => n - (intOf i).toNat)
  case atStart => exact ⟨0, Nat.zero_le _, rfl, by simp [tot], by simpa [markSS] using HX.out, KeptG.refl _ _⟩
  case round =>
    obtain ⟨j, hj, rfl, rfl, hT⟩ := hrel
    by_cases hlt : j < n
    · have hjx : j < xss.length := by rw [HL.out]; exact hlt
      obtain ⟨b, off, B, e, l, u, rfl, cB, ho, hput⟩ := hT.out.1.mark hlt
      rw [marked_at k0 hjx] at cB ho hput
      have htk := tot_take hjx
      have htl := tot_le (xss := xss) (j + 1)
      have HST := Lib.hid (marked_step k0 hjx)
      have HO := Lib.hid ho
      have HPUT := Lib.hid hput
      have HK := Lib.hid hT.out.2
      clear ho hput hT
      generalize slAt xss j = xs at *
      have e1 : k0 + ↑(tot (xss.take j)) + ↑xs.length = k0 + ↑(tot (xss.take (j + 1))) := by omega
      have hq0 : 0 ≤ k0 + ↑(tot (xss.take j)) := by omega
      have hq1 : k0 + ↑(tot (xss.take j)) ≤ 10000000 := by omega
      go_wp2_with fail
      ((with_reducible refine (Hlp.markIntS _ _ _ _ _ xs (k0 + ↑(tot (xss.take j))) wr HO.out (by omega) hq0 hq1).mono ?_); rintro e w1 ⟨rfl, hm, hk⟩)
      have hp := HPUT.out _ w1 (marks_len _ _) hm hk
      rw [HST.out] at hp
      have HN := Lib.hid (And.intro hp.1 (HK.out.trans hp.2))
      rw [e1]
      clear hm hk hp HPUT HO cB htk htl e1
      go_wp2
      go_roundw
      case rel => exact ⟨j + 1, by omega, by go_num, rfl, HN.out⟩
      case measure => simp [intOf]; omega
    · obtain rfl : j = n := by omega
      have hT1 := hT.out.1
      have hT2 := hT.out.2
      rw [List.drop_eq_nil_of_le (by rw [HL.out]; exact Nat.le_refl _), List.append_nil] at hT1
      rw [List.take_of_length_le (by rw [HL.out]; exact Nat.le_refl _)] at hT1 ⊢
      have HT := Lib.hid (show _ ∧ _ from ⟨hT1, hT2⟩)
      clear hT hT1 hT2 hlt
      go_wp2
      go_ret
      exact ⟨rfl, HT.out⟩
set_option maxRecDepth 20000 in
set_option maxHeartbeats 1000000 in
theorem heldIntSS (lo hi : Nat) (A : Option Addr) (n c : Nat) (xss : List (List Int)) (k0 : Int) (w : World) (hx : Sts lo hi w A n c (markSS k0 xss)) (ht : tot xss ≤ 2000000) (h0 : 0 ≤ k0) (h1 : k0 ≤ 2000000) :
    Calls Try.prog 17 #[.slice A n c, .int .i64 k0] w fun e w' => e = .returned (.int .i64 (k0 + tot xss)) ∧ w = w' := by
  have hc1 := hx.max_
  have hc2 := hx.cap_
  have HL : Hid (xss.length = n) := by show _ = _; rw [← hx.len_, markSS_len]
  unfold maxLen at hc1
  have HX := Lib.hid hx
  clear hx
  go_enter Try.func17, Try.ntmps17
  go_wp2
  go_loop [1, 5] (fun q i => ∃ j : Nat, j ≤ n ∧ i = .int .i64 j ∧ q = .int .i64 (k0 + tot (xss.take j))) (fun _ i => n - (intOf i).toNat)
  case atStart => exact ⟨0, Nat.zero_le _, rfl, by simp [tot]⟩
  case round =>
    obtain ⟨j, hj, rfl, rfl⟩ := hrel
    by_cases hlt : j < n
    · have hjx : j < xss.length := by rw [HL.out]; exact hlt
      obtain ⟨b, off, B, e, rfl, _, _, _, cB, ih⟩ := HX.out.at_ hlt
      rw [markSS_at k0 hjx, marks_len] at cB ih
      have htk := tot_take hjx
      have htl := tot_le (xss := xss) (j + 1)
      have IH := Lib.hid ih
      clear ih
      generalize slAt xss j = xs at *
      have e1 : k0 + ↑(tot (xss.take j)) + ↑xs.length = k0 + ↑(tot (xss.take (j + 1))) := by omega
      have hq0 : 0 ≤ k0 + ↑(tot (xss.take j)) := by omega
      have hq1 : k0 + ↑(tot (xss.take j)) ≤ 10000000 := by omega
      go_wp2_with fail
      ((with_reducible refine (Hlp.heldIntS _ _ _ _ _ (k0 + ↑(tot (xss.take j))) w IH.out (by omega) hq0 hq1).mono ?_); rintro e w1 ⟨rfl, rfl⟩)
      rw [e1]
      have hq2 : 0 ≤ k0 + ↑(tot (xss.take (j + 1))) := by omega
      clear htk htl e1
      go_wp2
      go_round
      case rel => exact ⟨j + 1, by omega, by go_num, rfl⟩
      case measure => simp [intOf]; omega
    · obtain rfl : j = n := by omega
      rw [List.take_of_length_le (by rw [HL.out]; exact Nat.le_refl _)]
      clear hlt
      go_wp2
      go_ret
      exact ⟨rfl, rfl⟩
set_option maxRecDepth 20000 in
set_option maxHeartbeats 1000000 in
theorem szIntSS (lo hi : Nat) (A : Option Addr) (n c : Nat) (xss : List (List Int)) (w : World) (hx : Sts lo hi w A n c xss) :
    Calls Try.prog 18 #[.slice A n c, .int .i64 1048576] w fun e w' => (∃ v : Int, e = .returned (.int .i64 v) ∧ (v < 0 ∨ (0 ≤ v ∧ n + tot xss ≤ 1048576))) ∧ w = w' := by
  have hc1 := hx.max_
  have hc2 := hx.cap_
  have HL := Lib.hid hx.len_
  unfold maxLen at hc1
  have HX := Lib.hid hx
  clear hx
  by_cases hb : (n : Int) ≤ 1048576
  case neg =>
    go_enter Try.func18, Try.ntmps18
    go_wp2
    go_ret
    exact ⟨⟨-1, rfl, .inl (by omega)⟩, rfl⟩
  go_enter Try.func18, Try.ntmps18
  go_wp2
  go_loop [1, 5] (fun q i => ∃ j : Nat, j ≤ n ∧ i = .int .i64 j ∧ q = .int .i64 (1048576 - n - tot (xss.take j)) ∧ (tot (xss.take j) : Int) ≤ 1048576 - n) (fun _ i => n - (intOf i).toNat)
  case atStart => exact ⟨0, Nat.zero_le _, rfl, by simp [tot], by simp [tot]; omega⟩
  case round =>
    obtain ⟨j, hj, rfl, rfl, hT⟩ := hrel
    by_cases hlt : j < n
    · have hjx : j < xss.length := by rw [HL.out]; exact hlt
      obtain ⟨b, off, B, e, rfl, _, _, _, cB, ih⟩ := HX.out.at_ hlt
      have hm1 : (slAt xss j).length ≤ maxLen := Nat.le_trans ih.2.1 ih.2.2.1
      have htk := tot_take hjx
      clear ih
      generalize slAt xss j = xs at *
      go_wp2_with fail
      ((with_reducible refine (szIntS _ _ _ (1048576 - (n : Int) - tot (xss.take j)) _ hm1 (by omega) (by omega)).mono ?_); rintro e w1 ⟨rfl, rfl⟩)
      by_cases h2 : (xs.length : Int) ≤ 1048576 - n - tot (xss.take j)
      · rw [if_pos h2]
        have e1 : 1048576 - (n : Int) - ↑(tot (xss.take j)) - ↑xs.length = 1048576 - (n : Int) - ↑(tot (xss.take (j + 1))) := by omega
        rw [e1]
        have hq2 : (0 : Int) ≤ 1048576 - (n : Int) - ↑(tot (xss.take (j + 1))) := by omega
        have HQ := Lib.hid hq2
        have hd : decide (1048576 - (n : Int) - ↑(tot (xss.take (j + 1))) < 0) = false := by simp; omega
        clear e1 htk h2 hT hm1
        go_wp2
        go_round
        case rel => exact ⟨j + 1, by omega, by go_num, rfl, by have := HQ.out; omega⟩
        case measure => simp [intOf]; omega
      · rw [if_neg h2]
        go_wp2
        go_ret
        exact ⟨⟨-1, rfl, .inl (by omega)⟩, rfl⟩
    · obtain rfl : j = n := by omega
      rw [List.take_of_length_le (by rw [HL.out]; exact Nat.le_refl _)] at *
      go_wp2
      go_ret
      exact ⟨⟨_, rfl, .inr ⟨by omega, by omega⟩⟩, rfl⟩

end H8
end Go.Proofs.Ytoghgliijjfppab
