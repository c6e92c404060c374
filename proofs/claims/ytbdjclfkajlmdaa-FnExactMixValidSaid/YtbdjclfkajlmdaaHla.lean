/-
  Several parts of the proof in one text.
-/
import Derived.Test.YtbdjclfkajlmdaaChecked
import Derived.Test.YtbdjclfkajlmdaaIla
import Derived.BigQuiet
import Derived.Test.YtbdjclfkajlmdaaPq
/-
  Contracts of the laws' helpers on slices of ints: comparing, marking, copying.
-/
namespace Go.Proofs.Ytbdjclfkajlmdaa
open Go.RowKit
namespace Hlp
open Il

theorem boolPost_drew (b : Bool) (w : World) (d e : Nat) : BoolPost b w (.returned (.bool b)) ((w.drewN d).drewN e) := ⟨rfl, d + e, World.drewN_drewN w d e⟩

theorem eq_of_take {xs ys : List Int} {n : Nat} (hx : xs.length = n) (hy : ys.length = n) (h : xs.take n = ys.take n) : xs = ys := by
  rwa [List.take_of_length_le (by omega), List.take_of_length_le (by omega)] at h

set_option maxRecDepth 20000 in
theorem sameInts (la ha lb hb : Nat) (A B : Option Addr) (n m c d : Nat) (xs ys : List Int) (w : World) (hx : Ints la ha w A n c xs) (hy : Ints lb hb w B m d ys) :
    Calls Try.prog 17 #[.slice A n c, .slice B m d] w (BoolPost (decide (xs = ys)) w) := by
  have hc1 := hx.2.2.1
  have hc2 := hx.2.1
  have hc3 := hy.2.2.1
  have hc4 := hy.2.1
  unfold maxLen at hc1 hc3
  have HX := Lib.hid hx
  have HY := Lib.hid hy
  by_cases hne : n = m
  · subst hne
    have hl : ((n : Int) != (n : Int)) = false := by simp
    clear hx hy
    go_enter Try.func17, Try.ntmps17
    go_wp2
    go_loopw [5] (fun i wr => ∃ k : Nat, k ≤ n ∧ i = .int .i64 k ∧ Hid (xs.take k = ys.take k ∧ ∃ dd, wr = w.drewN dd)) (fun i _ => n - (intOf i).toNat)
    case atStart => exact ⟨0, Nat.zero_le _, rfl, rfl, 0, rfl⟩
    case round =>
      obtain ⟨k, hk, rfl, hT⟩ := hrel
      obtain ⟨hT, dd, rfl⟩ := hT
      have HT := Lib.hid hT
      clear hT
      by_cases hlt : k < n
      · obtain ⟨b, off, rfl, _, _, hcx⟩ := HX.out.at_ hlt
        obtain ⟨b2, off2, rfl, _, _, hcy⟩ := HY.out.at_ hlt
        generalize hxe : xs.getD k 0 = x at hcx
        generalize hye : ys.getD k 0 = y at hcy
        have HXE := Lib.hid hxe
        have HYE := Lib.hid hye
        clear hxe hye
        by_cases hxy : x = y
        · subst hxy
          go_wp2
          go_quiet (fail)
          go_wp2
          refine ⟨⟨k + 1, by omega, by go_num, take_eq_succ (by rw [HX.out.1]; exact hlt) (by rw [HY.out.1]; exact hlt) HT.out (HXE.out.trans HYE.out.symm), _, rfl⟩, ?_⟩
          simp [intOf]
          omega
        · have hb1 : (x != y) = true := by simpa using hxy
          have hfin : decide (xs = ys) = false := by
            simp only [decide_eq_false_iff_not]
            rintro rfl
            exact hxy (HXE.out.symm.trans HYE.out)
          have HF := Lib.hid hfin
          clear hxy hfin
          go_wp2
          go_quiet (fail)
          go_wp2
          go_ret
          rw [HF.out]
          exact boolPost_drew false w _ _
      · have hkn : k = n := by omega
        have hfin : decide (xs = ys) = true := by
          simp only [decide_eq_true_eq]
          exact eq_of_take HX.out.1 HY.out.1 (by rw [← hkn]; exact HT.out)
        have HF := Lib.hid hfin
        clear hfin hkn
        go_wp2
        go_ret
        rw [HF.out]
        exact ⟨rfl, _, rfl⟩
  · have hl : ((n : Int) != (m : Int)) = true := by simp; omega
    have hne2 : decide (xs = ys) = false := by
      simp only [decide_eq_false_iff_not]
      rintro rfl
      exact hne (hx.1.symm.trans hy.1)
    rw [hne2]
    clear hne2 hx hy hne
    go_enter Try.func17, Try.ntmps17
    go_wp2
    go_ret
    exact ⟨rfl, 0, rfl⟩

set_option maxRecDepth 20000 in
theorem eqIntS (la ha lb hb : Nat) (A B : Option Addr) (n m c d : Nat) (xs ys : List Int) (w : World) (hx : Ints la ha w A n c xs) (hy : Ints lb hb w B m d ys) :
    Calls Try.prog 80 #[.slice A n c, .slice B m d] w (BoolPost (decide (xs = ys)) w) := by
  have hc1 := hx.2.2.1
  have hc2 := hx.2.1
  have hc3 := hy.2.2.1
  have hc4 := hy.2.1
  unfold maxLen at hc1 hc3
  have HX := Lib.hid hx
  have HY := Lib.hid hy
  by_cases hne : n = m
  · subst hne
    have hl : ((n : Int) != (n : Int)) = false := by simp
    clear hx hy
    go_enter Try.func80, Try.ntmps80
    go_wp2
    go_loopw [5] (fun i wr => ∃ k : Nat, k ≤ n ∧ i = .int .i64 k ∧ Hid (xs.take k = ys.take k ∧ ∃ dd, wr = w.drewN dd)) (fun i _ => n - (intOf i).toNat)
    case atStart => exact ⟨0, Nat.zero_le _, rfl, rfl, 0, rfl⟩
    case round =>
      obtain ⟨k, hk, rfl, hT⟩ := hrel
      obtain ⟨hT, dd, rfl⟩ := hT
      have HT := Lib.hid hT
      clear hT
      by_cases hlt : k < n
      · obtain ⟨b, off, rfl, _, _, hcx⟩ := HX.out.at_ hlt
        obtain ⟨b2, off2, rfl, _, _, hcy⟩ := HY.out.at_ hlt
        generalize hxe : xs.getD k 0 = x at hcx
        generalize hye : ys.getD k 0 = y at hcy
        have HXE := Lib.hid hxe
        have HYE := Lib.hid hye
        clear hxe hye
        by_cases hxy : x = y
        · subst hxy
          go_wp2
          go_quiet (fail)
          go_wp2
          refine ⟨⟨k + 1, by omega, by go_num, take_eq_succ (by rw [HX.out.1]; exact hlt) (by rw [HY.out.1]; exact hlt) HT.out (HXE.out.trans HYE.out.symm), _, rfl⟩, ?_⟩
          simp [intOf]
          omega
        · have hb1 : (x != y) = true := by simpa using hxy
          have hfin : decide (xs = ys) = false := by
            simp only [decide_eq_false_iff_not]
            rintro rfl
            exact hxy (HXE.out.symm.trans HYE.out)
          have HF := Lib.hid hfin
          clear hxy hfin
          go_wp2
          go_quiet (fail)
          go_wp2
          go_ret
          rw [HF.out]
          exact boolPost_drew false w _ _
      · have hkn : k = n := by omega
        have hfin : decide (xs = ys) = true := by
          simp only [decide_eq_true_eq]
          exact eq_of_take HX.out.1 HY.out.1 (by rw [← hkn]; exact HT.out)
        have HF := Lib.hid hfin
        clear hfin hkn
        go_wp2
        go_ret
        rw [HF.out]
        exact ⟨rfl, _, rfl⟩
  · have hl : ((n : Int) != (m : Int)) = true := by simp; omega
    have hne2 : decide (xs = ys) = false := by
      simp only [decide_eq_false_iff_not]
      rintro rfl
      exact hne (hx.1.symm.trans hy.1)
    rw [hne2]
    clear hne2 hx hy hne
    go_enter Try.func80, Try.ntmps80
    go_wp2
    go_ret
    exact ⟨rfl, 0, rfl⟩

def MarkPost (lo hi : Nat) (A : Option Addr) (n c : Nat) (k0 : Int) (w : World) (e : Ending) (w' : World) : Prop :=
  e = .returned (.int .i64 (k0 + n)) ∧ Own lo hi w' A n c (marks k0 n) ∧ Kept lo hi w w'

set_option maxRecDepth 20000 in
theorem markIntS (lo hi : Nat) (A : Option Addr) (n c : Nat) (xs : List Int) (k0 : Int) (w : World) (hx : Own lo hi w A n c xs) (hn : n ≤ 10000000) (h0 : 0 ≤ k0) (h1 : k0 ≤ 10000000) :
    Calls Try.prog 85 #[.slice A n c, .int .i64 k0] w (MarkPost lo hi A n c k0 w) := by
  have HX := Lib.hid hx
  clear hx
  go_enter Try.func85, Try.ntmps85
  go_wp2
  go_loopw [1, 5] (fun q i wr => ∃ k : Nat, k ≤ n ∧ i = .int .i64 k ∧ q = .int .i64 (k0 + k) ∧ Hid (Own lo hi wr A n c (marks k0 k ++ xs.drop k) ∧ Kept lo hi w wr)) (fun _ i _ => n - (intOf i).toNat)
  case atStart => exact ⟨0, Nat.zero_le _, rfl, by simp, by simpa [marks] using HX.out, Kept.refl _ _ _⟩
  case round =>
    obtain ⟨k, hk, rfl, rfl, hT⟩ := hrel
    by_cases hlt : k < n
    · obtain ⟨b, off, rfl, hb1, hb2, hcx⟩ := hT.out.1.1.at_ hlt
      have hfz := hT.out.1.2 b off (by omega) rfl k hlt
      have hT' := hT.out.1.set_ hlt (k0 + k)
      rw [marks_step k0 xs (by rw [HX.out.1.1]; exact hlt)] at hT'
      have HT := Lib.hid (show _ ∧ _ from ⟨hT', hT.out.2.set (p := ⟨b, off + k, none⟩) hb1 hb2 (.int .i64 (k0 + k))⟩)
      clear hT hT'
      go_wp2
      go_roundw
      case rel => exact ⟨k + 1, by omega, by go_num, by go_num, HT.out⟩
      case measure => simp [intOf]; omega
    · have hkn : k = n := by omega
      subst hkn
      have hT1 := hT.out.1
      have hT2 := hT.out.2
      rw [List.drop_eq_nil_of_le (by rw [HX.out.1.1]; exact Nat.le_refl _), List.append_nil] at hT1
      have HT := Lib.hid (show _ ∧ _ from ⟨hT1, hT2⟩)
      clear hT hT1 hT2
      go_wp2
      go_ret
      exact ⟨rfl, HT.out⟩

set_option maxRecDepth 20000 in
theorem heldIntS (lo hi : Nat) (A : Option Addr) (n c : Nat) (k0 : Int) (w : World) (hx : Ints lo hi w A n c (marks k0 n)) (hn : n ≤ 10000000) (h0 : 0 ≤ k0) (h1 : k0 ≤ 10000000) :
    Calls Try.prog 86 #[.slice A n c, .int .i64 k0] w fun e w' => e = .returned (.int .i64 (k0 + n)) ∧ w = w' := by
  have HX := Lib.hid hx
  clear hx
  go_enter Try.func86, Try.ntmps86
  go_wp2
  go_loop [1, 5] (fun q i => ∃ k : Nat, k ≤ n ∧ i = .int .i64 k ∧ q = .int .i64 (k0 + k)) (fun _ i => n - (intOf i).toNat)
  case atStart => exact ⟨0, Nat.zero_le _, rfl, by simp⟩
  case round =>
    obtain ⟨k, hk, rfl, rfl⟩ := hrel
    by_cases hlt : k < n
    · obtain ⟨b, off, rfl, hb1, hb2, hcx⟩ := HX.out.at_ hlt
      rw [marks_at k0 hlt] at hcx
      go_wp2
      go_round
      case rel => exact ⟨k + 1, by omega, by go_num, by go_num⟩
      case measure => simp [intOf]; omega
    · have hkn : k = n := by omega
      subst hkn
      go_wp2
      go_ret
      exact ⟨rfl, rfl⟩

theorem intInfo : (Try.prog.info? 3).map (fun i => (i.zero, i.size, i.bytes)) = some (some (.int .i64 0), 1, 8) := by kernel_rfl

set_option maxRecDepth 20000 in
theorem toIntS (lo hi : Nat) (A : Option Addr) (n c : Nat) (xs : List Int) (w : World) (hx : Ints lo hi w A n c xs) (hn : n ≤ 10000000) :
    Calls Try.prog 76 #[.slice A n c] w (NewInts w xs) := by
  have hl := hx.1
  have HX := Lib.hid hx
  have HL := Lib.hid hl
  have hmk := run_make_row' (P := Try.prog) 23 3 (.int .i64 0) 8 Try.underlying23 intInfo rfl .i64 .i64 n (by omega) (by omega)
  have hown := own_made w 3 n (by unfold maxLen; omega)
  have hbel : Below w.heap.size w (w.alloc (.cells (madeCells #[.int .i64 0] n) 3)) := (Below.refl _ _).alloc (Nat.le_refl _) _
  have hsz : (w.alloc (.cells (madeCells #[.int .i64 0] n) 3)).heap.size = w.heap.size + 1 := by simp
  have HO := Lib.hid hown
  have HB := Lib.hid hbel
  have HS := Lib.hid hsz
  clear hx hl hown hbel hsz
  go_enter Try.func76, Try.ntmps76
  go_wp2
  clear hmk
  go_loopw [4] (fun i wr => ∃ k : Nat, k ≤ n ∧ i = .int .i64 k ∧ Hid (Own w.heap.size (w.heap.size + 1) wr (some ⟨w.heap.size, 0, none⟩) n n (xs.take k ++ List.replicate (n - k) 0) ∧ Below w.heap.size w wr ∧ wr.heap.size = w.heap.size + 1)) (fun i _ => n - (intOf i).toNat)
  case atStart => exact ⟨0, Nat.zero_le _, rfl, by simpa using HO.out, HB.out, HS.out⟩
  case round =>
    obtain ⟨k, hk, rfl, hT⟩ := hrel
    by_cases hlt : k < n
    · obtain ⟨b, off, rfl, hb1, hb2, hcx⟩ := HX.out.at_ hlt
      have hb3 : b < w.heap.size := World.block_lt_of_cell? w _ hcx
      have hcx' := (hT.out.2.1.cell (p := ⟨b, off + k, none⟩) hb3).trans hcx
      obtain ⟨b2, off2, e2, _, _, hcy⟩ := hT.out.1.1.at_ hlt
      simp only [Option.some.injEq, Addr.mk.injEq, and_true] at e2
      obtain ⟨rfl, rfl⟩ := e2
      have hfz := hT.out.1.2 w.heap.size 0 (by omega) rfl k hlt
      have hT' := hT.out.1.set_ hlt (xs.getD k 0)
      rw [copy_step xs HL.out hlt] at hT'
      have hT3 : (wr.setCell ⟨w.heap.size, 0 + k, none⟩ (.int .i64 (xs.getD k 0))).heap.size = w.heap.size + 1 := by rw [← hT.out.2.2]; simp [World.setCell]
      have HT := Lib.hid (show _ ∧ _ ∧ _ from ⟨hT', hT.out.2.1.setCell (p := ⟨w.heap.size, 0 + k, none⟩) (Nat.le_refl _) (.int .i64 (xs.getD k 0)), hT3⟩)
      generalize xs.getD k 0 = x at hcx' HT
      rw [Nat.zero_add] at hcy hfz HT
      clear hT hT' hT3 hcx
      go_wp2
      go_roundw
      case rel => exact ⟨k + 1, by omega, by go_num, HT.out⟩
      case measure => simp [intOf]; omega
    · have hkn : k = n := by omega
      subst hkn
      have hT1 := hT.out.1
      have hT2 := hT.out.2.1
      have hT3 := hT.out.2.2
      rw [List.take_of_length_le (by rw [HL.out]; exact Nat.le_refl _), Nat.sub_self, List.replicate_zero, List.append_nil] at hT1
      have hpost : NewInts w xs (.returned (.slice (some ⟨w.heap.size, 0, none⟩) k k)) wr := ⟨_, k, by rw [HL.out], by rw [hT3, HL.out]; exact hT1, hT2⟩
      have HT := Lib.hid hpost
      clear hT hT1 hT2 hT3 hpost
      go_wp2
      go_ret
      exact HT.out

end Hlp
end Go.Proofs.Ytbdjclfkajlmdaa

/-
  Contracts of the laws' helpers on packets: equal ones are found equal; marking and looking for marks.
-/
namespace Go.Proofs.Ytbdjclfkajlmdaa
open Go.RowKit
namespace Hlp5
open Il Pm Pq LawB

/-- A block holds these cells. -/
def Blk (w : World) (b : Nat) (cs : Array Value) (t : TypeId) : Prop := w.heap[b]? = some (.cells cs t (0, 0))
theorem Blk.below {w w' : World} {b B : Nat} {cs : Array Value} {t : TypeId} (h : Blk w b cs t) (hb : Below B w w') (hB : w.heap.size ≤ B) : Blk w' b cs t :=
  (hb.block b (by have := (Array.getElem?_eq_some_iff.1 h).1; omega)).trans h

/-- []int{x} -/
theorem ints_lit1 (w : World) (x : Int) : Ints w.heap.size (w.heap.size + 1) (w.alloc (.cells #[.int .i64 x] 3)) (some ⟨w.heap.size, 0, none⟩) 1 1 [x] := by
  have hh : (w.alloc (.cells #[.int .i64 x] 3)).heap[w.heap.size]? = some (.cells #[.int .i64 x] 3 (0, 0)) := heap_alloc_new _ _
  refine ⟨rfl, Nat.le_refl _, by unfold maxLen; omega, fun _ => ⟨_, 0, rfl, Nat.le_refl _, by omega, by simp, fun j hj => ?_⟩⟩
  rw [Nat.zero_add, cell_of_row _ _ j _ _ _ hh]
  obtain rfl : j = 0 := by omega
  rfl

set_option maxRecDepth 20000 in
theorem samePacket (p : Pkt) (A B A2 B2 : Option Addr) (c d c2 d2 l1 h1 l2 h2 l3 h3 l4 h4 : Nat) (w : World) (i1 : Ints l1 h1 w A p.hd.length c p.hd) (i2 : Ints l2 h2 w B p.bd.length d p.bd) (i3 : Ints l3 h3 w A2 p.hd.length c2 p.hd) (i4 : Ints l4 h4 w B2 p.bd.length d2 p.bd) :
    Calls Try.prog 12 #[.agg #[.int .i64 p.el, .slice A p.hd.length c, .int .i64 p.tag, .slice B p.bd.length d], .agg #[.int .i64 p.el, .slice A2 p.hd.length c2, .int .i64 p.tag, .slice B2 p.bd.length d2]] w (BoolB true w) := by
  have h0 : Below w.heap.size w (w.alloc (.cells #[.int .i64 p.el, .slice A p.hd.length c, .int .i64 p.tag, .slice B p.bd.length d] 27)) := (Below.refl _ _).alloc (Nat.le_refl _) _
  have hb0 := h0.alloc h0.size (.cells #[.int .i64 p.el, .slice A2 p.hd.length c2, .int .i64 p.tag, .slice B2 p.bd.length d2] 27)
  have I1 := Lib.hid (i1.below hb0 (Nat.le_refl _))
  have I2 := Lib.hid (i2.below hb0 (Nat.le_refl _))
  have I3 := Lib.hid (i3.below hb0 (Nat.le_refl _))
  have I4 := Lib.hid (i4.below hb0 (Nat.le_refl _))
  have B0 := Lib.hid hb0
  clear i1 i2 i3 i4 h0 hb0
  obtain ⟨el, hd, tag, bd⟩ := p
  dsimp only at *
  go_enter Try.func12, Try.ntmps12
  go_wp2_with fail
  ((with_reducible refine (Hlp.sameInts _ _ _ _ _ _ _ _ _ _ _ _ _ I1.out I3.out).mono ?_); rintro e w1 ⟨rfl, nn, rfl⟩)
  rw [decide_eq_true rfl]
  go_wp2_with fail
  ((with_reducible refine (Hlp.sameInts _ _ _ _ _ _ _ _ _ _ _ _ _ (I2.out.drewN _) (I4.out.drewN _)).mono ?_); rintro e w1 ⟨rfl, nm, rfl⟩)
  rw [decide_eq_true rfl]
  go_wp2
  go_ret
  exact ⟨rfl, B0.out.os, B0.out.tape, B0.out.output, B0.out.size, B0.out.block⟩


/-- Only blocks b1 (if n is not 0) and b2 (if m is not 0) of those that were there have been written. -/
structure Kept2 (n m b1 b2 : Nat) (w w' : World) : Prop where
  os : w'.os = w.os
  tape : w'.tape = w.tape
  output : w'.output = w.output
  size : w.heap.size ≤ w'.heap.size
  block : ∀ b, b < w.heap.size → (0 < n → b ≠ b1) → (0 < m → b ≠ b2) → w'.heap[b]? = w.heap[b]?
theorem ints_kept2 {lo hi N M b1 b2 : Nat} {w w' : World} {A : Option Addr} {n c : Nat} {xs : List Int} (h : Ints lo hi w A n c xs) (hk : Kept2 N M b1 b2 w w') (h1 : 0 < N → hi ≤ b1 ∨ b1 < lo) (h2 : 0 < M → hi ≤ b2 ∨ b2 < lo) : Ints lo hi w' A n c xs :=
  h.keep hk.size fun b q1 q2 q3 => hk.block b q3 (fun e => by have := h1 e; omega) (fun e => by have := h2 e; omega)
/-- A packet in other blocks. -/
theorem lies_kept2 {N M b1 b2 g1 g2 : Nat} {w w' : World} {A B : Option Addr} {c d : Nat} {p : Pkt} (h : Lies w g1 g2 A c B d p) (hk : Kept2 N M b1 b2 w w') (l1 : 0 < p.hd.length → (0 < N → g1 ≠ b1) ∧ (0 < M → g1 ≠ b2)) (l2 : 0 < p.bd.length → (0 < N → g2 ≠ b1) ∧ (0 < M → g2 ≠ b2)) : Lies w' g1 g2 A c B d p := by
  have key : ∀ (g n c : Nat) (A : Option Addr) (xs : List Int), Il.Own g (g + 1) w A n c xs → (0 < n → (0 < N → g ≠ b1) ∧ (0 < M → g ≠ b2)) → Il.Own g (g + 1) w' A n c xs := fun g n c A xs ho hd => by
    rcases Nat.eq_zero_or_pos n with rfl | hn
    · exact ⟨⟨ho.1.1, ho.1.2.1, ho.1.2.2.1, fun h => absurd h (by omega)⟩, fun _ _ h => absurd h (by omega)⟩
    · exact ho.keep hk.size fun b q1 q2 q3 => hk.block b q3 (fun e => by have := (hd hn).1 e; omega) (fun e => by have := (hd hn).2 e; omega)
  exact ⟨key _ _ _ _ _ h.1 l1, key _ _ _ _ _ h.2.1 l2, h.2.2⟩
theorem lies_lt {w : World} {b1 b2 : Nat} {A B : Option Addr} {c d : Nat} {p : Pkt} (h : Lies w b1 b2 A c B d p) : (0 < p.hd.length → b1 < w.heap.size) ∧ (0 < p.bd.length → b2 < w.heap.size) := by
  refine ⟨fun hn => ?_, fun hn => ?_⟩
  · obtain ⟨b, off, e, q1, q2, q3, q4⟩ := h.1.1.2.2.2 hn
    omega
  · obtain ⟨b, off, e, q1, q2, q3, q4⟩ := h.2.1.1.2.2.2 hn
    omega
theorem blk_kept2 {N M b b1 b2 : Nat} {w w' : World} {cs : Array Value} {t : TypeId} (h : Blk w b cs t) (hk : Kept2 N M b1 b2 w w') (e1 : 0 < N → b ≠ b1) (e2 : 0 < M → b ≠ b2) : Blk w' b cs t :=
  (hk.block b (Array.getElem?_eq_some_iff.1 h).1 e1 e2).trans h
theorem below_kept2 {N M B b1 b2 : Nat} {w0 w w' : World} (h : Below B w0 w) (hk : Kept2 N M b1 b2 w w') (hs : B ≤ w.heap.size) (e1 : B ≤ b1) (e2 : B ≤ b2) : Below B w0 w' :=
  ⟨hk.os.trans h.os, hk.tape.trans h.tape, hk.output.trans h.output, Nat.le_trans h.size hk.size, fun b hb => (hk.block b (by omega) (by omega) (by omega)).trans (h.block b hb)⟩
theorem lies_kept {lo hi b1 b2 : Nat} {w w' : World} {A B : Option Addr} {c d : Nat} {p : Pkt} (h : Lies w b1 b2 A c B d p) (hk : Kept lo hi w w') (hd : (b1 + 1 ≤ lo ∨ hi ≤ b1) ∧ (b2 + 1 ≤ lo ∨ hi ≤ b2)) : Lies w' b1 b2 A c B d p :=
  h.keep (Nat.le_of_eq hk.size.symm) fun b hb _ => hk.block b (by omega)
theorem ints_keptC {lo hi b1 : Nat} {w w' : World} {A : Option Addr} {n c : Nat} {xs : List Int} (h : Il.Own b1 (b1 + 1) w A n c xs) (hk : Kept lo hi w w') (hd : 0 < n → b1 + 1 ≤ lo ∨ hi ≤ b1) : Il.Own b1 (b1 + 1) w' A n c xs := by
  rcases Nat.eq_zero_or_pos n with rfl | hn
  · exact ⟨⟨h.1.1, h.1.2.1, h.1.2.2.1, fun h => absurd h (by omega)⟩, fun _ _ h => absurd h (by omega)⟩
  · exact h.kept hk (hd hn)
theorem lies_keptC {lo hi b1 b2 : Nat} {w w' : World} {A B : Option Addr} {c d : Nat} {p : Pkt} (h : Lies w b1 b2 A c B d p) (hk : Kept lo hi w w') (h1 : 0 < p.hd.length → b1 + 1 ≤ lo ∨ hi ≤ b1) (h2 : 0 < p.bd.length → b2 + 1 ≤ lo ∨ hi ≤ b2) : Lies w' b1 b2 A c B d p :=
  ⟨ints_keptC h.1 hk h1, ints_keptC h.2.1 hk h2, h.2.2⟩
theorem blk_kept {lo hi b : Nat} {w w' : World} {cs : Array Value} {t : TypeId} (h : Blk w b cs t) (hk : Kept lo hi w w') (hd : b < lo ∨ hi ≤ b) : Blk w' b cs t := (hk.block b hd).trans h

/-- One cell of a block of four is written. -/
theorem blk_set1 {w : World} {b : Nat} {v0 v1 v2 v3 v : Value} {t : TypeId} (h : Blk w b #[v0, v1, v2, v3] t) : Blk (w.setCell ⟨b, 1, none⟩ v) b #[v0, v, v2, v3] t := by
  unfold Blk at h ⊢
  simp [World.setCell, Array.getElem?_modify, h]
theorem blk_set2 {w : World} {b : Nat} {v0 v1 v2 v3 v : Value} {t : TypeId} (h : Blk w b #[v0, v1, v2, v3] t) : Blk (w.setCell ⟨b, 2, none⟩ v) b #[v0, v1, v, v3] t := by
  unfold Blk at h ⊢
  simp [World.setCell, Array.getElem?_modify, h]
theorem blk_set3 {w : World} {b : Nat} {v0 v1 v2 v3 v : Value} {t : TypeId} (h : Blk w b #[v0, v1, v2, v3] t) : Blk (w.setCell ⟨b, 3, none⟩ v) b #[v0, v1, v2, v] t := by
  unfold Blk at h ⊢
  simp [World.setCell, Array.getElem?_modify, h]
theorem blk_far {w : World} {b : Nat} {cs : Array Value} {t : TypeId} (h : Blk w b cs t) {q : Addr} (hq : b ≠ q.block) (v : Value) : Blk (w.setCell q v) b cs t :=
  (Below.heap_setCell w q v b hq).trans h
theorem ints_far {lo hi : Nat} {w : World} {A : Option Addr} {n c : Nat} {xs : List Int} (h : Ints lo hi w A n c xs) {q : Addr} (hq : q.block < lo ∨ hi ≤ q.block) (v : Value) : Ints lo hi (w.setCell q v) A n c xs :=
  h.keep (by simp [World.setCell]) fun b q1 q2 _ => Below.heap_setCell w q v b (by omega)
set_option maxRecDepth 20000 in
theorem own_far {lo hi : Nat} {w : World} {A : Option Addr} {n c : Nat} {xs : List Int} (h : Il.Own lo hi w A n c xs) {q : Addr} (hq : q.block < lo ∨ hi ≤ q.block) (v : Value) : Il.Own lo hi (w.setCell q v) A n c xs :=
  h.keep (by simp [World.setCell]) fun b q1 q2 _ => Below.heap_setCell w q v b (by omega)

set_option maxRecDepth 20000 in
theorem eqPacket (p : Pkt) (A B A2 B2 : Option Addr) (c d c2 d2 l1 h1 l2 h2 l3 h3 l4 h4 : Nat) (w : World) (i1 : Ints l1 h1 w A p.hd.length c p.hd) (i2 : Ints l2 h2 w B p.bd.length d p.bd) (i3 : Ints l3 h3 w A2 p.hd.length c2 p.hd) (i4 : Ints l4 h4 w B2 p.bd.length d2 p.bd) :
    Calls Try.prog 27 #[.agg #[.int .i64 p.el, .slice A p.hd.length c, .int .i64 p.tag, .slice B p.bd.length d], .agg #[.int .i64 p.el, .slice A2 p.hd.length c2, .int .i64 p.tag, .slice B2 p.bd.length d2]] w (BoolB true w) := by
  have h0 : Below w.heap.size w (w.alloc (.cells #[.int .i64 p.el, .slice A p.hd.length c, .int .i64 p.tag, .slice B p.bd.length d] 27)) := (Below.refl _ _).alloc (Nat.le_refl _) _
  have hb0 := h0.alloc h0.size (.cells #[.int .i64 p.el, .slice A2 p.hd.length c2, .int .i64 p.tag, .slice B2 p.bd.length d2] 27)
  have I1 := Lib.hid (i1.below hb0 (Nat.le_refl _))
  have I2 := Lib.hid (i2.below hb0 (Nat.le_refl _))
  have I3 := Lib.hid (i3.below hb0 (Nat.le_refl _))
  have I4 := Lib.hid (i4.below hb0 (Nat.le_refl _))
  have B0 := Lib.hid hb0
  clear i1 i2 i3 i4 h0 hb0
  obtain ⟨el, hd, tag, bd⟩ := p
  dsimp only at *
  go_enter Try.func27, Try.ntmps27
  go_wp2_with fail
  ((with_reducible refine (Hlp.eqIntS _ _ _ _ _ _ _ _ _ _ _ _ _ I1.out I3.out).mono ?_); rintro e w1 ⟨rfl, nn, rfl⟩)
  rw [decide_eq_true rfl]
  go_wp2_with fail
  ((with_reducible refine (Hlp.eqIntS _ _ _ _ _ _ _ _ _ _ _ _ _ (I2.out.drewN _) (I4.out.drewN _)).mono ?_); rintro e w1 ⟨rfl, nm, rfl⟩)
  rw [decide_eq_true rfl]
  go_wp2
  go_ret
  exact ⟨rfl, B0.out.os, B0.out.tape, B0.out.output, B0.out.size, B0.out.block⟩

def MarkP (n m b1 b2 : Nat) (A B : Option Addr) (c d : Nat) (k0 : Int) (w : World) (e : Ending) (w' : World) : Prop :=
  e = .returned (.int .i64 (k0 + n + m)) ∧ Il.Own b1 (b1 + 1) w' A n c (marks k0 n) ∧ Il.Own b2 (b2 + 1) w' B m d (marks (k0 + n) m) ∧ Kept2 n m b1 b2 w w'
/-- The range of blocks that marking a slice may write. -/
theorem own_rng {b n c : Nat} {w : World} {A : Option Addr} {xs : List Int} (h : Il.Own b (b + 1) w A n c xs) : ∃ lo hi, Il.Own lo hi w A n c xs ∧ (n = 0 → lo = 0 ∧ hi = 0) ∧ (0 < n → lo = b ∧ hi = b + 1 ∧ b < w.heap.size) := by
  rcases Nat.eq_zero_or_pos n with rfl | hn
  · exact ⟨0, 0, ⟨⟨h.1.1, h.1.2.1, h.1.2.2.1, fun h => absurd h (by omega)⟩, fun _ _ h => absurd h (by omega)⟩, fun _ => ⟨rfl, rfl⟩, fun h => absurd h (by omega)⟩
  · obtain ⟨b', _, _, q1, q2, q3, _⟩ := h.1.2.2.2 hn
    exact ⟨b, b + 1, h, fun e => absurd e (by omega), fun _ => ⟨rfl, rfl, by omega⟩⟩
theorem own_back {lo hi b n c : Nat} {w : World} {A : Option Addr} {xs : List Int} (h : Il.Own lo hi w A n c xs) (h2 : 0 < n → lo = b ∧ hi = b + 1) : Il.Own b (b + 1) w A n c xs := by
  rcases Nat.eq_zero_or_pos n with rfl | hn
  · exact ⟨⟨h.1.1, h.1.2.1, h.1.2.2.1, fun h => absurd h (by omega)⟩, fun _ _ h => absurd h (by omega)⟩
  · obtain ⟨rfl, rfl⟩ := h2 hn
    exact h
set_option maxRecDepth 20000 in
theorem markPacket (el tag : Int) (n m b1 b2 : Nat) (A B : Option Addr) (c d : Nat) (xs ys : List Int) (k0 : Int) (w : World) (o1 : Il.Own b1 (b1 + 1) w A n c xs) (o2 : Il.Own b2 (b2 + 1) w B m d ys) (hne : b1 ≠ b2) (hn : n ≤ 2000000) (hm : m ≤ 2000000) (h0 : 0 ≤ k0) (h1 : k0 ≤ 2000000) :
    Calls Try.prog 29 #[.agg #[.int .i64 el, .slice A n c, .int .i64 tag, .slice B m d], .int .i64 k0] w (MarkP n m b1 b2 A B c d k0 w) := by
  have hal : Below w.heap.size w (w.alloc (.cells #[.int .i64 el, .slice A n c, .int .i64 tag, .slice B m d] 27)) := (Below.refl _ _).alloc (Nat.le_refl _) _
  have hz : Blk (w.alloc (.cells #[.int .i64 el, .slice A n c, .int .i64 tag, .slice B m d] 27)) w.heap.size #[.int .i64 el, .slice A n c, .int .i64 tag, .slice B m d] 27 := heap_alloc_new _ _
  obtain ⟨lo1, hi1, o1', e1, f1⟩ := own_rng o1
  obtain ⟨lo2, hi2, o2', e2, f2⟩ := own_rng o2
  have O1 := Lib.hid (o1'.below hal (Nat.le_refl _))
  have O2 := Lib.hid (o2'.below hal (Nat.le_refl _))
  have HZ := Lib.hid hz
  have HAL := Lib.hid hal
  have g12 : hi1 ≤ lo2 ∨ hi2 ≤ lo1 := by
    rcases Nat.eq_zero_or_pos n with q | q <;> rcases Nat.eq_zero_or_pos m with q' | q'
    · have := e1 q; omega
    · have := e1 q; omega
    · have := e2 q'; omega
    · have := f1 q; have := f2 q'; omega
  have g1 : w.heap.size < lo1 ∨ hi1 ≤ w.heap.size := by
    rcases Nat.eq_zero_or_pos n with q | q
    · have := e1 q; omega
    · have := f1 q; omega
  have g2 : w.heap.size < lo2 ∨ hi2 ≤ w.heap.size := by
    rcases Nat.eq_zero_or_pos m with q | q
    · have := e2 q; omega
    · have := f2 q; omega
  have F1 := Lib.hid f1
  have F2 := Lib.hid f2
  have E1 := Lib.hid e1
  have E2 := Lib.hid e2
  clear o1 o2 o1' o2' hal hz f1 f2 e1 e2
  go_enter Try.func29, Try.ntmps29
  go_wp2_with fail
  ((with_reducible refine (Hlp.markIntS _ _ _ _ _ _ k0 _ O1.out (by omega) (by omega) (by omega)).mono ?_); rintro e w1 ⟨rfl, m1, k1⟩)
  have O2' := Lib.hid (O2.out.kept k1 (by omega))
  have HZ1 := Lib.hid (blk_kept HZ.out k1 (by omega))
  have M1 := Lib.hid m1
  have K1 := Lib.hid k1
  clear m1 k1 O2 HZ O1
  obtain ⟨p0, p1, p2, p3, pf⟩ := four_cells HZ1.out
  go_wp2_with fail
  ((with_reducible refine (Hlp.markIntS _ _ _ _ _ _ (k0 + n) _ O2'.out (by omega) (by omega) (by omega)).mono ?_); rintro e w2 ⟨rfl, m2, k2⟩)
  have HP : Hid (MarkP n m b1 b2 A B c d k0 w (.returned (.int .i64 (k0 + n + m))) w2) := by
    refine ⟨rfl, own_back (M1.out.kept k2 (by omega)) (fun h => ⟨(F1.out h).1, (F1.out h).2.1⟩), own_back m2 (fun h => ⟨(F2.out h).1, (F2.out h).2.1⟩), ⟨?_, ?_, ?_, ?_, ?_⟩⟩
    · exact k2.os.trans (K1.out.os.trans HAL.out.os)
    · exact k2.tape.trans (K1.out.tape.trans HAL.out.tape)
    · exact k2.output.trans (K1.out.output.trans HAL.out.output)
    · have q1 := HAL.out.size
      have q2 := K1.out.size
      have q3 := k2.size
      omega
    · intro b hb n1 n2
      have r1 : b < lo1 ∨ hi1 ≤ b := by
        rcases Nat.eq_zero_or_pos n with q | q
        · have := E1.out q; omega
        · have := F1.out q; have := n1 q; omega
      have r2 : b < lo2 ∨ hi2 ≤ b := by
        rcases Nat.eq_zero_or_pos m with q | q
        · have := E2.out q; omega
        · have := F2.out q; have := n2 q; omega
      exact (k2.block b r2).trans ((K1.out.block b r1).trans (HAL.out.block b hb))
  clear m2 k2 p0 p1 p2 p3 pf
  go_wp2
  go_ret
  exact HP.out


end Hlp5
end Go.Proofs.Ytbdjclfkajlmdaa
