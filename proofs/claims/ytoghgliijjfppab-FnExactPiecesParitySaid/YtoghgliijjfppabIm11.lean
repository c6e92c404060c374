/-
  Contracts of the program's chapter 23: valid pieces, pieces passed over a channel, received, added up.
-/
import Derived.Test.YtoghgliijjfppabIt
import Derived.Test.YtoghgliijjfppabIm4
import Derived.Test.YtoghgliijjfppabCk
import Derived.Test.YtoghgliijjfppabPc
import Derived.Test.YtoghgliijjfppabCh
import Derived.Laws.CopyOwn
import Derived.Laws.ResultCell
namespace Go.Proofs.Ytoghgliijjfppab
open Go.RowKit
namespace Im11
open Il Sl Fo Cm Cs Gm Mm Pc Im2 Im4

/-- A piece as a value. -/
abbrev v3 (p : T3) : Value := .agg #[.int .i64 p.1, .int .i64 p.2.1, .int .i64 p.2.2]

set_option maxRecDepth 20000 in
theorem pieceValid (lo hi : Nat) (A : Option Addr) (n c : Nat) (xs : List Int) (w : World) (hx : Ints lo hi w A n c xs) :
    Calls Try.prog 46 #[.slice A n c] w fun e w' => e = .returned (.bool (pieceOk xs)) ∧ w = w' := by
  have HX := Lib.hid hx
  have HL := Lib.hid hx.1
  clear hx
  by_cases h3 : n = 3
  · subst h3
    have HV : Hid (pieceOk xs = okL xs) := by show pieceOk xs = _; unfold pieceOk; rw [HL.out]; simp
    rw [HV.out]
    go_enter Try.func46, Try.ntmps46
    go_wp2_with fail
    ((with_reducible refine (listValid _ _ _ _ _ xs _ HX.out).mono ?_); rintro e w1 ⟨rfl, rfl⟩)
    go_wp2
    go_ret
    exact ⟨rfl, rfl⟩
  · have HV : Hid (pieceOk xs = false) := by show pieceOk xs = _; unfold pieceOk; rw [HL.out, decide_eq_false h3, Bool.and_false]
    have h3' : ((n : Int) == 3) = false := by simpa using (by omega : ¬ (n : Int) = 3)
    clear h3
    rw [HV.out]
    go_enter Try.func46, Try.ntmps46
    go_wp2
    go_ret
    exact ⟨rfl, rfl⟩

theorem maybe_nil {xs : List Int} (h : xs.length = 0) : maybe xs = true ∧ xs.isEmpty = true := by
  obtain rfl := List.eq_nil_of_length_eq_zero h
  exact ⟨rfl, rfl⟩
theorem maybe_some {xs : List Int} (h : 0 < xs.length) : maybe xs = pieceOk xs ∧ xs.isEmpty = false := by
  cases xs with
  | nil => simp at h
  | cons a b => exact ⟨rfl, rfl⟩
theorem all_to {ps : List (List Int)} {j : Nat} (h : j < ps.length) (h1 : (ps.take j).all maybe = true) (h2 : maybe (slAt ps j) = true) : (ps.take (j + 1)).all maybe = true := by
  rw [← Ck.take_slot h, List.all_append, h1, List.all_cons, h2]; rfl
theorem miss_to {ps : List (List Int)} {j : Nat} (h : j < ps.length) : nMiss (ps.take (j + 1)) = nMiss (ps.take j) + if (slAt ps j).isEmpty then 1 else 0 := by
  rw [← Ck.take_slot h, nMiss_snoc]
theorem pcs_bad {ps : List (List Int)} {j m : Nat} (h : j < ps.length) (h2 : maybe (slAt ps j) = false) : pcsOk ps m = false := by
  cases h3 : pcsOk ps m
  · rfl
  · have := (pcsOk_iff.1 h3).2.1 (slAt ps j) (by unfold slAt; rw [List.getD_eq_getElem?_getD, List.getElem?_eq_getElem h]; exact List.getElem_mem h)
    rw [this] at h2; cases h2
theorem pcs_long {ps : List (List Int)} {m : Nat} (h : ¬ (1 ≤ ps.length ∧ ps.length ≤ 5)) : pcsOk ps m = false := by
  unfold pcsOk cntOk; rw [decide_eq_false h]; rfl
theorem pcs_all {ps : List (List Int)} {m : Nat} (h : 1 ≤ ps.length ∧ ps.length ≤ 5) (h2 : (ps.take ps.length).all maybe = true) : pcsOk ps m = decide (0 ≤ (m : Int) - (nMiss (ps.take ps.length) : Int)) := by
  rw [List.take_length] at *
  unfold pcsOk cntOk
  rw [decide_eq_true h, h2, Bool.true_and, Bool.true_and]
  exact decide_eq_decide.2 (by omega)
set_option maxRecDepth 20000 in
theorem piecesValid (lo hi : Nat) (A : Option Addr) (n c : Nat) (ps : List (List Int)) (m : Nat) (w : World) (hx : Sts lo hi w A n c ps) (hm : m ≤ 5) :
    Calls Try.prog 41 #[.slice A n c, .int .i64 m] w fun e w' => e = .returned (.bool (pcsOk ps m)) ∧ w = w' := by
  have hk1 := hx.max_
  have hk2 := hx.cap_
  have HL := Lib.hid hx.len_
  unfold maxLen at hk1
  have HX := Lib.hid hx
  clear hx
  by_cases h1 : (n : Int) < 1
  · have HV := Lib.hid (pcs_long (ps := ps) (m := m) (by rw [HL.out]; omega))
    rw [HV.out]
    go_enter Try.func41, Try.ntmps41
    go_wp2
    go_ret
    exact ⟨rfl, rfl⟩
  by_cases h5 : 5 < (n : Int)
  · have HV := Lib.hid (pcs_long (ps := ps) (m := m) (by rw [HL.out]; omega))
    rw [HV.out]
    have h1' : decide ((n : Int) < 1) = false := decide_eq_false h1
    clear h1
    go_enter Try.func41, Try.ntmps41
    go_wp2
    go_ret
    exact ⟨rfl, rfl⟩
  have h1' : decide ((n : Int) < 1) = false := decide_eq_false h1
  have h5' : decide (5 < (n : Int)) = false := decide_eq_false h5
  have HN : Hid (1 ≤ ps.length ∧ ps.length ≤ 5) := by show _ ∧ _; rw [HL.out]; omega
  clear h1 h5
  go_enter Try.func41, Try.ntmps41
  go_wp2
  go_loop [1, 17] (fun z i => ∃ (j : Nat) (q : Int), j ≤ n ∧ i = .int .i64 j ∧ z = .int .i64 q ∧ (-5 ≤ q ∧ q ≤ 5) ∧ Hid (q = (m : Int) - (nMiss (ps.take j) : Int)) ∧ Hid ((ps.take j).all maybe = true)) (fun _ i => n - (intOf i).toNat)
  case atStart => exact ⟨0, (m : Int), Nat.zero_le _, rfl, rfl, by omega, by show (m : Int) = _ - ((nMiss []: Nat) : Int); simp [nMiss], by show _ = true; rfl⟩
  case round =>
    obtain ⟨j, q, hj, rfl, rfl, hq, hQ, hT⟩ := hrel
    by_cases hlt : j < n
    · obtain ⟨b, off, B, e, rfl, _, _, hbz, cB, iB⟩ := HX.out.at_ hlt
      have IB := Lib.hid iB
      have hlj : j < ps.length := by rw [HL.out]; exact hlt
      have HMT := Lib.hid (miss_to hlj)
      have HAT : Hid (maybe (slAt ps j) = true → (ps.take (j + 1)).all maybe = true) := fun h => all_to hlj hT.out h
      have HBAD : Hid (maybe (slAt ps j) = false → pcsOk ps m = false) := fun h => pcs_bad hlj h
      have hnm : nMiss (ps.take (j + 1)) ≤ 5 := by have := nMiss_le (ps.take (j + 1)); rw [List.length_take] at this; have := HN.out; omega
      have HNM := Lib.hid hnm
      have he1 := iB.2.1
      have he2 := iB.2.2.1
      unfold maxLen at he2
      clear iB hT hnm
      generalize slAt ps j = xs at *
      by_cases h0 : xs.length = 0
      · obtain ⟨g1, g2⟩ := maybe_nil h0
        have HA2 := Lib.hid (HAT.out g1)
        rw [g2] at HMT
        have HQ2 : Hid (q - 1 = (m : Int) - (nMiss (ps.take (j + 1)) : Int) ∧ -5 ≤ q - 1) := by
          show _ ∧ _
          have h9 := HNM.out
          have h8 := hQ.out
          have h7 := HMT.out
          rw [if_pos rfl] at h7
          omega
        rw [h0] at cB
        have hw : IntKind.i64.wrap (q - 1) = q - 1 := IntWalk.i64_in _ (by omega)
        clear g1 g2 h0 HMT HBAD HAT
        go_wp2
        go_round
        case rel => exact ⟨j + 1, q - 1, by omega, by go_num, rfl, by have := HQ2.out.2; omega, HQ2.out.1, HA2.out⟩
        case measure => simp [intOf]; omega
      · obtain ⟨g1, g2⟩ := maybe_some (xs := xs) (by omega)
        rw [g2] at HMT
        rw [g1] at HAT HBAD
        have h0' : ((xs.length : Int) == 0) = false := by simpa using (by omega : ¬ (xs.length : Int) = 0)
        have HQ2 : Hid (q = (m : Int) - (nMiss (ps.take (j + 1)) : Int)) := by
          show _ = _
          have h8 := hQ.out
          rw [HMT.out]
          simpa using h8
        clear g1 g2 h0 HMT hQ
        cases hp : pieceOk xs
        · have HF := Lib.hid (HBAD.out hp)
          go_wp2_with fail
          ((with_reducible refine (pieceValid _ _ _ _ _ xs _ IB.out).mono ?_); rintro e w1 ⟨rfl, rfl⟩)
          rw [hp]
          clear hp
          go_wp2
          go_ret
          rw [HF.out]
          exact ⟨rfl, rfl⟩
        · have HA2 := Lib.hid (HAT.out hp)
          go_wp2_with fail
          ((with_reducible refine (pieceValid _ _ _ _ _ xs _ IB.out).mono ?_); rintro e w1 ⟨rfl, rfl⟩)
          rw [hp]
          clear hp
          go_wp2
          go_round
          case rel => exact ⟨j + 1, q, by omega, by go_num, rfl, hq, HQ2.out, HA2.out⟩
          case measure => simp [intOf]; omega
    · obtain rfl : j = n := by omega
      have HV : Hid (pcsOk ps m = decide (0 ≤ q)) := by
        show _ = _
        have h8 := hQ.out
        have h9 := hT.out
        rw [h8, ← HL.out]
        rw [← HL.out] at h9
        exact pcs_all HN.out h9
      clear hT hQ hlt
      go_wp2
      go_ret
      rw [HV.out]
      exact ⟨rfl, rfl⟩

theorem own_l3 {w : World} {b : Nat} {p : T3} {t : TypeId} (h : w.heap[b]? = some (.cells #[.int .i64 p.1, .int .i64 p.2.1, .int .i64 p.2.2] t (0, 0))) : Il.Own b (b + 1) w (some ⟨b, 0, none⟩) 3 3 (l3 p) := by
  have h1 := own_block (l := l3 p) (t := t) (w := w) (b := b) h (by rw [l3_len]; unfold maxLen; omega)
  rw [l3_len] at h1
  refine ⟨⟨h1.1.1, h1.1.2.1, h1.1.2.2.1, fun hn => ?_⟩, h1.2⟩
  obtain ⟨b', off, e, q1, q2, q3, q4⟩ := h1.1.2.2.2 hn
  simp only [Option.some.injEq, Addr.mk.injEq, and_true] at e
  obtain ⟨rfl, rfl⟩ := e
  exact ⟨b, 0, rfl, Nat.le_refl _, Nat.lt_succ_self _, q3, q4⟩
/-- A list in a block of its own. -/
def NewL3 (p : T3) (w : World) (e : Ending) (w' : World) : Prop :=
  ∃ b, e = .returned (.slice (some ⟨b, 0, none⟩) 3 3) ∧ Il.Own b (b + 1) w' (some ⟨b, 0, none⟩) 3 3 (l3 p) ∧ w.heap.size ≤ b ∧ b < w'.heap.size ∧ Below w.heap.size w w'
set_option maxRecDepth 20000 in
theorem pieceList (p : T3) (w : World) : Calls Try.prog 43 #[v3 p] w (NewL3 p w) := by
  have HP : Hid (NewL3 p w (.returned (.slice (some ⟨w.heap.size, 0, none⟩) 3 3)) (w.alloc (.cells #[.int .i64 p.1, .int .i64 p.2.1, .int .i64 p.2.2] 52))) :=
    ⟨w.heap.size, rfl, own_l3 (heap_alloc_new _ _), Nat.le_refl _, by simp, (Below.refl _ _).alloc (Nat.le_refl _) _⟩
  go_enter Try.func43, Try.ntmps43
  go_wp2
  go_ret
  exact HP.out

end Im11
end Go.Proofs.Ytoghgliijjfppab
