/-
  Contracts of the model's chapter 23: pieces, what is missing, a long letter cut.
-/
import Derived.Test.YtoghgliijjfppabSp2
import Derived.Test.YtoghgliijjfppabCk
import Derived.Test.YtoghgliijjfppabPc
import Derived.Test.YtoghgliijjfppabLb
namespace Go.Proofs.Ytoghgliijjfppab
open Go.RowKit
namespace Sp11
open Il Sl Fo Cm Cs Gm Mm Pc Sp2

theorem tdiv_cnt (n : Nat) : ((n : Int) + 3).tdiv 3 = ((cnt3 n : Nat) : Int) := by
  rw [Int.tdiv_eq_ediv_of_nonneg (by omega)]
  unfold cnt3
  omega
theorem l23Count (n : Nat) (w : World) (hn : n ≤ 1000000) : Calls Try.prog 32 #[.int .i64 n] w fun e w' => e = .returned (.int .i64 ((cnt3 n : Nat) : Int)) ∧ w = w' := by
  have h1 : IntKind.i64.wrap ((n : Int) + 3) = (n : Int) + 3 := IntWalk.i64_in _ (by omega)
  have h2 := tdiv_cnt n
  have h3 : IntKind.i64.wrap ((cnt3 n : Nat) : Int) = ((cnt3 n : Nat) : Int) := IntWalk.i64_in _ (by unfold cnt3; omega)
  generalize cnt3 n = k at *
  go_enter Try.func32, Try.ntmps32
  go_wp2
  go_ret
  exact ⟨rfl, rfl⟩

set_option maxRecDepth 20000 in
theorem l23Piece (lo hi : Nat) (A : Option Addr) (n c : Nat) (xs : List Int) (w : World) (hx : Ints lo hi w A n c xs) :
    Calls Try.prog 45 #[.slice A n c] w fun e w' => e = .returned (.bool (pieceOk xs)) ∧ w = w' := by
  have HX := Lib.hid hx
  have HL := Lib.hid hx.1
  clear hx
  cases hok : okL xs
  · have HV : Hid (pieceOk xs = false) := by show pieceOk xs = _; unfold pieceOk; rw [hok]; rfl
    go_enter Try.func45, Try.ntmps45
    go_wp2_with fail
    ((with_reducible refine (l2List _ _ _ _ _ xs _ HX.out).mono ?_); rintro e w1 ⟨rfl, rfl⟩)
    rw [hok]
    clear hok
    go_wp2
    go_ret
    rw [HV.out]
    exact ⟨rfl, rfl⟩
  · have HV : Hid (pieceOk xs = ((n : Int) == 3)) := by
      show pieceOk xs = _
      unfold pieceOk
      rw [hok, HL.out, Bool.true_and]
      by_cases h : n = 3
      · subst h; rfl
      · rw [decide_eq_false h]; simpa using (by omega : ¬ (n : Int) = 3)
    go_enter Try.func45, Try.ntmps45
    go_wp2_with fail
    ((with_reducible refine (l2List _ _ _ _ _ xs _ HX.out).mono ?_); rintro e w1 ⟨rfl, rfl⟩)
    rw [hok]
    clear hok
    generalize hb : ((n : Int) == 3) = b at *
    go_wp2
    go_ret
    rw [HV.out]
    exact ⟨rfl, rfl⟩

theorem maybe_nil {xs : List Int} (h : xs.length = 0) : maybe xs = true ∧ xs.isEmpty = true := by
  obtain rfl := List.eq_nil_of_length_eq_zero h
  exact ⟨rfl, rfl⟩
theorem maybe_some {xs : List Int} (h : 0 < xs.length) : maybe xs = pieceOk xs ∧ xs.isEmpty = false := by
  cases xs with
  | nil => simp at h
  | cons a b => exact ⟨rfl, rfl⟩
theorem all_to {ps : List (List Int)} {j : Nat} (h : j < ps.length) (h1 : (ps.take j).all maybe = true) (h2 : maybe (slAt ps j) = true) : (ps.take (j + 1)).all maybe = true := by
  rw [← Ck.take_slot h, List.all_append, h1, List.all_cons, h2]; rfl
theorem miss_to {ps : List (List Int)} {j : Nat} (h : j < ps.length) : nMiss (ps.take (j + 1)) = nMiss (ps.take j) + if (slAt ps j).isEmpty then 1 else 0 := by
  rw [← Ck.take_slot h, nMiss_snoc]
theorem miss_bad {ps : List (List Int)} {j : Nat} (h : j < ps.length) (h2 : maybe (slAt ps j) = false) : missF ps = -1 := by
  have : ps.all maybe = false := by
    rw [List.all_eq_false]
    exact ⟨slAt ps j, by unfold slAt; rw [List.getD_eq_getElem?_getD, List.getElem?_eq_getElem h]; exact List.getElem_mem h, by rw [h2]; simp⟩
  unfold missF
  rw [this]
  rfl
theorem miss_all {ps : List (List Int)} (h2 : (ps.take ps.length).all maybe = true) : missF ps = bif decide (1 ≤ (ps.length : Int) ∧ (ps.length : Int) ≤ 5) then ((nMiss (ps.take ps.length) : Nat) : Int) else -1 := by
  rw [List.take_length] at *
  unfold missF cntOk
  rw [h2, Bool.true_and]
  congr 1
  exact decide_eq_decide.2 (by omega)
set_option maxRecDepth 20000 in
theorem l23Missing (lo hi : Nat) (A : Option Addr) (n c : Nat) (ps : List (List Int)) (w : World) (hx : Sts lo hi w A n c ps) :
    Calls Try.prog 40 #[.slice A n c] w fun e w' => e = .returned (.int .i64 (missF ps)) ∧ w = w' := by
  have hk1 := hx.max_
  have hk2 := hx.cap_
  have HL := Lib.hid hx.len_
  unfold maxLen at hk1
  have HX := Lib.hid hx
  clear hx
  go_enter Try.func40, Try.ntmps40
  go_wp2
  go_loop [3, 4] (fun z i => ∃ (j q : Nat), j ≤ n ∧ i = .int .i64 j ∧ z = .int .i64 q ∧ q ≤ j ∧ Hid (q = nMiss (ps.take j)) ∧ Hid ((ps.take j).all maybe = true)) (fun _ i => n - (intOf i).toNat)
  case atStart => exact ⟨0, 0, Nat.zero_le _, rfl, rfl, Nat.le_refl _, by show 0 = nMiss []; simp [nMiss], by show _ = true; rfl⟩
  case round =>
    obtain ⟨j, q, hj, rfl, rfl, hq, hQ, hT⟩ := hrel
    by_cases hlt : j < n
    · obtain ⟨b, off, B, e, rfl, _, _, hbz, cB, iB⟩ := HX.out.at_ hlt
      have IB := Lib.hid iB
      have hlj : j < ps.length := by rw [HL.out]; exact hlt
      have HMT := Lib.hid (miss_to hlj)
      have HAT : Hid (maybe (slAt ps j) = true → (ps.take (j + 1)).all maybe = true) := fun h => all_to hlj hT.out h
      have HBAD : Hid (maybe (slAt ps j) = false → missF ps = -1) := fun h => miss_bad hlj h
      have he1 := iB.2.1
      have he2 := iB.2.2.1
      unfold maxLen at he2
      clear iB hT
      generalize slAt ps j = xs at *
      by_cases h0 : xs.length = 0
      · obtain ⟨g1, g2⟩ := maybe_nil h0
        have HA2 := Lib.hid (HAT.out g1)
        rw [g2] at HMT
        have HQ2 : Hid (q + 1 = nMiss (ps.take (j + 1))) := by
          show _ = _
          have h8 := hQ.out
          have h7 := HMT.out
          rw [if_pos rfl] at h7
          omega
        rw [h0] at cB
        have hw : IntKind.i64.wrap ((q : Int) + 1) = (q : Int) + 1 := IntWalk.i64_in _ (by omega)
        have hw2 : IntKind.i64.wrap ((j : Int) + 1) = (j : Int) + 1 := IntWalk.i64_in _ (by omega)
        clear g1 g2 h0 HMT HBAD HAT hQ
        go_wp2
        go_round
        case rel => exact ⟨j + 1, q + 1, by omega, by go_num, by go_num, by omega, HQ2.out, HA2.out⟩
        case measure => simp [intOf]; omega
      · obtain ⟨g1, g2⟩ := maybe_some (xs := xs) (by omega)
        rw [g2] at HMT
        rw [g1] at HAT HBAD
        have h0' : ((xs.length : Int) == 0) = false := by simpa using (by omega : ¬ (xs.length : Int) = 0)
        have HQ2 : Hid (q = nMiss (ps.take (j + 1))) := by
          show _ = _
          have h8 := hQ.out
          rw [HMT.out]
          simpa using h8
        clear g1 g2 h0 HMT hQ
        cases hp : pieceOk xs
        · have HF := Lib.hid (HBAD.out hp)
          go_wp2_with fail
          ((with_reducible refine (l23Piece _ _ _ _ _ xs _ IB.out).mono ?_); rintro e w1 ⟨rfl, rfl⟩)
          rw [hp]
          clear hp
          go_wp2
          go_ret
          rw [HF.out]
          exact ⟨rfl, rfl⟩
        · have HA2 := Lib.hid (HAT.out hp)
          go_wp2_with fail
          ((with_reducible refine (l23Piece _ _ _ _ _ xs _ IB.out).mono ?_); rintro e w1 ⟨rfl, rfl⟩)
          rw [hp]
          clear hp
          go_wp2
          go_round
          case rel => exact ⟨j + 1, q, by omega, by go_num, rfl, by omega, HQ2.out, HA2.out⟩
          case measure => simp [intOf]; omega
    · obtain rfl : j = n := by omega
      have HV : Hid (missF ps = bif decide (1 ≤ (j : Int) ∧ (j : Int) ≤ 5) then (q : Int) else -1) := by
        show _ = _
        have h8 := hQ.out
        have h9 := hT.out
        rw [← HL.out] at h8 h9
        have h7 := miss_all h9
        rw [← h8, HL.out] at h7
        exact h7
      clear hT hQ hlt
      go_wp2_with fail
      ((with_reducible refine (l6In _ 1 5 _).mono ?_); rintro e w1 ⟨rfl, rfl⟩)
      cases hd : decide (1 ≤ (j : Int) ∧ (j : Int) ≤ 5)
      · have HV2 : Hid (missF ps = -1) := by show _ = _; rw [HV.out, hd]; rfl
        clear hd HV
        go_wp2
        go_ret
        rw [HV2.out]
        exact ⟨rfl, rfl⟩
      · have HV2 : Hid (missF ps = q) := by show _ = _; rw [HV.out, hd]; rfl
        clear hd HV
        go_wp2
        go_ret
        rw [HV2.out]
        exact ⟨rfl, rfl⟩

end Sp11
end Go.Proofs.Ytoghgliijjfppab
