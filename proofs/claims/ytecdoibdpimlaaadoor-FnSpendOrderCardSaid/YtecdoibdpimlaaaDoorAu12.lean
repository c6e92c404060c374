/-
  Contracts of chapter 31's audits, the model's and the program's.
-/
import Derived.Test.YtecdoibdpimlaaaDoorIm12
namespace Go.Proofs.YtecdoibdpimlaaaDoor
open Go.RowKit
namespace Im12
open Il Sl Gm Cm Cs Tk Sp12

/-- A list of the caller's own is returned. -/
def LisB (ys : List Int) (w : World) (e : Ending) (w' : World) : Prop :=
  ∃ A c, e = .returned (.slice A ys.length c) ∧ Il.Own w.heap.size w'.heap.size w' A ys.length c ys ∧ Below w.heap.size w w'
theorem below_grown0 {w w' : World} (h : w.grownBy w' none) : Below w.heap.size w w' := (Below.refl w.heap.size w).grown h (Nat.le_refl _) fun k e => by cases e
theorem lisB_of {w w' : World} {v : Value} {ys : List Int} (h : AccR none w w' v ys) : LisB ys w (.returned v) w' := by
  obtain ⟨A, c, rfl, ho⟩ := own_of h.1
  exact ⟨A, c, rfl, ho, below_grown0 h.2⟩
theorem accB {w w' : World} {v : Value} {ys : List Int} (h : AccR none w w' v ys) : Below w.heap.size w w' := below_grown0 h.2
theorem take_step {a b : List Int} {j : Nat} (hj : j < a.length) (h : hasK b (a.getD j 0) = true) : (a.take (j + 1)).filter (hasK b) = (a.take j).filter (hasK b) ++ [a.getD j 0] := by rw [aud_succ hj, h]; rfl
theorem take_skip {a b : List Int} {j : Nat} (hj : j < a.length) (h : hasK b (a.getD j 0) = false) : (a.take (j + 1)).filter (hasK b) = (a.take j).filter (hasK b) := by rw [aud_succ hj, h]; exact List.append_nil _
theorem filt_len (a b : List Int) (j : Nat) : ((a.take j).filter (hasK b)).length ≤ j := Nat.le_trans (List.length_filter_le ..) (by rw [List.length_take]; omega)
def AuOk (a b : List Int) (j : Nat) : Prop := j = 0 ∨ (spOk a = true ∧ spOk b = true)
/-- Where x stands first, or -1. -/
def PlacePost (xs : List Int) (x : Int) (w : World) (e : Ending) (w' : World) : Prop := ∃ i : Int, e = .returned (.int .i64 i) ∧ (decide (0 ≤ i)) = hasK xs x ∧ w = w'
theorem index (lo hi : Nat) (A : Option Addr) (n c : Nat) (xs : List Int) (x : Int) (w : World) (hx : Ints lo hi w A n c xs) :
    Calls Tryd.prog 45 #[.slice A n c, .int .i64 x] w (PlacePost xs x w) := by
  have hc1 := hx.2.2.1
  have hc2 := hx.2.1
  have HL := Lib.hid hx.1
  unfold maxLen at hc1
  have HX := Lib.hid hx
  clear hx
  go_enter Tryd.func45, Tryd.ntmps45
  go_wp2
  go_loop [8] (fun i => ∃ k : Nat, k ≤ n ∧ i = .int .i64 k ∧ Hid (∀ i, i < k → ¬ xs.getD i 0 = x)) (fun i => n - (intOf i).toNat)
  case atStart => exact ⟨0, Nat.zero_le _, rfl, fun i hi => absurd hi (by omega)⟩
  case round =>
    obtain ⟨k, hk, rfl, hT⟩ := hrel
    by_cases hlt : k < n
    · obtain ⟨b, off, rfl, _, _, hcx⟩ := HX.out.at_ hlt
      by_cases he : xs.getD k 0 = x
      · have HF := Lib.hid (Sg.has_at (by rw [HL.out]; exact hlt) he)
        have e0 : (x == xs.getD k 0) = true := by simpa using he.symm
        clear he
        generalize xs.getD k 0 = y at *
        go_wp2
        go_ret
        exact ⟨(k : Int), rfl, by rw [HF.out]; simp, rfl⟩
      · have HN := Lib.hid (Sg.lacks_succ hT.out he)
        have e0 : (x == xs.getD k 0) = false := by simpa using fun h => he (Eq.symm h)
        clear he hT
        generalize xs.getD k 0 = y at *
        go_wp2
        go_round
        case rel => exact ⟨k + 1, by omega, by go_num, HN.out⟩
        case measure => simp [intOf]; omega
    · obtain rfl : k = n := by omega
      have HF := Lib.hid (Sg.lacks_all HL.out hT.out)
      clear hT
      go_wp2
      go_ret
      exact ⟨-1, rfl, by rw [HF.out]; rfl, rfl⟩
theorem contains (lo hi : Nat) (A : Option Addr) (n c : Nat) (xs : List Int) (x : Int) (w : World) (hx : Ints lo hi w A n c xs) :
    Calls Tryd.prog 30 #[.slice A n c, .int .i64 x] w fun e w' => e = .returned (.bool (hasK xs x)) ∧ w = w' := by
  have HX := Lib.hid hx
  clear hx
  go_enter Tryd.func30, Tryd.ntmps30
  go_wp2_with fail
  ((with_reducible refine (index _ _ _ _ _ xs x _ HX.out).mono ?_); rintro e w1 ⟨i, rfl, hi, rfl⟩)
  have HI := Lib.hid hi
  clear hi
  go_wp2
  go_ret
  rw [← HI.out]
  exact ⟨rfl, rfl⟩
set_option maxRecDepth 20000 in
set_option maxHeartbeats 2000000 in
theorem TicketAudit (la ha lb hb : Nat) (A B : Option Addr) (n m c d : Nat) (a b : List Int) (w : World) (hx : Ints la ha w A n c a) (hy : Ints lb hb w B m d b) :
    Calls Tryd.prog 15 #[.slice A n c, .slice B m d] w (LisB (audF a b) w) := by
  have hc1 := hx.2.2.1
  have hc2 := hx.2.1
  unfold maxLen at hc1
  have HL := Lib.hid hx.1
  have HX : Hid (∀ wr, Below w.heap.size w wr → Ints la ha wr A n c a) := fun wr h => hx.below h (Nat.le_refl _)
  have HY : Hid (∀ wr, Below w.heap.size w wr → Ints lb hb wr B m d b) := fun wr h => hy.below h (Nat.le_refl _)
  have HA := Lib.hid (accR_new none w)
  have HAB := Lib.hid (accB (accR_new none w))
  clear hx hy
  go_enter Tryd.func15, Tryd.ntmps15
  go_wp2_with fail
  ((with_reducible refine (spentValid _ _ _ _ _ a _ (HX.out _ HAB.out)).mono ?_); rintro e w1 ⟨rfl, rfl⟩)
  cases h1 : spOk a
  · have HV : Hid (audF a b = []) := aud_no (by rw [h1]; rfl)
    have HP := Lib.hid (lisB_of HA.out)
    clear HA HAB
    go_wp2
    go_ret
    rw [HV.out]
    exact HP.out
  go_wp2_with fail
  ((with_reducible refine (spentValid _ _ _ _ _ b _ (HY.out _ HAB.out)).mono ?_); rintro e w1 ⟨rfl, rfl⟩)
  cases h2 : spOk b
  · have HV : Hid (audF a b = []) := aud_no (by rw [h2, Bool.and_false])
    have HP := Lib.hid (lisB_of HA.out)
    clear HA HAB
    go_wp2
    go_ret
    rw [HV.out]
    exact HP.out
  have HV : Hid (audF a b = a.filter (hasK b)) := aud_yes h1 h2
  have h20 : n ≤ 20 := by rw [← HL.out]; exact sp_len h1
  clear h1 h2 HAB
  go_wp2
  go_loopw [5, 7, 20] (fun v _ i wr => ∃ j : Nat, j ≤ n ∧ i = .int .i64 j ∧ Hid (AccR none w wr v ((a.take j).filter (hasK b)))) (fun _ _ i _ => n - (intOf i).toNat)
  case atStart => exact ⟨0, Nat.zero_le _, rfl, HA.out⟩
  case round =>
    obtain ⟨j, hj, rfl, hR⟩ := hrel
    clear HA
    by_cases hlt : j < n
    · have hjl : j < a.length := by rw [HL.out]; exact hlt
      have IX := HX.out _ (accB hR.out)
      have IY := Lib.hid (HY.out _ (accB hR.out))
      obtain ⟨b1, o1, rfl, _, _, c1⟩ := IX.at_ hlt
      clear IX
      have HSK : Hid (hasK b (a.getD j 0) = false → (a.take (j + 1)).filter (hasK b) = (a.take j).filter (hasK b)) := take_skip hjl
      have HST : Hid (hasK b (a.getD j 0) = true → (a.take (j + 1)).filter (hasK b) = (a.take j).filter (hasK b) ++ [a.getD j 0]) := take_step hjl
      have HFL := Lib.hid (filt_len a b j)
      clear hjl
      generalize a.getD j 0 = x at *
      cases hh : hasK b x
      · have HE := Lib.hid (HSK.out hh)
        go_wp2_with fail
        ((with_reducible refine (contains _ _ _ _ _ b x _ IY.out).mono ?_); rintro e w3 ⟨rfl, rfl⟩)
        rw [hh]
        go_wp2
        go_roundw
        case rel => exact ⟨j + 1, by omega, by go_num, by rw [HE.out]; exact hR.out⟩
        case measure => simp [intOf]; omega
      · have HE := Lib.hid (HST.out hh)
        go_wp2_with fail
        ((with_reducible refine (contains _ _ _ _ _ b x _ IY.out).mono ?_); rintro e w3 ⟨rfl, rfl⟩)
        rw [hh]
        go_wp2_with (at_builtin; refine wpList_app1 w _ _ _ _ hR.out (by have := HFL.out; omega) _ _ rfl rfl rfl rfl ?_; intro v' w5 hN5 hB5)
        have R5 := Lib.hid hN5
        clear hN5 hB5 hR c1
        go_wp2
        go_roundw
        case rel => exact ⟨j + 1, by omega, by go_num, by rw [HE.out]; exact R5.out⟩
        case measure => simp [intOf]; omega
    · obtain rfl : j = n := by omega
      have HT : Hid (a.take j = a) := List.take_of_length_le (by rw [HL.out]; exact Nat.le_refl _)
      have HP := Lib.hid (lisB_of hR.out)
      clear hR hlt
      go_wp2
      go_ret
      rw [HV.out]
      rw [HT.out] at HP
      exact HP.out
end Im12
end Go.Proofs.YtecdoibdpimlaaaDoor
