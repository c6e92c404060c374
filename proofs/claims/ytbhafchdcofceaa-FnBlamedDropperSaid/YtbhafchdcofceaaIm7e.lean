/-
  Contracts of the program's chapter 12: paths, a copy of counts.
-/
import Derived.Test.YtbhafchdcofceaaIm7d
import Derived.Test.YtbhafchdcofceaaLr
import Derived.Lib.SliceRun
namespace Go.Proofs.Ytbhafchdcofceaa
open Go.RowKit
namespace Im7
open Il Sl Lc Sp2 Nm Sp7 Mp

theorem adj_succ {p : List Int} {k : Nat} (h : ∀ i, i < k → p.getD i 0 ≠ p.getD (i + 1) 0) (h2 : p.getD k 0 ≠ p.getD (k + 1) 0) : ∀ i, i < k + 1 → p.getD i 0 ≠ p.getD (i + 1) 0 := fun i hi => by
  rcases Nat.lt_or_ge i k with h3 | h3
  · exact h i h3
  · obtain rfl : i = k := by omega
    exact h2
set_option maxRecDepth 20000 in
theorem loopPathValid (lo hi : Nat) (A : Option Addr) (n c : Nat) (p : List Int) (w : World) (hx : Ints lo hi w A n c p) :
    Calls Try.prog 29 #[.slice A n c] w fun e w' => e = .returned (.bool (lpOk p)) ∧ w = w' := by
  have hc1 := hx.2.2.1
  have hc2 := hx.2.1
  have HL := Lib.hid hx.1
  unfold maxLen at hc1
  have HX := Lib.hid hx
  clear hx
  by_cases h1 : n < 2
  · have HF : Hid (lpOk p = false) := by show lpOk p = false; unfold lpOk; rw [decide_eq_false (by rw [HL.out]; omega)]; simp
    have d1 : decide ((n : Int) < 2) = true := by simp; omega
    have d1' : decide (n < 2) = true := by simp; omega
    go_enter Try.func29, Try.ntmps29
    go_wp2
    go_ret
    rw [HF.out]
    exact ⟨rfl, rfl⟩
  have d1 : decide ((n : Int) < 2) = false := by simp; omega
  have d1' : decide (n < 2) = false := by simp; omega
  by_cases h2 : 4 < n
  · have HF : Hid (lpOk p = false) := by show lpOk p = false; unfold lpOk; rw [decide_eq_false (by rw [HL.out]; omega)]; simp
    have d2 : decide ((4 : Int) < (n : Int)) = true := by simp; omega
    have d2' : decide (4 < n) = true := by simp; omega
    go_enter Try.func29, Try.ntmps29
    go_wp2
    go_ret
    rw [HF.out]
    exact ⟨rfl, rfl⟩
  have d2 : decide ((4 : Int) < (n : Int)) = false := by simp; omega
  have d2' : decide (4 < n) = false := by simp; omega
  cases h3 : namesOk p
  · have HF : Hid (lpOk p = false) := by show lpOk p = false; unfold lpOk; rw [h3]; simp
    go_enter Try.func29, Try.ntmps29
    go_wp2_with fail
    ((with_reducible refine (namesValid _ _ _ _ _ p _ HX.out).mono ?_); rintro e w1 ⟨rfl, rfl⟩)
    rw [h3]
    go_wp2
    go_ret
    rw [HF.out]
    exact ⟨rfl, rfl⟩
  · obtain ⟨b, off, rfl, hb1, hb2, _⟩ := HX.out.at_ (k := 0) (by omega)
    have HV : Hid (adj p = true → lpOk p = true) := fun h => by unfold lpOk; rw [h, h3, decide_eq_true (by rw [HL.out]; omega)]; rfl
    have HN : Hid (adj p = false → lpOk p = false) := fun h => by unfold lpOk; rw [h]; rfl
    go_enter Try.func29, Try.ntmps29
    go_wp2_with fail
    ((with_reducible refine (namesValid _ _ _ _ _ p _ HX.out).mono ?_); rintro e w1 ⟨rfl, rfl⟩)
    rw [h3]
    obtain ⟨m, rfl⟩ : ∃ m, n = m + 1 := ⟨n - 1, by omega⟩
    have hs1 : 1 ≤ m + 1 := by omega
    have hs2 : ¬ c = 1 := by omega
    have hs3 : m + 1 - 1 = m := by omega
    go_wp2
    go_loop [3, 4, 21] (fun _ _ i => ∃ k : Nat, k ≤ m ∧ i = .int .i64 k ∧ Hid (∀ i, i < k → p.getD i 0 ≠ p.getD (i + 1) 0)) (fun _ _ i => m - (intOf i).toNat)
    case atStart => exact ⟨0, Nat.zero_le _, rfl, fun i hi => absurd hi (by omega)⟩
    case round =>
      obtain ⟨k, hk, rfl, hT⟩ := hrel
      by_cases hlt : k < m
      · obtain ⟨b2, off2, e2, _, _, cx⟩ := HX.out.at_ (k := k) (by omega)
        simp only [Option.some.injEq, Addr.mk.injEq, and_true] at e2
        obtain ⟨rfl, rfl⟩ := e2
        obtain ⟨b2, off2, e2, _, _, cy⟩ := HX.out.at_ (k := k + 1) (by omega)
        simp only [Option.some.injEq, Addr.mk.injEq, and_true] at e2
        obtain ⟨rfl, rfl⟩ := e2
        have cy' : w.cell? ⟨b, off + 1 + k, none⟩ = some (.int .i64 (p.getD (k + 1) 0)) := by rw [Nat.add_assoc, Nat.add_comm 1 k]; exact cy
        have hkm : k < m + 1 := by omega
        by_cases he : p.getD k 0 = p.getD (k + 1) 0
        · have HF := Lib.hid (HN.out (adj_no (by rw [HL.out]; omega) he))
          have d3 : (p.getD k 0 == p.getD (k + 1) 0) = true := by simpa using he
          clear he
          generalize p.getD k 0 = x at *
          generalize p.getD (k + 1) 0 = y at *
          go_wp2
          go_ret
          rw [HF.out]
          exact ⟨rfl, rfl⟩
        · have HT2 := Lib.hid (adj_succ hT.out he)
          have d3 : (p.getD k 0 == p.getD (k + 1) 0) = false := by simpa using he
          clear he hT
          generalize p.getD k 0 = x at *
          generalize p.getD (k + 1) 0 = y at *
          go_wp2
          go_round
          case rel => exact ⟨k + 1, by omega, by go_num, HT2.out⟩
          case measure => simp [intOf]; omega
      · obtain rfl : k = m := by omega
        have HF := Lib.hid (HV.out (adj_iff.2 fun i hi => hT.out i (by have := HL.out; omega)))
        clear hT hlt
        go_wp2
        go_ret
        rw [HF.out]
        exact ⟨rfl, rfl⟩
set_option maxRecDepth 20000 in
theorem cloneC (lo hi : Nat) (A : Option Addr) (n c : Nat) (xs : List Cnt) (w : World) (hx : Cnts lo hi w A n c xs) (hn : n ≤ 100000) :
    Calls Try.prog 31 #[.slice A n c] w (CntsPost xs w) := by
  have hl := hx.len_
  cases A with
  | none =>
    have hz : n = 0 := by
      rcases Nat.eq_zero_or_pos n with h | h
      · exact h
      · obtain ⟨b, off, e, _⟩ := hx.2.2.2 h
        cases e
    subst hz
    obtain rfl := List.eq_nil_of_length_eq_zero hl
    have HP : Hid (CntsPost [] w (.returned (.slice none 0 0)) w) := ⟨none, 0, rfl, CntsO.nil_ (Nat.zero_le _), Below.refl _ _⟩
    clear hx hn hl
    have hnil : ∀ w, (binOp .eql 23 (.slice none 0 c) (.slice none 0 0)).run Try.prog w = .ok (.bool true) w := fun w => Lib.run_eql_slice_nil w _ _ _ _ _ _ _ Try.underlying23
    go_enter Try.func31, Try.ntmps31
    go_wp2
    go_ret
    exact HP.out
  | some ad =>
    have hal : Below w.heap.size w (w.alloc (.cells #[] 37)) := (Below.refl _ _).alloc (Nat.le_refl _) _
    have HD := Lib.hid (cacc_new w)
    have HR := Lib.hid (hx.below hal (Nat.le_refl _))
    clear hx hal
    have hnil : ∀ w, (binOp .eql 23 (.slice (some ad) n c) (.slice none 0 0)).run Try.prog w = .ok (.bool false) w := fun w => Lib.run_eql_slice_nil w _ _ _ _ _ _ _ Try.underlying23
    go_enter Try.func31, Try.ntmps31
    go_wp2_with (at_builtin; refine wpList_cAppL w _ _ [] HD.out _ _ _ _ _ xs HR.out (by simp only [List.length_nil]; omega) _ _ rfl rfl rfl rfl ?_; intro v5 w5 hN5 hB5; rw [List.nil_append] at hN5)
    have HP := Lib.hid hN5.post
    clear hN5 hB5
    go_wp2
    go_ret
    exact HP.out

end Im7
end Go.Proofs.Ytbhafchdcofceaa
