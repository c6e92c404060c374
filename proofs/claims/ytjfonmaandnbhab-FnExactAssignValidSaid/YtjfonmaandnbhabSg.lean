/-
  Contracts of small functions: ranges, elements, what a list has, sizes, clones of lists.
-/
import Derived.Test.YtjfonmaandnbhabChecked
import Derived.Test.YtjfonmaandnbhabAv
import Derived.Test.YtjfonmaandnbhabCm
import Derived.Test.YtjfonmaandnbhabHlp
import Derived.BigQuiet
import Derived.Lib.SliceRun
import Derived.Deep.RegionLaw
namespace Go.Proofs.Ytjfonmaandnbhab
open Go.RowKit
namespace Sg
open Il Sl Gm Cm

theorem lacks_succ {xs : List Int} {x : Int} {k : Nat} (h : ∀ i, i < k → ¬ xs.getD i 0 = x) (h2 : ¬ xs.getD k 0 = x) : ∀ i, i < k + 1 → ¬ xs.getD i 0 = x := fun i hi => by
  rcases Nat.lt_or_ge i k with h3 | h3
  · exact h i h3
  · obtain rfl : i = k := by omega
    exact h2
theorem lacks_all {xs : List Int} {x : Int} {n : Nat} (hl : xs.length = n) (h : ∀ i, i < n → ¬ xs.getD i 0 = x) : hasK xs x = false := by
  cases hc : hasK xs x
  · rfl
  · obtain ⟨i, hi, e⟩ := List.getElem_of_mem (hasK_iff.1 hc)
    refine absurd ?_ (h i (by omega))
    rw [List.getD_eq_getElem?_getD, List.getElem?_eq_getElem hi, e]; rfl
theorem has_at {xs : List Int} {x : Int} {k : Nat} (hk : k < xs.length) (e : xs.getD k 0 = x) : hasK xs x = true := by
  rw [hasK_iff, ← e, List.getD_eq_getElem?_getD, List.getElem?_eq_getElem hk]
  exact List.getElem_mem _
theorem dest_blk {e : TypeId} {sz : Nat} {g : Option Nat} {w : World} {v : Value} {n : Nat} {vs : List Value} (h : Dest e sz g w v n vs) (hn : 0 < n) : ∃ k, g = some k ∧ k < w.heap.size := by
  rcases h with ⟨_, rfl, _⟩ | ⟨k, rfl, ha⟩
  · omega
  · exact ⟨k, rfl, ha.lt⟩


set_option maxRecDepth 20000 in
theorem l6In (n lo hi : Int) (w : World) :
    Calls Try.prog 40 #[.int .i64 n, .int .i64 lo, .int .i64 hi] w fun e w' => e = .returned (.bool (decide (lo ≤ n ∧ n ≤ hi))) ∧ w = w' := by
  by_cases h1 : lo ≤ n
  · by_cases h2 : n ≤ hi
    · rw [decide_eq_true (And.intro h1 h2)]
      go_enter Try.func40, Try.ntmps40
      go_wp2
      go_ret
      exact ⟨rfl, rfl⟩
    · rw [decide_eq_false (fun h => h2 h.2)]
      have h3 : decide (n ≤ hi) = false := by simpa using h2
      clear h2
      go_enter Try.func40, Try.ntmps40
      go_wp2
      go_ret
      exact ⟨rfl, rfl⟩
  · rw [decide_eq_false (fun h => h1 h.1)]
    have h3 : decide (lo ≤ n) = false := by simpa using h1
    clear h1
    go_enter Try.func40, Try.ntmps40
    go_wp2
    go_ret
    exact ⟨rfl, rfl⟩


theorem l1Has (lo hi : Nat) (A : Option Addr) (n c : Nat) (xs : List Int) (x : Int) (w : World) (hx : Ints lo hi w A n c xs) :
    Calls Try.prog 58 #[.slice A n c, .int .i64 x] w fun e w' => e = .returned (.bool (hasK xs x)) ∧ w = w' := by
  have hc1 := hx.2.2.1
  have hc2 := hx.2.1
  have HL := Lib.hid hx.1
  unfold maxLen at hc1
  have HX := Lib.hid hx
  clear hx
  go_enter Try.func58, Try.ntmps58
  go_wp2
  go_loop [5] (fun i => ∃ k : Nat, k ≤ n ∧ i = .int .i64 k ∧ Hid (∀ i, i < k → ¬ xs.getD i 0 = x)) (fun i => n - (intOf i).toNat)
  case atStart => exact ⟨0, Nat.zero_le _, rfl, fun i hi => absurd hi (by omega)⟩
  case round =>
    obtain ⟨k, hk, rfl, hT⟩ := hrel
    by_cases hlt : k < n
    · obtain ⟨b, off, rfl, _, _, hcx⟩ := HX.out.at_ hlt
      by_cases he : xs.getD k 0 = x
      · have HF := Lib.hid (has_at (by rw [HL.out]; exact hlt) he)
        have e0 : (xs.getD k 0 == x) = true := by simpa using he
        clear he
        generalize xs.getD k 0 = y at *
        go_wp2
        go_ret
        rw [HF.out]
        exact ⟨rfl, rfl⟩
      · have HN := Lib.hid (lacks_succ hT.out he)
        have e0 : (xs.getD k 0 == x) = false := by simpa using he
        clear he hT
        generalize xs.getD k 0 = y at *
        go_wp2
        go_round
        case rel => exact ⟨k + 1, by omega, by go_num, HN.out⟩
        case measure => simp [intOf]; omega
    · obtain rfl : k = n := by omega
      have HF := Lib.hid (lacks_all HL.out hT.out)
      clear hT
      go_wp2
      go_ret
      rw [HF.out]
      exact ⟨rfl, rfl⟩

theorem hasInt (lo hi : Nat) (A : Option Addr) (n c : Nat) (xs : List Int) (x : Int) (w : World) (hx : Ints lo hi w A n c xs) :
    Calls Try.prog 21 #[.slice A n c, .int .i64 x] w fun e w' => e = .returned (.bool (hasK xs x)) ∧ w = w' := by
  have hc1 := hx.2.2.1
  have hc2 := hx.2.1
  have HL := Lib.hid hx.1
  unfold maxLen at hc1
  have HX := Lib.hid hx
  clear hx
  go_enter Try.func21, Try.ntmps21
  go_wp2
  go_loop [5] (fun i => ∃ k : Nat, k ≤ n ∧ i = .int .i64 k ∧ Hid (∀ i, i < k → ¬ xs.getD i 0 = x)) (fun i => n - (intOf i).toNat)
  case atStart => exact ⟨0, Nat.zero_le _, rfl, fun i hi => absurd hi (by omega)⟩
  case round =>
    obtain ⟨k, hk, rfl, hT⟩ := hrel
    by_cases hlt : k < n
    · obtain ⟨b, off, rfl, _, _, hcx⟩ := HX.out.at_ hlt
      by_cases he : xs.getD k 0 = x
      · have HF := Lib.hid (has_at (by rw [HL.out]; exact hlt) he)
        have e0 : (xs.getD k 0 == x) = true := by simpa using he
        clear he
        generalize xs.getD k 0 = y at *
        go_wp2
        go_ret
        rw [HF.out]
        exact ⟨rfl, rfl⟩
      · have HN := Lib.hid (lacks_succ hT.out he)
        have e0 : (xs.getD k 0 == x) = false := by simpa using he
        clear he hT
        generalize xs.getD k 0 = y at *
        go_wp2
        go_round
        case rel => exact ⟨k + 1, by omega, by go_num, HN.out⟩
        case measure => simp [intOf]; omega
    · obtain rfl : k = n := by omega
      have HF := Lib.hid (lacks_all HL.out hT.out)
      clear hT
      go_wp2
      go_ret
      rw [HF.out]
      exact ⟨rfl, rfl⟩


/-- A clone of a slice of ints. -/
def CloneI (xs : List Int) (w : World) (e : Ending) (w' : World) : Prop :=
  ∃ A c g, e = .returned (.slice A xs.length c) ∧ Dest 3 1 g w' (.slice A xs.length c) xs.length (xs.map (Value.int .i64)) ∧ (∀ k, g = some k → w.heap.size ≤ k) ∧ Below w.heap.size w w'
theorem CloneI.own {xs : List Int} {w : World} {e : Ending} {w' : World} (h : CloneI xs w e w') : ∃ A c b, e = .returned (.slice A xs.length c) ∧ Il.Own b (b + 1) w' A xs.length c xs ∧ (0 < xs.length → w.heap.size ≤ b ∧ b < w'.heap.size) ∧ Below w.heap.size w w' := by
  obtain ⟨A, c, g, rfl, hd, hg, hb⟩ := h
  obtain ⟨A', c', b, e, ho, hk⟩ := dest_ints hd
  simp only [Value.slice.injEq, true_and] at e
  obtain ⟨rfl, rfl⟩ := e
  refine ⟨_, _, b, rfl, ho, fun hn => ?_, hb⟩
  obtain ⟨k, q, hlt⟩ := dest_blk hd hn
  have h1 := hk k q
  have h2 := hg k q
  omega


end Sg
end Go.Proofs.Ytjfonmaandnbhab
