/-
  The law of chapter 12 on blamed mixes: it returns true and writes nothing that was there.
-/
import Derived.Test.YtbhafchdcofceaaLaw7b
import Derived.Test.YtbhafchdcofceaaHlp
namespace Go.Proofs.Ytbhafchdcofceaa
open Go.RowKit
namespace Law7
open Il Sl Lc Rd LawB Im7 Hc

def hasI (xs : List Int) (x : Int) : Bool := xs.contains x
theorem hasI_at {xs : List Int} {x : Int} {k : Nat} (hk : k < xs.length) (h : xs.getD k 0 = x) : hasI xs x = true := by
  unfold hasI
  rw [List.contains_iff_mem, ← h, List.getD_eq_getElem?_getD, List.getElem?_eq_getElem hk]
  exact List.getElem_mem _
theorem hasI_no {xs : List Int} {x : Int} (h : ∀ i, i < xs.length → xs.getD i 0 ≠ x) : hasI xs x = false := by
  cases hb : hasI xs x
  · rfl
  · exfalso
    unfold hasI at hb
    rw [List.contains_iff_mem] at hb
    obtain ⟨i, hi, e⟩ := List.getElem_of_mem hb
    refine h i hi ?_
    rw [List.getD_eq_getElem?_getD, List.getElem?_eq_getElem hi]
    exact e
theorem lackI_succ {xs : List Int} {x : Int} {k : Nat} (h : ∀ i, i < k → xs.getD i 0 ≠ x) (h2 : xs.getD k 0 ≠ x) : ∀ i, i < k + 1 → xs.getD i 0 ≠ x := fun i hi => by
  rcases Nat.lt_or_ge i k with h3 | h3
  · exact h i h3
  · obtain rfl : i = k := by omega
    exact h2
theorem hasInt (lo hi : Nat) (A : Option Addr) (n c : Nat) (xs : List Int) (x : Int) (w : World) (hx : Ints lo hi w A n c xs) :
    Calls Try.prog 16 #[.slice A n c, .int .i64 x] w fun e w' => e = .returned (.bool (hasI xs x)) ∧ w = w' := by
  have hc1 := hx.2.2.1
  have hc2 := hx.2.1
  have HL := Lib.hid hx.1
  unfold maxLen at hc1
  have HX := Lib.hid hx
  clear hx
  go_enter Try.func16, Try.ntmps16
  go_wp2
  go_loop [5] (fun i => ∃ k : Nat, k ≤ n ∧ i = .int .i64 k ∧ Hid (∀ i, i < k → xs.getD i 0 ≠ x)) (fun i => n - (intOf i).toNat)
  case atStart => exact ⟨0, Nat.zero_le _, rfl, fun i hi => absurd hi (by omega)⟩
  case round =>
    obtain ⟨k, hk, rfl, hT⟩ := hrel
    by_cases hlt : k < n
    · obtain ⟨b, off, rfl, _, _, hcx⟩ := HX.out.at_ hlt
      by_cases he : xs.getD k 0 = x
      · have HF := Lib.hid (hasI_at (by rw [HL.out]; exact hlt) he)
        have e0 : (xs.getD k 0 == x) = true := by simpa using he
        clear he
        generalize xs.getD k 0 = y at *
        go_wp2
        go_ret
        rw [HF.out]
        exact ⟨rfl, rfl⟩
      · have HN := Lib.hid (lackI_succ hT.out he)
        have e0 : (xs.getD k 0 == x) = false := by simpa using he
        clear he hT
        generalize xs.getD k 0 = y at *
        go_wp2
        go_round
        case rel => exact ⟨k + 1, by omega, by go_num, HN.out⟩
        case measure => simp [intOf]; omega
    · obtain rfl : k = n := by omega
      have HF := Lib.hid (hasI_no (x := x) (by rw [HL.out]; exact hT.out))
      clear hT
      go_wp2
      go_ret
      rw [HF.out]
      exact ⟨rfl, rfl⟩
/-- Drawn counts and two lists of mixes made of them. -/
def Br (w0 wr : World) (h1 h2 h3 : Nat) (A1 A2 A3 : Option Addr) (c1 c2 c3 : Nat) (xs : List Cnt) (ys : List Int) : Prop :=
  Cnts w0.heap.size h1 wr A1 xs.length c1 xs ∧ Ints w0.heap.size h2 wr A2 ys.length c2 ys ∧ Ints w0.heap.size h3 wr A3 ys.length c3 ys ∧ (h1 ≤ wr.heap.size ∧ h2 ≤ wr.heap.size ∧ h3 ≤ wr.heap.size) ∧ Below w0.heap.size w0 wr
section
variable {w0 wr w' : World} {h1 h2 h3 : Nat} {A1 A2 A3 : Option Addr} {c1 c2 c3 : Nat} {xs : List Cnt} {ys : List Int}
theorem Br.below (h : Br w0 wr h1 h2 h3 A1 A2 A3 c1 c2 c3 xs ys) (hb : Below wr.heap.size wr w') : Br w0 w' h1 h2 h3 A1 A2 A3 c1 c2 c3 xs ys :=
  ⟨h.1.below hb (Nat.le_refl _), h.2.1.below hb (Nat.le_refl _), h.2.2.1.below hb (Nat.le_refl _), ⟨Nat.le_trans h.2.2.2.1.1 hb.size, Nat.le_trans h.2.2.2.1.2.1 hb.size, Nat.le_trans h.2.2.2.1.2.2 hb.size⟩, h.2.2.2.2.trans (hb.mono h.2.2.2.2.size)⟩
theorem Br.cs (h : Br w0 wr h1 h2 h3 A1 A2 A3 c1 c2 c3 xs ys) : Cnts w0.heap.size h1 wr A1 xs.length c1 xs := h.1
theorem Br.is (h : Br w0 wr h1 h2 h3 A1 A2 A3 c1 c2 c3 xs ys) : Ints w0.heap.size h2 wr A2 ys.length c2 ys := h.2.1
theorem Br.js (h : Br w0 wr h1 h2 h3 A1 A2 A3 c1 c2 c3 xs ys) : Ints w0.heap.size h3 wr A3 ys.length c3 ys := h.2.2.1
theorem Br.sz (h : Br w0 wr h1 h2 h3 A1 A2 A3 c1 c2 c3 xs ys) : h1 ≤ wr.heap.size := h.2.2.2.1.1
theorem Br.bl (h : Br w0 wr h1 h2 h3 A1 A2 A3 c1 c2 c3 xs ys) : Below w0.heap.size w0 wr := h.2.2.2.2
theorem Br.dn (h : Br w0 wr h1 h2 h3 A1 A2 A3 c1 c2 c3 xs ys) (d : Nat) : Br w0 (wr.drewN d) h1 h2 h3 A1 A2 A3 c1 c2 c3 xs ys :=
  h.below ⟨rfl, rfl, rfl, Nat.le_refl _, fun _ _ => rfl⟩
end
theorem tiny_wf {xs : List Cnt} (h : Tiny xs) {x : Cnt} (hx : x ∈ xs) : wf x.fr ∧ wf x.to_ := by
  have := h x hx
  exact ⟨wf_small (by omega), wf_small (by omega)⟩
theorem drawn_below {w w' : World} (h : ∃ d, w' = w.drewN d) : Below w.heap.size w w' := drew_below h
theorem cntN_step {xs : List Cnt} {k : Nat} (h : k < xs.length) (n : Int) : cntN (xs.take (k + 1)) n = cntN (xs.take k) n + (bif touch n (cntAt xs k) then 1 else 0) := by
  unfold cntN
  rw [take_cnt h, List.countP_append]
  cases hp : touch n (cntAt xs k) <;> simp [hp]
theorem cntN_le {xs : List Cnt} (n : Int) : cntN xs n ≤ xs.length := List.countP_le_length
theorem blamed_has {xs : List Cnt} {num den : Int} (h : loopsOk xs = true) (hp : partOk num den = true) {k : Nat} (hk : k < 8) : hasI (blamedL xs num den) (k : Int) = (decide (0 < cntN xs k) && decide (cntN (suspL xs num den) k = cntN xs k)) := by
  have e : blamedL xs num den = names.filter (blameB xs num den) := by unfold blamedL; rw [h, hp]; rfl
  rw [e, suspL_yes h hp]
  have hm : (k : Int) ∈ names := by
    unfold names
    obtain rfl | rfl | rfl | rfl | rfl | rfl | rfl | rfl : k = 0 ∨ k = 1 ∨ k = 2 ∨ k = 3 ∨ k = 4 ∨ k = 5 ∨ k = 6 ∨ k = 7 := by omega
    all_goals decide
  rw [Bool.eq_iff_iff]
  unfold hasI
  rw [List.contains_iff_mem, List.mem_filter]
  unfold blameB
  exact ⟨fun h => h.2, fun h => ⟨hm, h⟩⟩
theorem blamed_up {xs : List Cnt} {num den : Int} {k : Nat} (h : k + 1 < (blamedL xs num den).length) : (blamedL xs num den).getD k 0 < (blamedL xs num den).getD (k + 1) 0 := by
  have hp : (blamedL xs num den).Pairwise (· < ·) := by
    unfold blamedL
    cases (loopsOk xs && partOk num den)
    · exact List.Pairwise.nil
    · exact List.Pairwise.filter _ (by unfold names; decide)
  rw [List.pairwise_iff_getElem] at hp
  have := hp k (k + 1) (by omega) h (by omega)
  rw [List.getD_eq_getElem?_getD, List.getD_eq_getElem?_getD, List.getElem?_eq_getElem h, List.getElem?_eq_getElem (by omega)]
  exact this
theorem blamed_len (xs : List Cnt) (num den : Int) : (blamedL xs num den).length ≤ 8 := by
  unfold blamedL
  cases (loopsOk xs && partOk num den)
  · exact Nat.zero_le _
  · exact List.length_filter_le _ _

end Law7
end Go.Proofs.Ytbhafchdcofceaa
