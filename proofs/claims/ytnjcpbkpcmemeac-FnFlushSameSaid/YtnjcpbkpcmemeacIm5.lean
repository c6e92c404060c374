/-
  Contracts of the program's chapter 5, the small ones: names, paths, valid packets, keys of a path, the unmasked header.
-/
import Derived.Test.YtnjcpbkpcmemeacIm2
import Derived.Test.YtnjcpbkpcmemeacIm4
import Derived.Test.YtnjcpbkpcmemeacGrp
import Derived.Test.YtnjcpbkpcmemeacSp5
import Derived.Laws.CopyOwn
namespace Go.Proofs.Ytnjcpbkpcmemeac
open Go.RowKit
namespace Im5
open Il Gm Mm Tm Lm Pm Im2 Im3 Im4
open Sp5 (namesOk allTo allTo_zero allTo_succ all_of_to all_bad pathOk pathF secAt keys_step secAt_in pubs_in pubs_len)

def kindB (x : Int) : Bool := decide (x = 0 ∨ x = 1)
set_option maxRecDepth 20000 in
theorem kindB_yes {x : Int} (h : x = 0 ∨ x = 1) : kindB x = true := decide_eq_true h
theorem kindB_no {x : Int} (h : ¬ (x = 0 ∨ x = 1)) : kindB x = false := decide_eq_false h
set_option maxRecDepth 20000 in
theorem kindValid (x : Int) (w : World) :
    Calls Try.prog 77 #[.int .i64 x] w fun e w' => e = .returned (.bool (kindB x)) ∧ w = w' := by
  by_cases h0 : x = 0
  · subst h0
    rw [show kindB 0 = true from rfl]
    go_enter Try.func77, Try.ntmps77
    go_wp2
    go_ret
    exact ⟨rfl, rfl⟩
  · by_cases h1 : x = 1
    · subst h1
      rw [show kindB 1 = true from rfl]
      go_enter Try.func77, Try.ntmps77
      go_wp2
      go_ret
      exact ⟨rfl, rfl⟩
    · rw [kindB_no (by omega)]
      have e0 : (x == 0) = false := by simpa using h0
      have e1 : (x == 1) = false := by simpa using h1
      go_enter Try.func77, Try.ntmps77
      go_wp2
      go_ret
      exact ⟨rfl, rfl⟩

set_option maxRecDepth 20000 in
theorem nameValid (x : Int) (w : World) :
    Calls Try.prog 78 #[.int .i64 x] w fun e w' => e = .returned (.bool (inName x)) ∧ w = w' := by
  by_cases h0 : 0 ≤ x
  · by_cases h1 : x < 8
    · have hv : inName x = true := inName_iff.2 (by omega)
      rw [hv]
      clear hv
      go_enter Try.func78, Try.ntmps78
      go_wp2
      go_ret
      exact ⟨rfl, rfl⟩
    · have hv : inName x = false := by unfold inName; simp; omega
      rw [hv]
      clear hv
      have h2 : decide (x < 8) = false := by simpa using h1
      clear h1
      go_enter Try.func78, Try.ntmps78
      go_wp2
      go_ret
      exact ⟨rfl, rfl⟩
  · have hv : inName x = false := by unfold inName; simp; omega
    rw [hv]
    clear hv
    have h2 : decide (0 ≤ x) = false := by simpa using h0
    clear h0
    go_enter Try.func78, Try.ntmps78
    go_wp2
    go_ret
    exact ⟨rfl, rfl⟩





def zeros (n : Nat) : List Int := List.replicate n 0
theorem zeros_len (n : Nat) : (zeros n).length = n := List.length_replicate
theorem splice_zeros {xs : List Int} {n m k : Nat} (hl : xs.length = n) (h : k + n ≤ m) : splice (vals (zeros m)) k (vals xs) = vals (zeros k ++ xs ++ List.replicate (m - (k + n)) 0) := by
  subst hl
  unfold splice vals zeros
  simp [List.map_append]
  omega
theorem made_zeros (n : Nat) : madeCells #[.int .i64 0] n = (vals (zeros n)).toArray := by
  unfold madeCells vals zeros
  apply Array.ext
  · simp
  · intro i h1 h2
    simp [Nat.mod_one]
set_option maxRecDepth 20000 in
theorem unmaskHeader (lo hi : Nat) (A : Option Addr) (n c : Nat) (xs : List Int) (key : Int) (w : World) (hx : Ints lo hi w A n c xs) (hn : n ≤ 12) :
    Calls Try.prog 85 #[.slice A n c, .int .i64 key] w (NewIntsT w (offF (xs ++ List.replicate (12 - n) 0) key)) := by
  have HL := Lib.hid hx.1
  have hmk := run_make_row' (P := Try.prog) 23 3 (.int .i64 0) 8 Try.underlying23 infoInt rfl .i64 .i64 12 (by omega) (by omega)
  have hb0 : Below w.heap.size w (w.alloc (.cells (vals (zeros 12)).toArray 3)) := (Below.refl _ _).alloc (Nat.le_refl _) _
  have HX := Lib.hid ((ints_hi hx).below hb0 (Nat.le_refl _))
  have hvz := made_zeros 12
  rw [hvz] at hmk
  have hmk2 : ∀ w : World, (Instr.makeSlice 23 (.int .i64 12) (.int .i64 12)).run Try.prog w = .ok (.slice (some ⟨w.heap.size, 0, none⟩) 12 12) (w.alloc (.cells (vals (zeros 12)).toArray 3)) := hmk
  clear hx hmk hvz
  go_enter Try.func85, Try.ntmps85
  go_wp2_with (with_reducible refine wpList_copy_splice rfl _ _ _ _ rfl 3 underInts sizeInt _ _ _ _ _ _ rfl rfl w.heap.size 0 (vals (zeros 12)) 3 ?hg (vals xs) ?hn ?hpos ?hfit ?h1 w.heap.size w ?hb ?hBg ?h)
  case hg => exact heap_alloc_new w _
  case hn => simp only [vals, List.length_map, HL.out]; exact (Nat.min_eq_left (by omega)).symm
  case hpos =>
    intro hpos
    have hn0 : 0 < n := by rw [← HL.out]; simpa [vals] using hpos
    obtain ⟨b, off, e, _, hb, hz, hc⟩ := HX.out.2.2.2 hn0
    refine ⟨⟨b, off, none⟩, e, fun j v hv => ?_⟩
    have hj : j < n := by
      have := (List.getElem?_eq_some_iff.1 hv).1
      simpa [vals, HL.out] using this
    rw [Addr.add_mid, hc j hj]
    simp only [vals, List.getElem?_map, Option.map_eq_some_iff] at hv
    obtain ⟨y, hy, rfl⟩ := hv
    rw [List.getD_eq_getElem?_getD, hy]; rfl
  case hfit => simp only [vals, List.length_map, HL.out, zeros_len]; omega
  case h1 => intro v hv; obtain ⟨y, _, rfl⟩ := List.mem_map.1 hv; rfl
  case hb => exact hb0
  case hBg => exact Nat.le_refl _
  case h =>
  intro w1 hg1 hB1
  have hg2 := hg1.out
  rw [splice_zeros (k := 0) HL.out (by omega), Nat.zero_add] at hg2
  have hg2 : w1.heap[w.heap.size]? = some (.cells (vals (xs ++ List.replicate (12 - n) 0)).toArray 3 (0, 0)) := hg2
  have hl12 : (xs ++ List.replicate (12 - n) 0).length = 12 := by simp [HL.out]; omega
  have ho := own_block hg2 (by rw [hl12]; simp [maxLen])
  rw [hl12] at ho
  have HO := Lib.hid ho
  have HB := Lib.hid hB1
  clear hg1 hg2 hB1 ho hl12 hmk2 hb0
  go_wp2_with fail
  ((with_reducible refine (MaskOffT _ _ _ _ _ (xs ++ List.replicate (12 - n) 0) key w1 HO.out.ints).mono ?_); rintro e w2 ⟨A2, rfl, ho, hb⟩)
  have HP : Hid (NewIntsT w (offF (xs ++ List.replicate (12 - n) 0) key) (.returned (.slice A2 (offF (xs ++ List.replicate (12 - n) 0) key).length (offF (xs ++ List.replicate (12 - n) 0) key).length)) w2) :=
    ⟨A2, rfl, ho.mono HB.out.size (Nat.le_refl _), HB.out.trans (hb.mono HB.out.size)⟩
  clear ho hb
  go_wp2
  go_ret
  exact HP.out

end Im5
end Go.Proofs.Ytnjcpbkpcmemeac
