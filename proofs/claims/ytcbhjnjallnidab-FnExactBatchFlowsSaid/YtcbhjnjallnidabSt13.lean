/-
  The library's slices.SortStableFunc on flows to receivers: no more than one block of insertion sort.
-/
import Derived.Test.YtcbhjnjallnidabSs13
import Derived.Test.YtcbhjnjallnidabAv
import Derived.Deep.Cut
namespace Go.Proofs.Ytcbhjnjallnidab
open Go.RowKit Go.Shelf Go.Sort
namespace St13
open Il Sl Fc Fp Pm Ss13

def stR : Go.Shelf.Ren := ⟨fun | 20 => 44 | n => n, fun | 0 => 0 | 3 => 3 | 4 => 4 | 22 => 26 | 24 => 30 | 25 => 45 | n => n, fun | n => n⟩
set_option maxRecDepth 20000 in
theorem st20 : Go.Proofs.SlLaysF0.n20 Try.prog stR := {
  mixed := by kernel_rfl
  f20 := ⟨Try.f44.name, by kernel_rfl, Try.func44.trans (congrArg some (by kernel_rfl))⟩
  t0 := Try.underlying0
  a0 := Try.isAgg0
  z0 := Try.sizeOf0
  v0 := Try.zeroValue0
  t3 := Try.underlying3
  a3 := Try.isAgg3
  z3 := Try.sizeOf3
  v3 := Try.zeroValue3
  t4 := Try.underlying4
  a4 := Try.isAgg4
  z4 := Try.sizeOf4
  v4 := Try.zeroValue4
  t22 := Try.underlying26
  a22 := Try.isAgg26
  z22 := Try.sizeOf26
  v22 := Try.zeroValue26
  t25 := Try.underlying45
  a25 := Try.isAgg45
  z25 := Try.sizeOf45
  v25 := Try.zeroValue45 }
theorem isNaN (x : Int) (w : World) : Calls Try.prog 40 #[.int .i64 x] w fun e w' => e = .returned (.bool false) ∧ w = w' := by
  have e0 : (x != x) = false := by simp
  go_enter Try.func40, Try.ntmps40
  go_wp2
  go_ret
  exact ⟨rfl, rfl⟩
theorem compare (x y : Int) (w : World) : Calls Try.prog 29 #[.int .i64 x, .int .i64 y] w fun e w' => e = .returned (.int .i64 (cmpI x y)) ∧ w = w' := by
  unfold cmpI
  by_cases h1 : x < y
  · rw [if_pos h1]
    go_enter Try.func29, Try.ntmps29
    go_wp2_with fail
    ((with_reducible refine (isNaN x _).mono ?_); rintro e w1 ⟨rfl, rfl⟩)
    go_wp2_with fail
    ((with_reducible refine (isNaN y _).mono ?_); rintro e w1 ⟨rfl, rfl⟩)
    go_wp2
    go_ret
    exact ⟨rfl, rfl⟩
  · rw [if_neg h1]
    by_cases h2 : y < x
    · rw [if_pos h2]
      go_enter Try.func29, Try.ntmps29
      go_wp2_with fail
      ((with_reducible refine (isNaN x _).mono ?_); rintro e w1 ⟨rfl, rfl⟩)
      go_wp2_with fail
      ((with_reducible refine (isNaN y _).mono ?_); rintro e w1 ⟨rfl, rfl⟩)
      go_wp2
      go_ret
      exact ⟨rfl, rfl⟩
    · rw [if_neg h2]
      go_enter Try.func29, Try.ntmps29
      go_wp2_with fail
      ((with_reducible refine (isNaN x _).mono ?_); rintro e w1 ⟨rfl, rfl⟩)
      go_wp2_with fail
      ((with_reducible refine (isNaN y _).mono ?_); rintro e w1 ⟨rfl, rfl⟩)
      go_wp2
      go_ret
      exact ⟨rfl, rfl⟩
/-- Draws and blocks more, nothing else. -/
def GrewD (w w' : World) : Prop := ∃ q os, w' = grow (w.drewN q) os
theorem GrewD.refl (w : World) : GrewD w w := ⟨0, #[], by rw [grow_empty]; rfl⟩
theorem GrewD.alloc {w w' : World} (h : GrewD w w') (o : Obj) : GrewD w (w'.alloc o) := by
  obtain ⟨q, os, rfl⟩ := h
  exact ⟨q, os ++ #[o], by rw [alloc_eq_grow, grow_grow]⟩
theorem GrewD.drew {w w' : World} (h : GrewD w w') : GrewD w w'.drew := by
  obtain ⟨q, os, rfl⟩ := h
  exact ⟨q + 1, os, by rw [drew_grow]; rfl⟩
set_option maxRecDepth 20000 in
theorem byTo (a0 a1 a2 b0 b1 b2 : Int) (w : World) : Calls Try.prog 28 #[.agg #[.int .i64 a0, .int .i64 a1, .int .i64 a2], .agg #[.int .i64 b0, .int .i64 b1, .int .i64 b2]] w fun e w' => e = .returned (.int .i64 (cmpI a1 b1)) ∧ GrewD w w' := by
  have B0 : Hid (GrewD w ((w.alloc (.cells #[.int .i64 a0, .int .i64 a1, .int .i64 a2] 30)).alloc (.cells #[.int .i64 b0, .int .i64 b1, .int .i64 b2] 30))) := ((GrewD.refl w).alloc _).alloc _
  have hs1 : (w.alloc (.cells #[.int .i64 a0, .int .i64 a1, .int .i64 a2] 30)).heap.size = w.heap.size + 1 := by simp
  have x1 : Blk1 (w.alloc (.cells #[.int .i64 a0, .int .i64 a1, .int .i64 a2] 30)) w.heap.size ⟨a0, a1, a2⟩ := heap_alloc_new _ _
  have x2 : Blk1 ((w.alloc (.cells #[.int .i64 a0, .int .i64 a1, .int .i64 a2] 30)).alloc (.cells #[.int .i64 b0, .int .i64 b1, .int .i64 b2] 30)) w.heap.size ⟨a0, a1, a2⟩ := x1.same (Below.heap_alloc _ _ _ (by rw [hs1]; omega))
  have y2 : Blk1 ((w.alloc (.cells #[.int .i64 a0, .int .i64 a1, .int .i64 a2] 30)).alloc (.cells #[.int .i64 b0, .int .i64 b1, .int .i64 b2] 30)) (w.heap.size + 1) ⟨b0, b1, b2⟩ := by
    have := heap_alloc_new (w.alloc (.cells #[.int .i64 a0, .int .i64 a1, .int .i64 a2] 30)) (.cells #[.int .i64 b0, .int .i64 b1, .int .i64 b2] 30)
    rw [hs1] at this
    exact this
  obtain ⟨-, p1, -, -, -, -⟩ := x2.cells
  obtain ⟨-, q1, -, -, -, -⟩ := y2.cells
  dsimp only at p1 q1
  clear x1 x2 y2 hs1
  go_enter Try.func28, Try.ntmps28
  go_wp2_with fail
  ((with_reducible refine (compare a1 b1 _).mono ?_); rintro e w1 ⟨rfl, rfl⟩)
  go_wp2
  go_ret
  exact ⟨rfl, B0.out⟩
/-- The flows to the receivers are in order. -/
def StPost (g cap : Nat) (ys : List Fl) (w : World) (e : Ending) (w' : World) : Prop :=
  e = .returned (.tuple #[]) ∧ FlsO g (g + 1) w' (some ⟨g, 0, none⟩) ys.length cap ys ∧ w.grownBy w' (some g)
set_option maxRecDepth 20000 in
theorem insertionSort_ (g cap n : Nat) (rs : List Int) (base : Int) (w : World) (hg : Gat g w (.slice (some ⟨g, 0, none⟩) n cap) (passO rs base)) (hrs : rs.all inName = true) (hn : rs.length = n) (h8 : n ≤ 8) :
    Calls Try.prog 44 #[.slice (some ⟨g, 0, none⟩) n cap, .int .i64 0, .int .i64 n, .func (.func 28) #[] #[]] w (StPost g cap (passL rs base) w) := by
  have hgl := hg.lt
  obtain ⟨cap', e, ho⟩ := hg
  have hl : (passO rs base).length = n := by rw [passO_len, hn]
  simp only [Value.slice.injEq, true_and] at e
  obtain ⟨_, rfl⟩ := e
  rcases ho.2 with ⟨q, _⟩ | ⟨g1, cap1, cur, q, hb, hh, r1, r2, r3, r4⟩
  · simp at q
  · simp only [Value.slice.injEq, Option.some.injEq, Addr.mk.injEq, and_true] at q
    obtain ⟨rfl, _, rfl⟩ := q
    have hsz : (passO rs base).toArray.size = n := by simp [hl]
    have HH := holds3 hh r4
    have h : Calls Try.prog 44 #[.slice (some ⟨g, 0, none⟩) (passO rs base).toArray.size cap, .int .i64 (0 : Nat), .int .i64 n, .func (.func 28) #[] #[]] w fun e w' =>
        e = .returned (.tuple #[]) ∧ ∃ m os, w' = sortWorldK Fl.cells 3 w g 0 m (Sort.insertionSort (ltOf cmpT) (passO rs base).toArray 0 n) os :=
      AnyQ.insertionSortCmpFunc st20 3 Try.isAgg30 Try.sizeOf30 Fl.cells cells_len cells_one cmpT 28 #[] g 0 cap 0 n (passO rs base).toArray w
        (enters_of Try.func28 (by kernel_rfl) rfl) (fun _ _ _ _ x y => byTo x.fr x.to x.nm y.fr y.to y.nm _) HH hgl (Nat.zero_le _) (by omega) (by omega)
    rw [hsz] at h
    refine h.mono fun e w' he => ?_
    obtain ⟨rfl, m, os, rfl⟩ := he
    have hsp := sorted_pass base hrs
    rw [hsz] at hsp
    have hdl : (Sort.insertionSort (ltOf cmpT) (passO rs base).toArray 0 n).size = n := by
      have := congrArg List.length hsp
      rw [Array.length_toList, pass_len base hrs, hn] at this
      exact this
    have hk4 := holdsK_sortWorldK_c Fl.cells 3 w g 0 (passO rs base).toArray (Sort.insertionSort (ltOf cmpT) (passO rs base).toArray 0 n) m os HH hgl (by rw [hdl, hsz])
    have hsz2 := size_sortWorldK_c Fl.cells 3 w g 0 m (Sort.insertionSort (ltOf cmpT) (passO rs base).toArray 0 n) os
    have hrow := holds3_row hk4 (Nat.lt_of_lt_of_le hgl hsz2) (cap := cap) (by rw [hdl]; omega) r2
    rw [hsp] at hrow
    exact ⟨rfl, hrow, grown_sort3 _⟩
set_option maxRecDepth 20000 in
theorem stable (g cap n : Nat) (rs : List Int) (base : Int) (w : World) (hg : Gat g w (.slice (some ⟨g, 0, none⟩) n cap) (passO rs base)) (hrs : rs.all inName = true) (hn : rs.length = n) (h8 : n ≤ 8) :
    Calls Try.prog 39 #[.slice (some ⟨g, 0, none⟩) n cap, .int .i64 n, .func (.func 28) #[] #[]] w (StPost g cap (passL rs base) w) := by
  have HI := Lib.hid (insertionSort_ g cap n rs base w hg hrs hn h8)
  have d1 : decide (20 ≤ (n : Int)) = false := by simp; omega
  have d2 : decide (20 < (n : Int)) = false := by simp; omega
  clear hg hrs hn
  go_enter Try.func39, Try.ntmps39
  go_wp2
  go_loopw [7, 8] (fun a b wr => a = .int .i64 0 ∧ b = .int .i64 20 ∧ wr = w) (fun _ _ _ => 0)
  case atStart => exact ⟨rfl, rfl, rfl⟩
  case round =>
    obtain ⟨rfl, rfl, rfl⟩ := hrel
    go_wp2_with fail
    ((with_reducible refine (HI.out).mono ?_); rintro e w1 ⟨rfl, ho, hg⟩)
    have HP : Hid (StPost g cap (passL rs base) wr (.returned (.tuple #[])) w1) := ⟨rfl, ho, hg⟩
    clear ho hg HI
    go_wp2
    go_loopw [6, 7, 8, 9] (fun a _ _ _ wq => a = .int .i64 20 ∧ wq = w1) (fun _ _ _ _ _ => 0)
    case atStart => exact ⟨rfl, rfl⟩
    case round =>
      obtain ⟨rfl, rfl⟩ := hrel
      go_wp2
      refine bodyPost_end (results_none rfl _ _ _) rfl ?_
      exact HP.out
set_option maxRecDepth 20000 in
theorem sortStable (g cap n : Nat) (rs : List Int) (base : Int) (w : World) (hg : Gat g w (.slice (some ⟨g, 0, none⟩) n cap) (passO rs base)) (hrs : rs.all inName = true) (hn : rs.length = n) (h8 : n ≤ 8) :
    Calls Try.prog 27 #[.slice (some ⟨g, 0, none⟩) n cap, .func (.func 28) #[] #[]] w (StPost g cap (passL rs base) w) := by
  have HI := Lib.hid (stable g cap n rs base w hg hrs hn h8)
  have hcc : n ≤ cap := by
    obtain ⟨_, _, e, ho⟩ := hg.own
    simp only [Value.slice.injEq] at e
    obtain ⟨_, hl, rfl⟩ := e
    have := ho.row_.cap_
    omega
  clear hg hrs hn
  go_enter Try.func27, Try.ntmps27
  go_wp2_with fail
  ((with_reducible refine (HI.out).mono ?_); rintro e w1 ⟨rfl, ho, hg⟩)
  have HP : Hid (StPost g cap (passL rs base) w (.returned (.tuple #[])) w1) := ⟨rfl, ho, hg⟩
  clear ho hg HI
  go_wp2
  refine bodyPost_end (results_none rfl _ _ _) rfl ?_
  exact HP.out
end St13
end Go.Proofs.Ytcbhjnjallnidab
