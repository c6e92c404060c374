/-
  Contracts of the program's chapter 23: a long letter cut.
-/
import Derived.Test.YtoghgliijjfppabIm11d
import Derived.Test.YtoghgliijjfppabLk
namespace Go.Proofs.Ytoghgliijjfppab
open Go.RowKit
namespace Im11
open Il Sl Fo Cm Cs Gm Mm Pc Im2 Im4 Chn Lb

/-- The chunks of a list. -/
def chk (ys : List Int) (k : Nat) : List (List Int) := (List.range k).map fun j => (ys.drop (3 * j)).take 3
theorem chk_len (ys : List Int) (k : Nat) : (chk ys k).length = k := by simp [chk]
theorem chk_out (xs : List Int) : outP z3 (chk (numF xs) (cnt3 xs.length)) = cutL xs := by
  unfold outP chk cutL
  rw [List.map_map]
  exact List.map_congr_left fun j _ => chunk3 _ _
theorem cnt_is (n : Nat) : cntC (n + 1) = cnt3 n := rfl
theorem sts_chunks {lo hi : Nat} {w : World} {b off n c : Nat} {ys : List Int} (hy : Ints lo hi w (some ⟨b, off, none⟩) n c ys) {B : Nat} {v : Value} {k : Nat} (hk : 3 * k < n + 3) (hr : w.ownsRow B 22 1 v k ((chunks b off n k).map Sv.v)) :
    ∃ A d, v = .slice A k d ∧ Sts 0 w.heap.size w A k d (chk ys k) := by
  have hsk : (chunks b off n k).map Sv.v = ((List.range k).map fun j => (⟨(ys.drop (3 * j)).take 3, some ⟨b, off + 3 * j, none⟩, min 3 (n - 3 * j), 0⟩ : Sk)).map Sk.cell := by
    unfold chunks
    rw [List.map_map, List.map_map]
    refine List.map_congr_left fun j _ => ?_
    show Value.slice _ _ _ = Value.slice _ _ _
    have hl : ((ys.drop (3 * j)).take 3).length = min 3 (n - 3 * j) := by rw [List.length_take, List.length_drop, hy.1]
    rw [hl]
    rfl
  rw [hsk] at hr
  obtain ⟨h1, h2⟩ := hr
  have hss : ∀ s ∈ ((List.range k).map fun j => (⟨(ys.drop (3 * j)).take 3, some ⟨b, off + 3 * j, none⟩, min 3 (n - 3 * j), 0⟩ : Sk)), Ints 0 w.heap.size w s.A s.xs.length s.c s.xs := fun s hs => by
    obtain ⟨j, hj, rfl⟩ := List.mem_map.1 hs
    have hj2 := List.mem_range.1 hj
    have hl : ((ys.drop (3 * j)).take 3).length = min 3 (n - 3 * j) := by rw [List.length_take, List.length_drop, hy.1]
    have hsub := hy.sub_ (k := 3 * j) (m := min 3 (n - 3 * j)) (by omega)
    have e : (ys.drop (3 * j)).take (min 3 (n - 3 * j)) = (ys.drop (3 * j)).take 3 := by
      rw [Nat.min_def]
      split
      · rfl
      · rw [List.take_of_length_le (by rw [List.length_drop, hy.1]; omega), List.take_of_length_le (by rw [List.length_drop, hy.1]; omega)]
    rw [e] at hsub
    dsimp only
    rw [hl]
    exact ⟨hl, Nat.le_refl _, by have := hsub.2.2.1; unfold maxLen at *; omega, fun hn => by
      obtain ⟨b', off', e1, q1, q2, q3, q4⟩ := hsub.2.2.2 hn
      exact ⟨b', off', e1, Nat.zero_le _, q3, q3, q4⟩⟩
  have hmp : ((List.range k).map fun j => (⟨(ys.drop (3 * j)).take 3, some ⟨b, off + 3 * j, none⟩, min 3 (n - 3 * j), 0⟩ : Sk)).map (·.xs) = chk ys k := by
    unfold chk
    rw [List.map_map]
    rfl
  rcases h2 with ⟨rfl, rfl⟩ | ⟨g, cap, cur, rfl, hb, hg, hnc, hcm, hcs, htk⟩
  · exact ⟨none, 0, rfl, Sts.nil_ (Nat.zero_le _)⟩
  · refine ⟨_, cap, rfl, _, hmp, ⟨h1, hnc, hcm, fun _ => ⟨g, 0, rfl, Nat.zero_le _, (Array.getElem?_eq_some_iff.1 hg).1, (Array.getElem?_eq_some_iff.1 hg).1, fun j u hu => ?_⟩⟩, hss⟩
    rw [← htk] at hu
    rw [cell_of_row _ _ _ _ _ _ hg, Nat.zero_add, ← Array.getElem?_toList]
    have hj := (List.getElem?_eq_some_iff.1 hu).1
    rw [List.length_take] at hj
    rw [List.getElem?_take, if_pos (by omega)] at hu
    exact hu

/-- The length and the letter, to be put together. -/
theorem sts_two {w : World} {A : Option Addr} {n c : Nat} {xs : List Int} (hx : Ints 0 w.heap.size w A n c xs) {b1 b2 : Nat} {t1 t2 : TypeId} (h1 : Blk w b1 #[.int .i64 n] t1) (h2 : Blk w b2 #[.slice (some ⟨b1, 0, none⟩) 1 1, .slice A n c] t2) :
    Sts 0 w.heap.size w (some ⟨b2, 0, none⟩) 2 2 [[(n : Int)], xs] := by
  refine ⟨[⟨[(n : Int)], some ⟨b1, 0, none⟩, 1, 0⟩, ⟨xs, A, c, 0⟩], rfl, ⟨rfl, Nat.le_refl _, by unfold maxLen; omega, fun _ => ⟨b2, 0, rfl, Nat.zero_le _, h2.lt, h2.lt, fun j u hu => ?_⟩⟩, fun s hs => ?_⟩
  · rw [cell_of_row _ _ _ _ _ _ h2, Nat.zero_add]
    have hl := hx.1
    have hj := (List.getElem?_eq_some_iff.1 hu).1
    simp at hj
    obtain rfl | rfl : j = 0 ∨ j = 1 := by omega
    · exact hu
    · simp only [List.map_cons, List.map_nil, List.getElem?_cons_succ, List.getElem?_cons_zero, Sk.cell] at hu
      rw [hl] at hu
      exact hu
  · simp only [List.mem_cons, List.not_mem_nil, or_false] at hs
    rcases hs with rfl | rfl
    · refine ⟨rfl, Nat.le_refl _, by show 1 ≤ maxLen; unfold maxLen; omega, fun _ => ⟨b1, 0, rfl, Nat.zero_le _, h1.lt, h1.lt, fun j hj => ?_⟩⟩
      obtain rfl : j = 0 := by simp at hj; exact hj
      rw [cell_of_row _ _ _ _ _ _ h1]
      rfl
    · dsimp only
      rw [hx.1]
      exact hx
theorem newSS_nil {w : World} : NewSS w.heap.size [] w (.returned (.slice (some ⟨w.heap.size, 0, none⟩) 0 0)) (w.alloc (.cells #[] 22)) :=
  ⟨_, 0, [[]], rfl, StsO.nil_ (Nat.zero_le _), within_nil, (Below.refl _ _).alloc (Nat.le_refl _) _⟩
theorem tot_two (n : Int) (xs : List Int) : tot [[n], xs] = xs.length + 1 := by simp [tot]; omega
theorem flat_two (xs : List Int) : flat [[(xs.length : Int)], xs] = numF xs := by simp [flat, numF]
set_option maxRecDepth 20000 in
set_option maxHeartbeats 1000000 in
theorem PiecesCut (lo hi : Nat) (A : Option Addr) (n c : Nat) (xs : List Int) (w : World) (hx : Ints lo hi w A n c xs) :
    Calls Try.prog 12 #[.slice A n c] w (NewSS w.heap.size (cutF xs) w) := by
  have HX := Lib.hid hx
  have HL := Lib.hid hx.1
  have HNIL : Hid (cutOk xs = false → NewSS w.heap.size (cutF xs) w (.returned (.slice (some ⟨w.heap.size, 0, none⟩) 0 0)) (w.alloc (.cells #[] 22))) := fun h => by rw [cutF_no h]; exact newSS_nil
  have hc1 := hx.2.2.1
  have hc2 := hx.2.1
  unfold maxLen at hc1
  clear hx
  cases hok : okL xs
  · have HV := Lib.hid (HNIL.out (by unfold cutOk; rw [hok]; rfl))
    go_enter Try.func12, Try.ntmps12
    go_wp2_with fail
    ((with_reducible refine (listValid _ _ _ _ _ xs _ HX.out).mono ?_); rintro e w1 ⟨rfl, rfl⟩)
    rw [hok]
    clear hok
    go_wp2
    go_ret
    exact HV.out
  by_cases h14 : 14 < n
  · have HV := Lib.hid (HNIL.out (by unfold cutOk; rw [hok, HL.out, decide_eq_false (by omega)]; rfl))
    have h14' : (14 : Int) < (n : Int) := by omega
    go_enter Try.func12, Try.ntmps12
    go_wp2_with fail
    ((with_reducible refine (listValid _ _ _ _ _ xs _ HX.out).mono ?_); rintro e w1 ⟨rfl, rfl⟩)
    rw [hok]
    clear hok
    go_wp2
    go_ret
    exact HV.out
  have hcut : cutOk xs = true := cutOk_iff.2 ⟨hok, by rw [HL.out]; omega⟩
  have HC : Hid (cutF xs = cutL xs) := cutF_yes hcut
  have HCK : Hid (outP z3 (chk (numF xs) (cnt3 n)) = cutL xs) := by show _ = _; rw [← HL.out]; exact chk_out xs
  have hn14 : n ≤ 14 := by omega
  have h14' : ¬ (14 : Int) < (n : Int) := by omega
  rw [HC.out]
  obtain ⟨q1, q2, q3, q4⟩ := Ck.two_blocks w #[.int .i64 n] #[.slice (some ⟨w.heap.size, 0, none⟩) 1 1, .slice A n c] 3 22
  have HS : Hid (Sts 0 ((w.alloc (.cells #[.int .i64 n] 3)).alloc (.cells #[.slice (some ⟨w.heap.size, 0, none⟩) 1 1, .slice A n c] 22)).heap.size ((w.alloc (.cells #[.int .i64 n] 3)).alloc (.cells #[.slice (some ⟨w.heap.size, 0, none⟩) 1 1, .slice A n c] 22)) (some ⟨w.heap.size + 1, 0, none⟩) 2 2 [[(n : Int)], xs]) :=
    sts_two (ints_topS (HX.out.below q4 (Nat.le_refl _)) (Nat.zero_le _)) q1 q2
  have HB4 := Lib.hid q4
  clear q1 q2 q3 q4 h14 hcut
  go_enter Try.func12, Try.ntmps12
  go_wp2_with fail
  ((with_reducible refine (listValid _ _ _ _ _ xs _ HX.out).mono ?_); rintro e w1 ⟨rfl, rfl⟩)
  rw [hok]
  clear hok
  go_wp2_with fail
  ((with_reducible refine (concat _ _ _ _ _ [[(n : Int)], xs] _ HS.out (by omega) (by rw [tot_two, HL.out]; omega)).mono ?_); rintro e w2 ⟨A2, c2, rfl, ho2, hb2⟩)
  have HB2 := Lib.hid (HB4.out.trans (hb2.mono HB4.out.size))
  rw [show flat [[(n : Int)], xs] = numF xs from by rw [← HL.out]; exact flat_two xs] at ho2
  rw [show flat [[(n : Int)], xs] = numF xs from by rw [← HL.out]; exact flat_two xs]
  have hnl : (numF xs).length = n + 1 := by rw [numF_len, HL.out]
  rw [hnl] at ho2 ⊢
  obtain ⟨b2, off2, rfl, _, _, hz2, _⟩ := ho2.1.2.2.2 (by omega)
  have HO2 := Lib.hid ho2.1
  have hcc := ho2.1.2.2.1
  have hcn := ho2.1.2.1
  clear ho2 hb2 hnl
  go_wp2_with fail
  ((with_reducible refine (chunk b2 off2 (n + 1) c2 _).mono ?_); rintro e w3 ⟨B1, B2, rfl, hd1, hd2, hB1, hB2, hb3⟩)
  have HB3 := Lib.hid (HB2.out.trans (hb3.mono HB2.out.size))
  have HO3 := Lib.hid (HO2.out.below hb3 (Nat.le_refl _))
  have HD1 := Lib.hid hd1
  have HD2 := Lib.hid hd2
  clear hd1 hd2 hb3 HO2 HB2
  go_wp2_with fail
  ((with_reducible refine (collect B1 B2 b2 off2 (n + 1) c2 _ hB1 hB2 HD1.out HD2.out (by omega) hcn hcc).mono ?_); rintro e w4 ⟨v4, rfl, hr4, hb4⟩)
  obtain ⟨A4, d4, rfl, hs4⟩ := sts_chunks (HO3.out.below hb4 (Nat.le_refl _)) (by unfold cntC; omega) hr4
  rw [cnt_is] at hs4 ⊢
  have HB5 := Lib.hid (HB3.out.trans (hb4.mono HB3.out.size))
  have HS4 := Lib.hid hs4
  have hcnt : cnt3 n ≤ 5 := by unfold cnt3; omega
  clear hr4 hb4 hs4 HO3 HB3 HD1 HD2 hB1 hB2
  generalize cnt3 n = k at *
  go_wp2_with fail
  ((with_reducible refine (passPieces0 _ _ _ _ _ (chk (numF xs) k) _ HS4.out (by omega)).mono ?_); rintro e w6 ⟨ch, rfl, hch, hcl, hb6⟩)
  have HB6 := Lib.hid (HB5.out.trans (hb6.mono HB5.out.size))
  have HCH := Lib.hid hch
  have hs5 := HB5.out.size
  clear hch hb6
  go_wp2_with fail
  ((with_reducible refine (receivePieces w.heap.size _ _ z3 (chk (numF xs) k) _ HCH.out (by omega) (by rw [chk_len]; omega)).mono ?_); rintro e w7 ⟨A7, c7, G7, rfl, ho7, hw7, hb7⟩)
  have HP : Hid (NewSS w.heap.size (cutL xs) w (.returned (.slice A7 (outP z3 (chk (numF xs) k)).length c7)) w7) := by
    rw [← HCK.out]
    exact ⟨A7, c7, G7, rfl, ho7, hw7.mono HB6.out.size (Nat.le_refl _), HB6.out.trans hb7⟩
  clear ho7 hw7 hb7
  go_wp2
  go_ret
  exact HP.out

end Im11
end Go.Proofs.Ytoghgliijjfppab
