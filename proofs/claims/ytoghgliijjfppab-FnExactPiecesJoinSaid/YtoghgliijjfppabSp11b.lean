/-
  Contracts of the model's chapter 23: a long letter cut.
-/
import Derived.Test.YtoghgliijjfppabSp11
namespace Go.Proofs.Ytoghgliijjfppab
open Go.RowKit
namespace Sp11
open Il Sl Fo Cm Cs Gm Mm Pc Sp2

theorem dest_lit (w : World) (x : Int) : Dest 3 1 (some w.heap.size) (w.alloc (.cells #[.int .i64 x] 3)) (.slice (some ⟨w.heap.size, 0, none⟩) 1 1) 1 [.int .i64 x] :=
  .inr ⟨_, rfl, 1, rfl, rfl, .inr ⟨w.heap.size, 1, _, rfl, Nat.le_refl _, heap_alloc_new _ _, Nat.le_refl _, by unfold maxLen; omega, rfl, rfl⟩⟩
/-- A list of lists, gathered. -/
def NewG (xss : List (List Int)) (w : World) (e : Ending) (w' : World) : Prop :=
  ∃ v ss, e = .returned v ∧ GatK w.heap.size w'.heap.size w' v ss ∧ ss.map (·.xs) = xss ∧ Below w.heap.size w w'
def padM : Value → Nat
  | .slice _ l _ => (3 - l % 3) % 3
  | _ => 0
def zer (j : Nat) : List Int := List.replicate j 0
theorem zer_snoc (j : Nat) : zer j ++ [0] = zer (j + 1) := by unfold zer; rw [List.replicate_succ']
theorem getD_zer (ys : List Int) (j i : Nat) : (ys ++ zer j).getD i 0 = ys.getD i 0 := by
  simp only [List.getD_eq_getElem?_getD, List.getElem?_append, zer]
  split
  · rfl
  · rw [List.getElem?_eq_none (show ys.length ≤ i by omega)]
    rw [List.getElem?_replicate]
    split <;> rfl
theorem sub_at3 {ys : List Int} {j : Nat} (h : 3 * j + 3 ≤ ys.length) : (ys.drop (3 * j)).take 3 = at3 ys j := by
  have hl : ((ys.drop (3 * j)).take 3).length = 3 := by rw [List.length_take, List.length_drop]; omega
  have h2 := chunk3 ys j
  rwa [fil_full hl] at h2
theorem tmod3 (l : Nat) : ((l : Nat) : Int).tmod 3 = ((l % 3 : Nat) : Int) := by
  rw [Int.tmod_eq_emod_of_nonneg (by omega)]
  omega
/-- What is filled up. -/
def FillR (w wr : World) (n : Nat) (xs : List Int) (v : Value) (j : Nat) : Prop :=
  ∃ g, Dest 3 1 g wr v (n + 1 + j) ((numF xs ++ zer j).map (Value.int .i64)) ∧ (∀ k, g = some k → w.heap.size ≤ k) ∧ Below w.heap.size w wr
/-- What is cut. -/
def CutR (w wr : World) (lo : Nat) (A : Option Addr) (m c : Nat) (ys xs : List Int) (v : Value) (j : Nat) : Prop :=
  Ints 0 lo wr A m c ys ∧ Below w.heap.size w wr ∧ lo ≤ wr.heap.size ∧ ∃ ss : List Sk, GatK lo wr.heap.size wr v ss ∧ ss.map (·.xs) = (List.range j).map (at3 (numF xs))
set_option maxRecDepth 20000 in
set_option maxHeartbeats 2000000 in
theorem PiecesCut (lo hi : Nat) (A : Option Addr) (n c : Nat) (xs : List Int) (w : World) (hx : Ints lo hi w A n c xs) :
    Calls Try.prog 10 #[.slice A n c] w (NewG (cutF xs) w) := by
  have HL := Lib.hid hx.1
  have hal : Below w.heap.size w (w.alloc (.cells #[] 22)) := (Below.refl _ _).alloc (Nat.le_refl _) _
  have HX := Lib.hid (hx.below hal (Nat.le_refl _))
  have HNIL : Hid (cutOk xs = false → NewG (cutF xs) w (.returned (.slice (some ⟨w.heap.size, 0, none⟩) 0 0)) (w.alloc (.cells #[] 22))) := fun h => by rw [cutF_no h]; exact ⟨_, [], rfl, GatK.nil_ _, rfl, hal⟩
  have hc1 := hx.2.2.1
  have hc2 := hx.2.1
  unfold maxLen at hc1
  clear hx
  cases hok : okL xs
  · have HV := Lib.hid (HNIL.out (by unfold cutOk; rw [hok]; rfl))
    go_enter Try.func10, Try.ntmps10
    go_wp2_with fail
    ((with_reducible refine (l2List _ _ _ _ _ xs _ HX.out).mono ?_); rintro e w1 ⟨rfl, rfl⟩)
    rw [hok]
    clear hok
    go_wp2
    go_ret
    exact HV.out
  have hn24 : n ≤ 24 := by rw [← HL.out]; exact (okL_iff.1 hok).2
  by_cases h14 : 14 < n
  · have HV := Lib.hid (HNIL.out (by unfold cutOk; rw [hok, HL.out, decide_eq_false (by omega)]; rfl))
    have h5 : 5 < cnt3 n := by unfold cnt3; omega
    have h5' : (5 : Int) < ((cnt3 n : Nat) : Int) := by omega
    go_enter Try.func10, Try.ntmps10
    go_wp2_with fail
    ((with_reducible refine (l2List _ _ _ _ _ xs _ HX.out).mono ?_); rintro e w1 ⟨rfl, rfl⟩)
    rw [hok]
    clear hok
    go_wp2_with fail
    ((with_reducible refine (l23Count n _ (by omega)).mono ?_); rintro e w1 ⟨rfl, rfl⟩)
    clear h5
    generalize cnt3 n = k at *
    go_wp2
    go_ret
    exact HV.out
  have hcut : cutOk xs = true := cutOk_iff.2 ⟨hok, by rw [HL.out]; omega⟩
  have HC : Hid (cutF xs = (List.range (cnt3 n)).map (at3 (numF xs))) := by show _ = _; rw [cutF_yes hcut]; unfold cutL; rw [HL.out]
  have h5 : cnt3 n ≤ 5 := by unfold cnt3; omega
  have h5' : ¬ (5 : Int) < ((cnt3 n : Nat) : Int) := by omega
  have hb1 := hal.alloc hal.size (.cells #[.int .i64 n] 3)
  have HB1 := Lib.hid hb1
  have hs1 : (w.alloc (.cells #[] 22)).heap.size = w.heap.size + 1 := by simp
  have hd1 := dest_lit (w.alloc (.cells #[] 22)) n
  rw [hs1] at hd1
  have HD1 := Lib.hid hd1
  have HR1 := Lib.hid (ints_row (HX.out.below ((Below.refl _ _).alloc (Nat.le_refl _) (.cells #[.int .i64 n] 3)) (Nat.le_refl _)))
  have hn14 : n ≤ 14 := by omega
  rw [HC.out]
  clear hal hb1 hd1 hcut h14 HNIL
  go_enter Try.func10, Try.ntmps10
  go_wp2_with fail
  ((with_reducible refine (l2List _ _ _ _ _ xs _ HX.out).mono ?_); rintro e w1 ⟨rfl, rfl⟩)
  rw [hok]
  clear hok
  go_wp2_with fail
  ((with_reducible refine (l23Count n _ (by omega)).mono ?_); rintro e w1 ⟨rfl, rfl⟩)
  go_wp2_with (at_builtin; refine wpList_appD elInt _ _ _ _ _ HD1.out _ _ _ _ _ _ HR1.out (ints_one_cell _) (by omega) _ _ rfl rfl rfl rfl ?_; intro g2 v2 w2 hd2 hg2 hgr2)
  have HR2 : Hid (FillR w w2 n xs v2 0) := by
    refine ⟨g2, ?_, ?_, HB1.out.grown hgr2 HB1.out.size fun k e => ?_⟩
    · have e : (numF xs ++ zer 0).map (Value.int .i64) = [.int .i64 n] ++ xs.map (Value.int .i64) := by rw [← HL.out]; simp [numF, zer]
      rw [e, Nat.add_zero, Nat.add_comm]
      exact hd2
    · rintro k rfl
      rcases hg2 with e | ⟨k', e, hk'⟩
      · cases e; omega
      · cases e; have := HB1.out.size; omega
    · cases e; omega
  clear hd2 hg2 hgr2 HD1 HR1 HB1 HX
  go_wp2
  go_loopw [4] (fun v wr => ∃ j : Nat, j ≤ 2 ∧ Hid (∀ i, i < j → (n + 1 + i) % 3 ≠ 0) ∧ Hid (FillR w wr n xs v j)) (fun v _ => padM v)
  case atStart => exact ⟨0, by omega, fun i h => absurd h (by omega), HR2.out⟩
  case round =>
    obtain ⟨j, hj, hj0, hR⟩ := hrel
    clear HR2
    obtain ⟨g, k1, k2, k3⟩ := hR.out
    obtain ⟨A4, c4, b4, rfl, ho4, hk4⟩ := dest_ints k1
    have HK1 := Lib.hid k1
    have HK2 := Lib.hid k2
    have HK3 := Lib.hid k3
    have HO4 := Lib.hid ho4
    have HK4 := Lib.hid hk4
    have HLT : Hid (∀ l, l = n + 1 + j → l % 3 ≠ 0 → j + 1 ≤ 2 ∧ ∀ i, i < j + 1 → (n + 1 + i) % 3 ≠ 0) := fun l hl h => by
      have hh := hj0.out
      refine ⟨?_, fun i hi => ?_⟩
      · rcases Nat.lt_or_ge j 2 with q | q
        · omega
        · have h0 := hh 0 (by omega)
          have h1 := hh 1 (by omega)
          omega
      · rcases Nat.lt_or_ge i j with q | q
        · exact hh i q
        · have : i = j := by omega
          rw [this, ← hl]; exact h
    have hlb : n + 1 + j ≤ 17 := by omega
    clear k1 k2 k3 ho4 hk4 hR
    generalize hl : n + 1 + j = l at *
    have HLL := Lib.hid hl
    clear hl
    have ht := tmod3 l
    by_cases hm : l % 3 = 0
    · have hl3 : l = 3 * cnt3 n := by have := HLL.out; unfold cnt3; omega
      have hys : (numF xs ++ zer j).length = l := by rw [← HO4.out.1.1]
      have HAT : Hid (∀ i, i < cnt3 n → ((numF xs ++ zer j).drop (3 * i)).take 3 = at3 (numF xs) i) := fun i hi => by
        rw [sub_at3 (by rw [hys]; omega)]
        unfold at3
        rw [getD_zer, getD_zer, getD_zer]
      have HR6 : Hid (CutR w wr wr.heap.size A4 l c4 (numF xs ++ zer j) xs (.slice (some ⟨w.heap.size, 0, none⟩) 0 0) 0) := ⟨ints_topS HO4.out.1 (Nat.zero_le _), HK3.out, Nat.le_refl _, [], GatK.nil_ _, rfl⟩
      have hwl := HK3.out.size
      clear HO4 HK1 HK2 HK3 HK4 HLT hj0 HLL hlb
      rw [hm] at ht
      generalize numF xs ++ zer j = ys at *
      generalize wr.heap.size = lo at *
      generalize cnt3 n = k at *
      subst hl3
      have h3k : 3 * k ≤ 15 := by omega
      go_wp2
      go_loopw [3, 5] (fun v i W => ∃ q : Nat, q ≤ k ∧ i = .int .i64 ((3 * q : Nat) : Int) ∧ Hid (CutR w W lo A4 (3 * k) c4 ys xs v q)) (fun _ i _ => 3 * k + 3 - (intOf i).toNat)
      case atStart => exact ⟨0, Nat.zero_le _, rfl, HR6.out⟩
      case round =>
        obtain ⟨q, hq, rfl, hC⟩ := hrel
        clear HR6
        obtain ⟨z1, z2, z3, ss, z4, z5⟩ := hC.out
        by_cases hlt : q < k
        · have hssl : ss.length ≤ 100000 := by
            have h1 : (ss.map (·.xs)).length = q := by rw [z5]; simp
            rw [List.length_map] at h1
            omega
          obtain ⟨b, off, rfl, _, _, hbz, _⟩ := z1.2.2.2 (by omega)
          have hcm := z1.2.2.1
          have hcn := z1.2.1
          unfold maxLen at hcm
          have hsub := z1.sub_ (k := 3 * q) (m := 3) (by omega)
          rw [HAT.out q hlt] at hsub
          have HZ5 : Hid ((List.range (q + 1)).map (at3 (numF xs)) = (List.range q).map (at3 (numF xs)) ++ [at3 (numF xs) q]) := by show _ = _; rw [List.range_succ, List.map_append]; rfl
          have hal : Below wr.heap.size wr (wr.alloc (.cells #[] 3)) := (Below.refl _ _).alloc (Nat.le_refl _) _
          have hals : (wr.alloc (.cells #[] 3)).heap.size = wr.heap.size + 1 := by simp
          have HD : Hid (Dest 3 1 (some wr.heap.size) (wr.alloc (.cells #[] 3)) (.slice (some ⟨wr.heap.size, 0, none⟩) 0 0) 0 []) := .inr ⟨_, rfl, accV_new wr _ _⟩
          have HRW := Lib.hid (ints_row (hsub.below hal (Nat.le_refl _)))
          have HAL := Lib.hid hal
          have HGK := Lib.hid z4
          have HZ1 := Lib.hid z1
          have HZ2 := Lib.hid z2
          have HSS := Lib.hid z5
          have hl3 : (at3 (numF xs) q).length = 3 := rfl
          have HL3 := Lib.hid hl3
          have hi3 : 3 * q + 3 ≤ 3 * k := by omega
          have hqr : ∀ x : Nat, x = 3 * q + 3 → x = 3 * (q + 1) := fun x h => by omega
          have HQR := Lib.hid hqr
          clear z1 z2 z4 z5 hsub hal hl3 hC hqr
          generalize at3 (numF xs) q = x3 at *
          generalize hi : 3 * q = i at *
          generalize hm3 : 3 * k = m at *
          have HIM := Lib.hid hi
          have HMM := Lib.hid hm3
          clear hi hm3
          have hw1 : IntKind.i64.wrap ((i : Int) + 3) = (i : Int) + 3 := IntWalk.i64_in _ (by omega)
          have hci : ¬ c4 = i := by omega
          have hce : ¬ c4 - i = 0 := by omega
          have hh3 : i + 3 - i = 3 := by omega
          have him : i < m := by omega
          have hmb : 0 + 3 ≤ 1000000 := by omega
          have HSK : Hid (∀ g5 v5 w5, Dest 3 1 g5 w5 v5 (0 + 3) ([] ++ x3.map (Value.int .i64)) → (g5 = some wr.heap.size ∨ ∃ k, g5 = some k ∧ (wr.alloc (.cells #[] 3)).heap.size ≤ k) → World.grownBy (wr.alloc (.cells #[] 3)) w5 (some wr.heap.size) →
              ∃ A5 c5 b5, v5 = .slice A5 x3.length c5 ∧ SkO w5 ⟨x3, A5, c5, b5⟩ ∧ (∀ y ∈ fpk ⟨x3, A5, c5, b5⟩, wr.heap.size ≤ y) ∧ Below wr.heap.size wr w5) := fun g5 v5 w5 hd5 hg5 hgr5 => by
            have hd6 : Dest 3 1 g5 w5 v5 x3.length (x3.map (Value.int .i64)) := by rw [HL3.out]; simpa using hd5
            obtain ⟨A5, c5, b5, h1, ho5, hf5⟩ := Ck.sk_new hd6 hg5 (Nat.le_refl _) HAL.out.size
            exact ⟨A5, c5, b5, h1, ho5, hf5, HAL.out.grown hgr5 (by omega) (fun k hk => by simp at hk; omega)⟩
          go_wp2_with (at_builtin; first
            | (refine wpList_appD elInt _ _ _ _ _ HD.out _ _ _ _ _ _ HRW.out (ints_one_cell _) hmb _ _ rfl rfl rfl (by go_simp) ?_; intro g5 v5 w5 hd5 hg5 hgr5; obtain ⟨A5, c5, b5, rfl, ho5, hf5, hb5⟩ := HSK.out g5 v5 w5 hd5 hg5 hgr5)
            | (refine wpList_gatK (x := ⟨x3, A5, c5, b5⟩) (HGK.out.below hb5 (Nat.le_refl _)) ho5 hf5 z3 hb5.size hssl _ _ rfl rfl rfl (by go_simp) ?_; intro v6 w6 hg6 hb6 hk6; obtain ⟨A6, m6, c6, rfl⟩ := hg6.sl))
          have HC6 : Hid (CutR w w6 lo (some ⟨b, off, none⟩) m c4 ys xs (.slice A6 m6 c6) (q + 1)) := by
            have hb56 : Below lo wr w6 := (hb5.mono z3).trans hb6
            refine ⟨HZ1.out.keep hb56.size fun x _ h2 h3 => hb56.block x h2, HZ2.out.trans (hb56.mono hwl), by have := hb56.size; omega, _, hg6, ?_⟩
            rw [List.map_append, HSS.out, HZ5.out]
            rfl
          clear hg6 hb6 hk6 hb5 ho5 hf5 hd5 hg5 hgr5 HD HRW HSK HAL HGK HZ1 HZ2
          go_wp2
          go_roundw
          case rel => exact ⟨q + 1, by omega, congrArg (Value.int .i64) (by have := HQR.out (i + 3) rfl; omega), HC6.out⟩
          case measure => simp only [intOf]; simp; omega
        · obtain rfl : q = k := by omega
          have HP : Hid (NewG ((List.range q).map (at3 (numF xs))) w (.returned u3) wr) := ⟨_, ss, rfl, z4.mono hwl (Nat.le_refl _), z5, z2⟩
          obtain ⟨A9, m9, c9, rfl⟩ := z4.sl
          clear z1 z2 z4 z5 hC hlt
          generalize 3 * q = m at *
          go_wp2
          go_ret
          exact HP.out
    · have hmne : (((l % 3 : Nat) : Int) != 0) = true := by simpa using (by omega : ¬ ((l % 3 : Nat) : Int) = 0)
      have hal : Below wr.heap.size wr (wr.alloc (.cells #[.int .i64 0] 3)) := (Below.refl _ _).alloc (Nat.le_refl _) _
      have HD := Lib.hid (dest_keep (w' := wr.alloc (.cells #[.int .i64 0] 3)) HK1.out fun k e => hal.block k (dest_lt HK1.out k e))
      have HRW := Lib.hid (row_lit wr 3 [.int .i64 0] rfl)
      have HAL := Lib.hid hal
      obtain ⟨hj2, hi2⟩ := HLT.out l rfl hm
      have HI2 := Lib.hid hi2
      clear hal hi2 HLT
      generalize hr : l % 3 = r at *
      have HRR := Lib.hid hr
      clear hr
      go_wp2_with (at_builtin; refine wpList_appD elInt _ _ _ _ _ HD.out _ _ _ _ _ _ HRW.out (fun u hu => by simp at hu; subst hu; rfl) (by omega) _ _ rfl rfl rfl rfl ?_; intro g5 v5 w5 hd5 hg5 hgr5)
      have HR5 : Hid (FillR w w5 n xs v5 (j + 1)) := by
        refine ⟨g5, ?_, ?_, ?_⟩
        · rw [← zer_snoc, ← List.append_assoc, List.map_append, ← Nat.add_assoc, HLL.out]; exact hd5
        · rintro k rfl
          rcases hg5 with e | ⟨k', e, hk'⟩
          · exact HK2.out k e.symm
          · cases e; have := HK3.out.size; have := HAL.out.size; omega
        · exact (HK3.out.trans (HAL.out.mono HK3.out.size)).grown hgr5 (by have := HK3.out.size; have := HAL.out.size; omega) HK2.out
      obtain ⟨A5, c5, b5, rfl, _, _⟩ := dest_ints (xs := numF xs ++ zer j ++ [0]) (by rw [List.map_append]; exact hd5)
      clear hd5 hg5 hgr5 HD HRW
      go_wp2
      go_roundw
      case rel => exact ⟨j + 1, hj2, HI2.out, HR5.out⟩
      case measure => show (3 - (l + 1) % 3) % 3 < (3 - l % 3) % 3; have := HRR.out; omega

end Sp11
end Go.Proofs.Ytoghgliijjfppab
