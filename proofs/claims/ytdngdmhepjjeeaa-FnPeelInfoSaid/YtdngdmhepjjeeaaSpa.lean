/-
  Several parts of the proof in one text.
-/
import Derived.Test.YtdngdmhepjjeeaaChecked
import Derived.Test.YtdngdmhepjjeeaaIla
import Derived.Test.YtdngdmhepjjeeaaPl
import Derived.BigQuiet
import Derived.Deep.RegionLaw
/-
  Contracts of the model's chapter 2: streams, masking on and off.
-/
namespace Go.Proofs.Ytdngdmhepjjeeaa
open Go.RowKit
namespace Sp2
open Il Gm Mm

set_option maxRecDepth 20000 in
theorem l1Is_yes (n : Int) (w : World) (h1 : 1 ≤ n) (h2 : n ≤ 996) :
    Calls Try.prog 32 #[.int .i64 n] w fun e w' => e = .returned (.bool true) ∧ w = w' := by
  go_enter Try.func32, Try.ntmps32
  go_wp2
  go_ret
  exact ⟨rfl, rfl⟩
set_option maxRecDepth 20000 in
theorem l1Is_no (n : Int) (w : World) (h : n < 1 ∨ 996 < n) :
    Calls Try.prog 32 #[.int .i64 n] w fun e w' => e = .returned (.bool false) ∧ w = w' := by
  rcases h with h | h
  · go_enter Try.func32, Try.ntmps32
    go_wp2
    go_ret
    exact ⟨rfl, rfl⟩
  · have h0 : 1 ≤ n := by omega
    have h0d : decide (n ≤ 996) = false := by simp; omega
    go_enter Try.func32, Try.ntmps32
    go_wp2
    go_ret
    exact ⟨rfl, rfl⟩
set_option maxRecDepth 20000 in
theorem l1Is (n : Int) (w : World) :
    Calls Try.prog 32 #[.int .i64 n] w fun e w' => e = .returned (.bool (inG n)) ∧ w = w' := by
  by_cases h : 1 ≤ n ∧ n ≤ 996
  · rw [inG_iff.2 h]; exact l1Is_yes n w h.1 h.2
  · rw [inG_no.2 h]; exact l1Is_no n w (by omega)

set_option maxRecDepth 20000 in
theorem l6In (n lo hi : Int) (w : World) :
    Calls Try.prog 45 #[.int .i64 n, .int .i64 lo, .int .i64 hi] w fun e w' => e = .returned (.bool (decide (lo ≤ n ∧ n ≤ hi))) ∧ w = w' := by
  by_cases h1 : lo ≤ n
  · by_cases h2 : n ≤ hi
    · rw [decide_eq_true (And.intro h1 h2)]
      go_enter Try.func45, Try.ntmps45
      go_wp2
      go_ret
      exact ⟨rfl, rfl⟩
    · rw [decide_eq_false (fun h => h2 h.2)]
      have h3 : decide (n ≤ hi) = false := by simpa using h2
      clear h2
      go_enter Try.func45, Try.ntmps45
      go_wp2
      go_ret
      exact ⟨rfl, rfl⟩
  · rw [decide_eq_false (fun h => h1 h.1)]
    have h3 : decide (lo ≤ n) = false := by simpa using h1
    clear h1
    go_enter Try.func45, Try.ntmps45
    go_wp2
    go_ret
    exact ⟨rfl, rfl⟩

set_option maxRecDepth 20000 in
theorem l2List (lo hi : Nat) (A : Option Addr) (n c : Nat) (xs : List Int) (w : World) (hx : Ints lo hi w A n c xs) :
    Calls Try.prog 46 #[.slice A n c] w fun e w' => e = .returned (.bool (okL xs)) ∧ w = w' := by
  have hc1 := hx.2.2.1
  have hc2 := hx.2.1
  have HL := Lib.hid hx.1
  unfold maxLen at hc1
  have HX := Lib.hid hx
  clear hx
  go_enter Try.func46, Try.ntmps46
  go_wp2
  go_loop [3] (fun i => ∃ k : Nat, k ≤ n ∧ i = .int .i64 k ∧ okTo xs k) (fun i => n - (intOf i).toNat)
  case atStart => exact ⟨0, Nat.zero_le _, rfl, okTo_zero _⟩
  case round =>
    obtain ⟨k, hk, rfl, hT⟩ := hrel
    have HT := Lib.hid hT
    clear hT
    by_cases hlt : k < n
    · obtain ⟨b, off, rfl, _, _, hcx⟩ := HX.out.at_ hlt
      generalize hxe : xs.getD k 0 = x at hcx
      have HXE := Lib.hid hxe
      clear hxe
      cases hin : inN x
      · have hno := inN_no.1 hin
        have hfin : okL xs = false := okL_bad (k := k) (by rw [HL.out]; exact hlt) (by rw [HXE.out]; exact hin)
        have HF := Lib.hid hfin
        have hd : decide (0 ≤ x ∧ x ≤ 990) = false := decide_eq_false hno
        clear hfin hin hno
        go_wp2_with fail
        ((with_reducible refine (l6In x 0 990 w).mono ?_); rintro e w' ⟨rfl, rfl⟩)
        rw [hd]
        clear hd
        go_wp2
        go_ret
        rw [HF.out]
        exact ⟨rfl, rfl⟩
      · have hyes := inN_iff.1 hin
        have HN := Lib.hid (okTo_succ HT.out (by rw [HXE.out]; exact hin))
        have hd : decide (0 ≤ x ∧ x ≤ 990) = true := decide_eq_true hyes
        clear hin hyes
        go_wp2_with fail
        ((with_reducible refine (l6In x 0 990 w).mono ?_); rintro e w' ⟨rfl, rfl⟩)
        rw [hd]
        clear hd
        go_wp2
        go_round
        case rel => exact ⟨k + 1, by omega, by go_num, HN.out⟩
        case measure => simp [intOf]; omega
    · have hkn : k = n := by omega
      have hfin : okL xs = decide (n ≤ 24) := by
        rw [← HL.out]
        exact okL_of_to (by rw [HL.out, ← hkn]; exact HT.out)
      have HF := Lib.hid hfin
      clear hfin hkn
      by_cases h24 : n ≤ 24
      · have hd2 : decide ((n : Int) ≤ 24) = true := by simp; omega
        go_wp2
        go_ret
        rw [HF.out, decide_eq_true h24]
        exact ⟨rfl, rfl⟩
      · have hd : decide (n ≤ 24) = false := decide_eq_false h24
        have hd2 : decide ((n : Int) ≤ 24) = false := by simp; omega
        clear h24
        go_wp2
        go_ret
        rw [HF.out, hd]
        exact ⟨rfl, rfl⟩

set_option maxRecDepth 20000 in
theorem l2At (key : Int) (i : Nat) (w : World) (h1 : 1 ≤ key) (h2 : key ≤ 996) (hi : i ≤ 1000) :
    Calls Try.prog 59 #[.int .i64 key, .int .i64 i] w fun e w' => e = .returned (.int .i64 (at2 key i)) ∧ w = w' := by
  have a1 : 0 ≤ key * ((i : Int) + 2) := Int.mul_nonneg (by omega) (by omega)
  have a2 : key * ((i : Int) + 2) ≤ 996 * 1002 := Int.mul_le_mul h2 (by omega) (by omega) (by omega)
  have b1 : 0 ≤ 11 * (i : Int) * (i : Int) := Int.mul_nonneg (by omega) (by omega)
  have b2 : 11 * (i : Int) * (i : Int) ≤ 11000 * 1000 := Int.mul_le_mul (by omega) (by omega) (by omega) (by omega)
  unfold at2
  go_enter Try.func59, Try.ntmps59
  go_wp2
  go_ret
  exact ⟨rfl, rfl⟩


set_option maxRecDepth 20000 in
theorem l2On0 (lo hi : Nat) (A : Option Addr) (n c : Nat) (xs : List Int) (key : Int) (w : World) (hx : Ints lo hi w A n c xs) (hok : okL xs = true) (h1 : 1 ≤ key) (h2 : key ≤ 996) :
    Calls Try.prog 57 #[.slice A n c, .int .i64 key] w (AccPost (onL xs key) w) := by
  have HA := Lib.hid (acc_new w)
  have HL := Lib.hid hx.1
  have HX := Lib.hid hx
  have HK := Lib.hid hok
  have hn : n ≤ 24 := by rw [← hx.1]; exact (okL_iff.1 hok).2
  clear hx hok
  go_enter Try.func57, Try.ntmps57
  go_wp2
  go_loopw [5, 6] (fun v i wr => ∃ k : Nat, k ≤ n ∧ i = .int .i64 k ∧ Hid (Acc w wr v (onL (xs.take k) key))) (fun _ i _ => n - (intOf i).toNat)
  case atStart => exact ⟨0, Nat.zero_le _, rfl, HA.out⟩
  case round =>
    obtain ⟨k, hk, rfl, hT⟩ := hrel
    by_cases hlt : k < n
    · obtain ⟨b, off, rfl, _, _, hcx⟩ := HX.out.at_ hlt
      have hb3 : b < w.heap.size := World.block_lt_of_cell? w _ hcx
      have hcy := ((Il.Acc.below hT.out).cell (p := ⟨b, off + k, none⟩) hb3).trans hcx
      have hbd := okL_at HK.out (k := k) (by rw [HL.out]; exact hlt)
      have hab := at2_bd key k
      have HN := Lib.hid (onL_succ (xs := xs) (k := k) key (by rw [HL.out]; exact hlt))
      generalize xs.getD k 0 = x at hcy hbd HN
      clear hcx
      have ev : (IntKind.i64.wrap (x + at2 key k)).tmod 991 = (x + at2 key k) % 991 := by rw [IntWalk.i64_in _ (by omega), IntWalk.rem_in _ _ (by omega)]
      have EV := Lib.hid ev
      clear ev
      go_wp2_with fail
      go_region_law (first | (refine step_app1 w _ _ _ _ (hT.out.drew) (by rw [onL_len]; simp; omega) _ _ rfl rfl rfl rfl ?_; intro v' w1 hN _) | (go_simp; go_at_call 59; refine (l2At key k _ h1 h2 (by omega)).mono ?_; rintro e w' ⟨rfl, rfl⟩))
      all_goals
        rw [EV.out, ← HN.out] at hN
        have HM := Lib.hid hN
        clear hN hT HN
        go_wp2
        go_roundw
        case rel => exact ⟨k + 1, by omega, by go_num, HM.out⟩
        case measure => simp [intOf]; omega
    · have hkn : k = n := by omega
      subst hkn
      have hT1 := hT.out
      rw [List.take_of_length_le (by rw [HL.out]; exact Nat.le_refl _)] at hT1
      have HT := Lib.hid hT1
      clear hT hT1
      go_wp2
      go_ret
      exact ⟨_, rfl, HT.out⟩

set_option maxRecDepth 20000 in
theorem l2On (lo hi : Nat) (A : Option Addr) (n c : Nat) (xs : List Int) (key : Int) (w : World) (hx : Ints lo hi w A n c xs) (hok : okL xs = true) (h1 : 1 ≤ key) (h2 : key ≤ 996) :
    Calls Try.prog 57 #[.slice A n c, .int .i64 key] w (NewInts w (onL xs key)) := (l2On0 lo hi A n c xs key w hx hok h1 h2).mono fun _ _ h => h.new_

set_option maxRecDepth 20000 in
theorem l2Off0 (lo hi : Nat) (A : Option Addr) (n c : Nat) (xs : List Int) (key : Int) (w : World) (hx : Ints lo hi w A n c xs) (hok : okL xs = true) (h1 : 1 ≤ key) (h2 : key ≤ 996) :
    Calls Try.prog 49 #[.slice A n c, .int .i64 key] w (AccPost (offL xs key) w) := by
  have HA := Lib.hid (acc_new w)
  have HL := Lib.hid hx.1
  have HX := Lib.hid hx
  have HK := Lib.hid hok
  have hn : n ≤ 24 := by rw [← hx.1]; exact (okL_iff.1 hok).2
  clear hx hok
  go_enter Try.func49, Try.ntmps49
  go_wp2
  go_loopw [5, 6] (fun v i wr => ∃ k : Nat, k ≤ n ∧ i = .int .i64 k ∧ Hid (Acc w wr v (offL (xs.take k) key))) (fun _ i _ => n - (intOf i).toNat)
  case atStart => exact ⟨0, Nat.zero_le _, rfl, HA.out⟩
  case round =>
    obtain ⟨k, hk, rfl, hT⟩ := hrel
    by_cases hlt : k < n
    · obtain ⟨b, off, rfl, _, _, hcx⟩ := HX.out.at_ hlt
      have hb3 : b < w.heap.size := World.block_lt_of_cell? w _ hcx
      have hcy := ((Il.Acc.below hT.out).cell (p := ⟨b, off + k, none⟩) hb3).trans hcx
      have hbd := okL_at HK.out (k := k) (by rw [HL.out]; exact hlt)
      have hab := at2_bd key k
      have HN := Lib.hid (offL_succ (xs := xs) (k := k) key (by rw [HL.out]; exact hlt))
      generalize xs.getD k 0 = x at hcy hbd HN
      clear hcx
      have ev : (IntKind.i64.wrap (IntKind.i64.wrap (x + 991) - at2 key k)).tmod 991 = (x + 991 - at2 key k) % 991 := by rw [IntWalk.i64_in (x + 991) (by omega), IntWalk.i64_in _ (by omega), IntWalk.rem_in _ _ (by omega)]
      have EV := Lib.hid ev
      clear ev
      go_wp2_with fail
      go_region_law (first | (refine step_app1 w _ _ _ _ (hT.out.drew) (by rw [offL_len]; simp; omega) _ _ rfl rfl rfl rfl ?_; intro v' w1 hN _) | (go_simp; go_at_call 59; refine (l2At key k _ h1 h2 (by omega)).mono ?_; rintro e w' ⟨rfl, rfl⟩))
      all_goals
        rw [EV.out, ← HN.out] at hN
        have HM := Lib.hid hN
        clear hN hT HN
        go_wp2
        go_roundw
        case rel => exact ⟨k + 1, by omega, by go_num, HM.out⟩
        case measure => simp [intOf]; omega
    · have hkn : k = n := by omega
      subst hkn
      have hT1 := hT.out
      rw [List.take_of_length_le (by rw [HL.out]; exact Nat.le_refl _)] at hT1
      have HT := Lib.hid hT1
      clear hT hT1
      go_wp2
      go_ret
      exact ⟨_, rfl, HT.out⟩

set_option maxRecDepth 20000 in
theorem l2Off (lo hi : Nat) (A : Option Addr) (n c : Nat) (xs : List Int) (key : Int) (w : World) (hx : Ints lo hi w A n c xs) (hok : okL xs = true) (h1 : 1 ≤ key) (h2 : key ≤ 996) :
    Calls Try.prog 49 #[.slice A n c, .int .i64 key] w (NewInts w (offL xs key)) := (l2Off0 lo hi A n c xs key w hx hok h1 h2).mono fun _ _ h => h.new_




end Sp2
end Go.Proofs.Ytdngdmhepjjeeaa

/-
  Contracts of the model's chapter 3: tags.
-/
namespace Go.Proofs.Ytdngdmhepjjeeaa
open Go.RowKit
namespace Sp3
open Il Gm Mm Tm Sp2

set_option maxRecDepth 20000 in
theorem l3Tag (lo hi : Nat) (A : Option Addr) (n c : Nat) (xs : List Int) (key : Int) (w : World) (hx : Ints lo hi w A n c xs) (hok : okL xs = true) (h1 : 1 ≤ key) (h2 : key ≤ 996) :
    Calls Try.prog 48 #[.int .i64 key, .slice A n c] w fun e w' => e = .returned (.int .i64 (tagL key xs)) ∧ w = w' := by
  have HL := Lib.hid hx.1
  have HX := Lib.hid hx
  have HK := Lib.hid hok
  have hn : n ≤ 24 := by rw [← hx.1]; exact (okL_iff.1 hok).2
  have hi0 : (3 * key + 41 * (n : Int) + 1) % 991 = tagTo key xs 0 := by rw [tagTo_zero, hx.1]; rfl
  have HI := Lib.hid hi0
  clear hx hok hi0
  go_enter Try.func48, Try.ntmps48
  go_wp2
  rw [HI.out]
  go_loop [5, 6] (fun t i => ∃ k : Nat, k ≤ n ∧ i = .int .i64 k ∧ t = .int .i64 (tagTo key xs k)) (fun _ i => n - (intOf i).toNat)
  case atStart => exact ⟨0, Nat.zero_le _, rfl, rfl⟩
  case round =>
    obtain ⟨k, hk, rfl, rfl⟩ := hrel
    have hb := tagTo_bd key xs k
    by_cases hlt : k < n
    · obtain ⟨b, off, rfl, _, _, hcx⟩ := HX.out.at_ hlt
      have hbd := okL_at HK.out (k := k) (by rw [HL.out]; exact hlt)
      have HN := Lib.hid (tagTo_succ key (xs := xs) (k := k) (by rw [HL.out]; exact hlt))
      generalize xs.getD k 0 = x at hcx hbd HN
      generalize tagTo key xs k = t at hb HN ⊢
      go_wp2
      go_round
      case rel => exact ⟨k + 1, by omega, by go_num, by rw [HN.out]⟩
      case measure => simp [intOf]; omega
    · have hfin : tagTo key xs k = tagL key xs := tagTo_all key (by rw [HL.out]; omega)
      rw [hfin]
      clear hfin hb
      go_wp2
      go_ret
      exact ⟨rfl, rfl⟩





end Sp3
end Go.Proofs.Ytdngdmhepjjeeaa

/-
  Contracts of the model's chapter 4: the body of a letter, the letter of a body.
-/
namespace Go.Proofs.Ytdngdmhepjjeeaa
open Go.RowKit
namespace Sp4
open Il Gm Mm Tm Lm Sp2 Sp3

def lenOf : Value → Nat | .slice _ n _ => n | _ => 0

/-- A gathered slice and a bool are returned. -/
def AccPair (xs : List Int) (b : Bool) (w : World) (e : Ending) (w' : World) : Prop := ∃ v, e = .returned (.tuple #[v, .bool b]) ∧ Il.Acc w w' v xs
theorem AccPair.pair {xs : List Int} {b : Bool} {w : World} {e : Ending} {w' : World} (h : AccPair xs b w e w') : PairB xs b w e w' := by
  obtain ⟨v, rfl, ha⟩ := h
  obtain ⟨A, c, rfl, ho⟩ := own_of ha.1
  exact ⟨A, c, rfl, ho, Il.Acc.below ha⟩

/-- What has been gathered of a body: the length, the letter, k zeros. -/
def bodyTo (xs : List Int) (k : Nat) : List Int := ((xs.length : Int) :: xs) ++ List.replicate k 0
theorem bodyTo_len (xs : List Int) (k : Nat) : (bodyTo xs k).length = xs.length + 1 + k := by simp [bodyTo]; omega
theorem bodyTo_succ (xs : List Int) (k : Nat) : bodyTo xs k ++ [0] = bodyTo xs (k + 1) := by
  unfold bodyTo; rw [List.append_assoc, List.replicate_succ']
theorem bodyTo_head {xs : List Int} {k : Nat} (h : k = 4 - xs.length) : bodyTo xs k = headL xs := by subst h; rfl

set_option maxRecDepth 20000 in
theorem letterPack0 (lo hi : Nat) (A : Option Addr) (n c : Nat) (xs : List Int) (w : World) (hx : Ints lo hi w A n c xs) :
    Calls Try.prog 53 #[.slice A n c] w (AccPair (packF xs) (packOk xs) w) := by
  have HX := Lib.hid hx
  have HL := Lib.hid hx.1
  have HE := Lib.hid (acc_new w)
  cases hok : okL xs
  · have hp : packOk xs = false := by simp [packOk, hok]
    rw [packF_no hp, hp]
    clear hx hp
    go_enter Try.func53, Try.ntmps53
    go_wp2_with fail
    ((with_reducible refine (l2List _ _ _ _ _ _ w HX.out).mono ?_); rintro e w' ⟨rfl, rfl⟩)
    rw [hok]
    clear hok
    go_wp2
    go_ret2
    exact ⟨_, rfl, HE.out⟩
  · by_cases h4 : 4 < n
    · have hp : packOk xs = false := by
        cases h : packOk xs
        · rfl
        · have := (packOk_iff.1 h).2; rw [hx.1] at this; omega
      rw [packF_no hp, hp]
      clear hx hp
      go_enter Try.func53, Try.ntmps53
      go_wp2_with fail
      ((with_reducible refine (l2List _ _ _ _ _ _ w HX.out).mono ?_); rintro e w' ⟨rfl, rfl⟩)
      rw [hok]
      clear hok
      go_wp2
      go_ret2
      exact ⟨_, rfl, HE.out⟩
    · have hp : packOk xs = true := packOk_iff.2 ⟨hok, by rw [hx.1]; omega⟩
      have hn4 : n ≤ 4 := by omega
      have HP := Lib.hid hp
      rw [packF_yes hp, hp]
      have HA := Lib.hid (acc_one w (n : Int))
      have IX := Lib.hid (hx.below (B := w.heap.size) (w' := w.alloc (.cells #[.int .i64 (n : Int)] 3)) ((Below.refl _ _).alloc (Nat.le_refl _) _) (Nat.le_refl _))
      clear hx hp HE h4
      go_enter Try.func53, Try.ntmps53
      go_wp2_with fail
      ((with_reducible refine (l2List _ _ _ _ _ _ w HX.out).mono ?_); rintro e w' ⟨rfl, rfl⟩)
      rw [hok]
      clear hok
      go_wp2_with (at_builtin; refine wpList_appAny _ _ _ _ HA.out _ _ _ _ _ _ IX.out (by simp; omega) _ _ rfl rfl rfl rfl ?_; intro v1 w1 hAcc _; obtain ⟨A1, c1, rfl, _⟩ := own_of hAcc.1)
      have e1 : [(n : Int)] ++ xs = bodyTo xs 0 := by simp [bodyTo, HL.out]
      rw [e1] at hAcc
      obtain ⟨m0, hm0⟩ : ∃ m0, xs.length + 1 = m0 := ⟨_, rfl⟩
      have hm2 : (bodyTo xs 0).length = m0 := by rw [bodyTo_len, ← hm0]
      rw [hm2] at hAcc
      rw [hm0]
      have hm3 : n + 1 + 0 ≤ m0 ∧ m0 ≤ n + 1 + 0 := by rw [← hm0, HL.out]; omega
      have HT := Lib.hid hAcc
      clear hAcc e1 hm0 hm2 IX HA
      go_loopw [4] (fun v wr => ∃ (A1 : Option Addr) (c1 k m : Nat), k ≤ 4 - n ∧ v = .slice A1 m c1 ∧ (n + 1 + k ≤ m ∧ m ≤ n + 1 + k) ∧ Hid (Il.Acc w wr (.slice A1 m c1) (bodyTo xs k))) (fun v _ => 5 - lenOf v)
      case atStart => exact ⟨A1, c1, 0, m0, Nat.zero_le _, rfl, hm3, HT.out⟩
      case round =>
        obtain ⟨A2, c2, k, m, hk, rfl, hm, hT⟩ := hrel
        clear HT
        by_cases hlt : k < 4 - n
        · go_wp2_with (at_builtin; refine wpList_app1 _ _ _ _ _ hT.out (by rw [bodyTo_len, HL.out]; omega) _ _ rfl rfl rfl rfl ?_; intro v2 w2 hN _; rw [bodyTo_succ] at hN; obtain ⟨A3, c3, rfl, _⟩ := own_of hN.1)
          have e2 : n + 1 + (k + 1) ≤ (bodyTo xs (k + 1)).length ∧ (bodyTo xs (k + 1)).length ≤ n + 1 + (k + 1) := by rw [bodyTo_len, HL.out]; omega
          generalize (bodyTo xs (k + 1)).length = m2 at hN e2 ⊢
          have HN := Lib.hid hN
          clear hN hT
          go_roundw
          case rel => exact ⟨A3, c3, k + 1, m2, by omega, rfl, e2, HN.out⟩
          case measure => simp [lenOf]; omega
        · have hb := bodyTo_head (xs := xs) (k := k) (by rw [HL.out]; omega)
          have hT1 := hT.out
          rw [hb] at hT1
          have hlen := headL_len (packOk_iff.1 HP.out).2
          have e2 : m = (headL xs).length := by rw [hlen]; have := bodyTo_len xs k; rw [hb, hlen, HL.out] at this; omega
          obtain ⟨A3, c3, e3, ho⟩ := own_of hT1.1
          simp only [Value.slice.injEq] at e3
          obtain ⟨rfl, _, rfl⟩ := e3
          have hge : 5 ≤ (headL xs).length := by omega
          have hle : (headL xs).length ≤ 5 := by omega
          rw [e2] at hT1 ⊢
          have HT1 := Lib.hid hT1
          have HO := Lib.hid ho
          clear hT hT1 ho hb hlen e2
          go_wp2_with fail
          ((with_reducible refine (l3Tag _ _ _ _ _ (headL xs) 1 _ HO.out.ints (headL_ok HP.out) (by omega) (by omega)).mono ?_); rintro e w' ⟨rfl, rfl⟩)
          go_wp2_with (at_builtin; refine wpList_app1 _ _ _ _ _ HT1.out (by omega) _ _ rfl rfl rfl rfl ?_; intro v3 w3 hN _)
          have HN := Lib.hid hN
          clear hN HT1 HO
          go_wp2
          go_ret2
          exact ⟨_, rfl, HN.out⟩

set_option maxRecDepth 20000 in
theorem LetterPack (lo hi : Nat) (A : Option Addr) (n c : Nat) (xs : List Int) (w : World) (hx : Ints lo hi w A n c xs) :
    Calls Try.prog 53 #[.slice A n c] w (PairB (packF xs) (packOk xs) w) :=
  (letterPack0 lo hi A n c xs w hx).mono fun _ _ h => h.pair



end Sp4
end Go.Proofs.Ytdngdmhepjjeeaa
