/-
  Contracts of the model's chapter 5: keys of a path, valid packets.
-/
import Derived.Test.YtnjcpbkpcmemeacSp4
import Derived.Test.YtnjcpbkpcmemeacPm
import Derived.Deep.RegionLaw
namespace Go.Proofs.Ytnjcpbkpcmemeac
open Go.RowKit
namespace Sp5
open Il Gm Mm Tm Lm Pm Sp2 Sp3 Sp4

/-- For a loop that looks at each number: each of the first k is good. -/
def allTo (P : Int → Bool) (xs : List Int) (k : Nat) : Prop := ∀ j, j < k → P (xs.getD j 0) = true
theorem allTo_zero (P : Int → Bool) (xs : List Int) : allTo P xs 0 := fun j h => absurd h (by omega)
theorem allTo_succ {P : Int → Bool} {xs : List Int} {k : Nat} (h : allTo P xs k) (hk : P (xs.getD k 0) = true) : allTo P xs (k + 1) := fun j hj => by
  by_cases e : j = k
  · subst e; exact hk
  · exact h j (by omega)
theorem all_of_to {P : Int → Bool} {xs : List Int} (h : allTo P xs xs.length) : xs.all P = true := by
  rw [List.all_eq_true]
  intro x hx
  obtain ⟨j, hj, e⟩ := List.getElem_of_mem hx
  have := h j hj
  rwa [List.getD_eq_getElem?_getD, List.getElem?_eq_getElem hj, Option.getD_some, e] at this
theorem all_bad {P : Int → Bool} {xs : List Int} {k : Nat} (hk : k < xs.length) (h : P (xs.getD k 0) = false) : xs.all P = false := by
  rw [List.all_eq_false]
  exact ⟨_, getD_mem hk, by rw [h]; decide⟩

theorem pubs_in {ps : List Int} (h : pubsOk ps = true) : ∀ p ∈ ps, inG p = true := by
  unfold pubsOk at h; simp at h; exact h.1
theorem pubs_len {ps : List Int} (h : pubsOk ps = true) : ps.length ≤ 3 := by
  unfold pubsOk at h; simp at h; exact h.2.2
def namesOk (xs : List Int) : Bool := xs.all inName

set_option maxRecDepth 20000 in
theorem l5Publics (lo hi : Nat) (A : Option Addr) (n c : Nat) (xs : List Int) (w : World) (hx : Ints lo hi w A n c xs) :
    Calls Try.prog 104 #[.slice A n c] w fun e w' => e = .returned (.bool (pubsOk xs)) ∧ w = w' := by
  have hc1 := hx.2.2.1
  have hc2 := hx.2.1
  have HL := Lib.hid hx.1
  unfold maxLen at hc1
  have HX := Lib.hid hx
  clear hx
  go_enter Try.func104, Try.ntmps104
  go_wp2
  go_loop [3] (fun i => ∃ k : Nat, k ≤ n ∧ i = .int .i64 k ∧ allTo inG xs k) (fun i => n - (intOf i).toNat)
  case atStart => exact ⟨0, Nat.zero_le _, rfl, allTo_zero _ _⟩
  case round =>
    obtain ⟨k, hk, rfl, hT⟩ := hrel
    have HT := Lib.hid hT
    clear hT
    by_cases hlt : k < n
    · obtain ⟨b, off, rfl, _, _, hcx⟩ := HX.out.at_ hlt
      generalize hxe : xs.getD k 0 = x at hcx
      have HXE := Lib.hid hxe
      clear hxe
      cases hin : inG x
      · have hfin : pubsOk xs = false := by
          have := all_bad (P := inG) (k := k) (by rw [HL.out]; exact hlt) (by rw [HXE.out]; exact hin)
          simp [pubsOk, this]
        have HF := Lib.hid hfin
        clear hfin
        go_wp2_with fail
        ((with_reducible refine (l1Is x w).mono ?_); rintro e w' ⟨rfl, rfl⟩)
        rw [hin]
        clear hin
        go_wp2
        go_ret
        rw [HF.out]
        exact ⟨rfl, rfl⟩
      · have HN := Lib.hid (allTo_succ HT.out (by rw [HXE.out]; exact hin))
        go_wp2_with fail
        ((with_reducible refine (l1Is x w).mono ?_); rintro e w' ⟨rfl, rfl⟩)
        rw [hin]
        clear hin
        go_wp2
        go_round
        case rel => exact ⟨k + 1, by omega, by go_num, HN.out⟩
        case measure => simp [intOf]; omega
    · have hkn : k = n := by omega
      have hall : xs.all inG = true := all_of_to (by rw [HL.out, ← hkn]; exact HT.out)
      have hfin : pubsOk xs = decide (1 ≤ (n : Int) ∧ (n : Int) ≤ 3) := by
        unfold pubsOk; rw [hall, Bool.true_and, HL.out]
        exact decide_eq_decide.2 (by omega)
      have HF := Lib.hid hfin
      clear hfin hkn hall
      go_wp2_with fail
      ((with_reducible refine (l6In _ _ _ w).mono ?_); rintro e w' ⟨rfl, rfl⟩)
      rw [← HF.out]
      go_wp2
      go_ret
      exact ⟨rfl, rfl⟩

set_option maxRecDepth 20000 in
theorem l5Names (lo hi : Nat) (A : Option Addr) (n c : Nat) (xs : List Int) (w : World) (hx : Ints lo hi w A n c xs) :
    Calls Try.prog 105 #[.slice A n c] w fun e w' => e = .returned (.bool (namesOk xs)) ∧ w = w' := by
  have hc1 := hx.2.2.1
  have hc2 := hx.2.1
  have HL := Lib.hid hx.1
  unfold maxLen at hc1
  have HX := Lib.hid hx
  clear hx
  go_enter Try.func105, Try.ntmps105
  go_wp2
  go_loop [3] (fun i => ∃ k : Nat, k ≤ n ∧ i = .int .i64 k ∧ allTo inName xs k) (fun i => n - (intOf i).toNat)
  case atStart => exact ⟨0, Nat.zero_le _, rfl, allTo_zero _ _⟩
  case round =>
    obtain ⟨k, hk, rfl, hT⟩ := hrel
    have HT := Lib.hid hT
    clear hT
    by_cases hlt : k < n
    · obtain ⟨b, off, rfl, _, _, hcx⟩ := HX.out.at_ hlt
      generalize hxe : xs.getD k 0 = x at hcx
      have HXE := Lib.hid hxe
      clear hxe
      cases hin : inName x
      · have hfin : namesOk xs = false := by
          have := all_bad (P := inName) (k := k) (by rw [HL.out]; exact hlt) (by rw [HXE.out]; exact hin)
          simp [namesOk, this]
        have HF := Lib.hid hfin
        clear hfin
        go_wp2_with fail
        ((with_reducible refine (l6In x 0 7 w).mono ?_); rintro e w' ⟨rfl, rfl⟩)
        rw [show decide (0 ≤ x ∧ x ≤ 7) = _ from hin]
        clear hin
        go_wp2
        go_ret
        rw [HF.out]
        exact ⟨rfl, rfl⟩
      · have HN := Lib.hid (allTo_succ HT.out (by rw [HXE.out]; exact hin))
        go_wp2_with fail
        ((with_reducible refine (l6In x 0 7 w).mono ?_); rintro e w' ⟨rfl, rfl⟩)
        rw [show decide (0 ≤ x ∧ x ≤ 7) = _ from hin]
        clear hin
        go_wp2
        go_round
        case rel => exact ⟨k + 1, by omega, by go_num, HN.out⟩
        case measure => simp [intOf]; omega
    · have hkn : k = n := by omega
      have hall : xs.all inName = true := all_of_to (by rw [HL.out, ← hkn]; exact HT.out)
      have HF : Hid (namesOk xs = true) := hall
      clear hkn hall
      go_wp2
      go_ret
      rw [HF.out]
      exact ⟨rfl, rfl⟩

set_option maxRecDepth 20000 in
theorem l1Times (a b : Int) (w : World) (ha : inG a = true) (hb : inG b = true) :
    Calls Try.prog 80 #[.int .i64 a, .int .i64 b] w fun e w' => e = .returned (.int .i64 (mulG a b)) ∧ w = w' := by
  rw [mulG_in ha hb]
  obtain ⟨a1, a2⟩ := inG_iff.1 ha
  obtain ⟨b1, b2⟩ := inG_iff.1 hb
  have hm : 0 ≤ a * b ∧ a * b ≤ 992016 := ⟨Int.mul_nonneg (by omega) (by omega), by have := Int.mul_le_mul a2 b2 (by omega) (by omega); omega⟩
  obtain ⟨hm1, hm2⟩ := hm
  clear ha hb
  go_enter Try.func80, Try.ntmps80
  go_wp2
  go_ret
  exact ⟨rfl, rfl⟩

set_option maxRecDepth 20000 in
theorem l1Factor (a : Int) (w : World) (ha : inG a = true) :
    Calls Try.prog 99 #[.int .i64 a] w fun e w' => e = .returned (.int .i64 (facG a)) ∧ w = w' := by
  rw [facG_in ha]
  obtain ⟨a1, a2⟩ := inG_iff.1 ha
  clear ha
  go_enter Try.func99, Try.ntmps99
  go_wp2
  go_ret
  exact ⟨rfl, rfl⟩

/-- The secret behind k mixes. -/
def secTo : Int → List Int → Nat → Int
  | x, _, 0 => x
  | x, [], _ + 1 => x
  | x, p :: ps, k + 1 => secTo (mulG x (facG (mulG x p))) ps k
theorem keysF_snoc (ps : List Int) (x p : Int) : keysF x (ps ++ [p]) = keysF x ps ++ [mulG (secTo x ps ps.length) p] ∧ secTo x (ps ++ [p]) (ps.length + 1) = mulG (secTo x ps ps.length) (facG (mulG (secTo x ps ps.length) p)) := by
  induction ps generalizing x with
  | nil => exact ⟨rfl, rfl⟩
  | cons q ps ih =>
    obtain ⟨h1, h2⟩ := ih (mulG x (facG (mulG x q)))
    exact ⟨by simp [keysF, secTo, h1], by simp [secTo, h2]⟩
def secAt (x : Int) (ps : List Int) (k : Nat) : Int := secTo x (ps.take k) (ps.take k).length
theorem keys_step {x : Int} {ps : List Int} {k : Nat} (h : k < ps.length) : keysF x (ps.take (k + 1)) = keysF x (ps.take k) ++ [mulG (secAt x ps k) (ps.getD k 0)] ∧ secAt x ps (k + 1) = mulG (secAt x ps k) (facG (mulG (secAt x ps k) (ps.getD k 0))) := by
  unfold secAt
  rw [take_succ_getD h]
  have := keysF_snoc (ps.take k) x (ps.getD k 0)
  exact ⟨this.1, by simpa using this.2⟩
theorem secAt_in {x : Int} {ps : List Int} (hx : inG x = true) (hp : ∀ p ∈ ps, inG p = true) (k : Nat) (hk : k ≤ ps.length) : inG (secAt x ps k) = true := by
  induction k with
  | zero => exact hx
  | succ k ih =>
    rw [(keys_step (x := x) (ps := ps) (k := k) (by omega)).2]
    have h1 := ih (by omega)
    exact mulG_pos h1 (facG_pos (mulG_pos h1 (hp _ (getD_mem (by omega)))))

set_option maxRecDepth 20000 in
theorem l5Keys (lo hi : Nat) (A : Option Addr) (n c : Nat) (ps : List Int) (x : Int) (w : World) (hx : Ints lo hi w A n c ps) (hg : inG x = true) (hp : ∀ p ∈ ps, inG p = true) (hn : n ≤ 3) :
    Calls Try.prog 106 #[.int .i64 x, .slice A n c] w fun e w' => ∃ v, e = .returned v ∧ Il.Acc w w' v (keysF x ps) := by
  have HA := Lib.hid (acc_new w)
  have HL := Lib.hid hx.1
  have HX := Lib.hid hx
  have HG := Lib.hid hg
  have HP := Lib.hid hp
  clear hx hg hp
  go_enter Try.func106, Try.ntmps106
  go_wp2
  go_loopw [5, 6, 7] (fun v s i wr => ∃ k : Nat, k ≤ n ∧ i = .int .i64 k ∧ s = .int .i64 (secAt x ps k) ∧ Hid (Il.Acc w wr v (keysF x (ps.take k)))) (fun _ _ i _ => n - (intOf i).toNat)
  case atStart => exact ⟨0, Nat.zero_le _, rfl, rfl, HA.out⟩
  case round =>
    obtain ⟨k, hk, rfl, rfl, hT⟩ := hrel
    by_cases hlt : k < n
    · obtain ⟨b, off, rfl, _, _, hcx⟩ := HX.out.at_ hlt
      have hb3 : b < w.heap.size := World.block_lt_of_cell? w _ hcx
      have hcy := ((Il.Acc.below hT.out).cell (p := ⟨b, off + k, none⟩) hb3).trans hcx
      have hkl : k < ps.length := by rw [HL.out]; exact hlt
      have HS1 := Lib.hid (keys_step (x := x) hkl).1
      have HS2 := Lib.hid (keys_step (x := x) hkl).2
      have HG1 := Lib.hid (secAt_in HG.out HP.out k (by omega))
      have HG2 := Lib.hid (HP.out _ (getD_mem hkl))
      have hkl2 : (keysF x (ps.take k)).length ≤ 3 := by rw [keysF_len, List.length_take]; omega
      generalize ps.getD k 0 = p at hcy HS1 HS2 HG2
      generalize secAt x ps k = s at HS1 HS2 HG1 ⊢
      clear hcx hkl
      go_wp2_with fail
      ((with_reducible refine (l1Times s p _ HG1.out HG2.out).mono ?_); rintro e w' ⟨rfl, rfl⟩)
      have HG3 := Lib.hid (mulG_pos HG1.out HG2.out)
      generalize mulG s p = q at HS1 HS2 HG3 ⊢
      go_wp2_with (at_builtin; refine wpList_app1 w _ _ _ _ hT.out (by omega) _ _ rfl rfl rfl rfl ?_; intro v' w1 hN _)
      rw [← HS1.out] at hN
      have HN := Lib.hid hN
      clear hN hT HS1 hcy
      ((with_reducible refine (l1Factor q _ HG3.out).mono ?_); rintro e w' ⟨rfl, rfl⟩)
      go_wp2_with fail
      ((with_reducible refine (l1Times s (facG q) _ HG1.out (facG_pos HG3.out)).mono ?_); rintro e w' ⟨rfl, rfl⟩)
      rw [← HS2.out]
      clear HS2
      go_wp2
      go_roundw
      case rel => exact ⟨k + 1, by omega, by go_num, rfl, HN.out⟩
      case measure => simp [intOf]; omega
    · have hT1 := hT.out
      rw [List.take_of_length_le (by rw [HL.out]; omega)] at hT1
      have HT1 := Lib.hid hT1
      clear hT hT1
      go_wp2
      go_ret
      exact ⟨_, rfl, HT1.out⟩

def pathOk (x : Int) (ps : List Int) : Bool := inG x && pubsOk ps
def pathF (x : Int) (ps : List Int) : List Int := bif pathOk x ps then keysF x ps else []


set_option maxRecDepth 20000 in
theorem PacketValid (lo hi lo2 hi2 : Nat) (A B : Option Addr) (n c m d : Nat) (el tag : Int) (hd bd : List Int) (w : World) (hh : Ints lo hi w A n c hd) (hb : Ints lo2 hi2 w B m d bd) :
    Calls Try.prog 55 #[.agg #[.int .i64 el, .slice A n c, .int .i64 tag, .slice B m d]] w (BoolB (pktOk ⟨el, hd, tag, bd⟩) w) := by
  have hbA : Below w.heap.size w (w.alloc (.cells #[.int .i64 el, .slice A n c, .int .i64 tag, .slice B m d] 37)) := (Below.refl _ _).alloc (Nat.le_refl _) _
  have HH := Lib.hid (hh.below hbA (Nat.le_refl _))
  have HB := Lib.hid (hb.below hbA (Nat.le_refl _))
  have L1 := Lib.hid hh.1
  have L2 := Lib.hid hb.1
  have BB := Lib.hid hbA
  clear hh hb hbA
  cases h1 : inG el
  · have hv : pktOk ⟨el, hd, tag, bd⟩ = false := by simp [pktOk, h1]
    rw [hv]
    clear hv
    go_enter Try.func55, Try.ntmps55
    go_wp2_with fail
    ((with_reducible refine (l1Is el _).mono ?_); rintro e w' ⟨rfl, rfl⟩)
    rw [h1]
    clear h1
    go_wp2
    go_ret
    exact ⟨rfl, BB.out⟩
  · skip
    cases h2 : okL hd
    · have hv : pktOk ⟨el, hd, tag, bd⟩ = false := by simp [pktOk, h1, h2]
      rw [hv]
      clear hv
      go_enter Try.func55, Try.ntmps55
      go_wp2_with fail
      ((with_reducible refine (l1Is el _).mono ?_); rintro e w' ⟨rfl, rfl⟩)
      rw [h1]
      clear h1
      go_wp2_with fail
      ((with_reducible refine (l2List _ _ _ _ _ hd _ HH.out).mono ?_); rintro e w' ⟨rfl, rfl⟩)
      rw [h2]
      clear h2
      go_wp2
      go_ret
      exact ⟨rfl, BB.out⟩
    · skip
      by_cases h3 : n = 9
      · have h3b : ((n : Int) == 9) = true := by simp; omega
        cases h4 : inN tag
        · have hv : pktOk ⟨el, hd, tag, bd⟩ = false := by simp [pktOk, h1, h2, L1.out, h3, h4]
          rw [hv]
          clear hv h3
          go_enter Try.func55, Try.ntmps55
          go_wp2_with fail
          ((with_reducible refine (l1Is el _).mono ?_); rintro e w' ⟨rfl, rfl⟩)
          rw [h1]
          clear h1
          go_wp2_with fail
          ((with_reducible refine (l2List _ _ _ _ _ hd _ HH.out).mono ?_); rintro e w' ⟨rfl, rfl⟩)
          rw [h2]
          clear h2
          go_wp2_with fail
          ((with_reducible refine (l6In tag 0 990 _).mono ?_); rintro e w' ⟨rfl, rfl⟩)
          rw [(show decide (0 ≤ tag ∧ tag ≤ 990) = _ from h4)]
          clear h4
          go_wp2
          go_ret
          exact ⟨rfl, BB.out⟩
        · skip
          cases h5 : okL bd
          · have hv : pktOk ⟨el, hd, tag, bd⟩ = false := by simp [pktOk, h1, h2, L1.out, h3, h4, h5]
            rw [hv]
            clear hv h3
            go_enter Try.func55, Try.ntmps55
            go_wp2_with fail
            ((with_reducible refine (l1Is el _).mono ?_); rintro e w' ⟨rfl, rfl⟩)
            rw [h1]
            clear h1
            go_wp2_with fail
            ((with_reducible refine (l2List _ _ _ _ _ hd _ HH.out).mono ?_); rintro e w' ⟨rfl, rfl⟩)
            rw [h2]
            clear h2
            go_wp2_with fail
            ((with_reducible refine (l6In tag 0 990 _).mono ?_); rintro e w' ⟨rfl, rfl⟩)
            rw [(show decide (0 ≤ tag ∧ tag ≤ 990) = _ from h4)]
            clear h4
            go_wp2_with fail
            ((with_reducible refine (l2List _ _ _ _ _ bd _ HB.out).mono ?_); rintro e w' ⟨rfl, rfl⟩)
            rw [h5]
            clear h5
            go_wp2
            go_ret
            exact ⟨rfl, BB.out⟩
          · skip
            by_cases h6 : m = 6
            · have h6b : ((m : Int) == 6) = true := by simp; omega
              have hv : pktOk ⟨el, hd, tag, bd⟩ = true := by simp [pktOk, h1, h2, L1.out, h3, h4, h5, L2.out, h6]
              rw [hv]
              clear hv h3 h6
              go_enter Try.func55, Try.ntmps55
              go_wp2_with fail
              ((with_reducible refine (l1Is el _).mono ?_); rintro e w' ⟨rfl, rfl⟩)
              rw [h1]
              clear h1
              go_wp2_with fail
              ((with_reducible refine (l2List _ _ _ _ _ hd _ HH.out).mono ?_); rintro e w' ⟨rfl, rfl⟩)
              rw [h2]
              clear h2
              go_wp2_with fail
              ((with_reducible refine (l6In tag 0 990 _).mono ?_); rintro e w' ⟨rfl, rfl⟩)
              rw [(show decide (0 ≤ tag ∧ tag ≤ 990) = _ from h4)]
              clear h4
              go_wp2_with fail
              ((with_reducible refine (l2List _ _ _ _ _ bd _ HB.out).mono ?_); rintro e w' ⟨rfl, rfl⟩)
              rw [h5]
              clear h5
              go_wp2
              go_ret
              exact ⟨rfl, BB.out⟩
            · have h6b : ((m : Int) == 6) = false := by simp; omega
              have hv : pktOk ⟨el, hd, tag, bd⟩ = false := by simp [pktOk, h1, h2, h4, h5, L2.out, h6]
              rw [hv]
              clear hv h3 h6
              go_enter Try.func55, Try.ntmps55
              go_wp2_with fail
              ((with_reducible refine (l1Is el _).mono ?_); rintro e w' ⟨rfl, rfl⟩)
              rw [h1]
              clear h1
              go_wp2_with fail
              ((with_reducible refine (l2List _ _ _ _ _ hd _ HH.out).mono ?_); rintro e w' ⟨rfl, rfl⟩)
              rw [h2]
              clear h2
              go_wp2_with fail
              ((with_reducible refine (l6In tag 0 990 _).mono ?_); rintro e w' ⟨rfl, rfl⟩)
              rw [(show decide (0 ≤ tag ∧ tag ≤ 990) = _ from h4)]
              clear h4
              go_wp2_with fail
              ((with_reducible refine (l2List _ _ _ _ _ bd _ HB.out).mono ?_); rintro e w' ⟨rfl, rfl⟩)
              rw [h5]
              clear h5
              go_wp2
              go_ret
              exact ⟨rfl, BB.out⟩
      · have h3b : ((n : Int) == 9) = false := by simp; omega
        have hv : pktOk ⟨el, hd, tag, bd⟩ = false := by simp [pktOk, h1, h2, L1.out, h3]
        rw [hv]
        clear hv h3
        go_enter Try.func55, Try.ntmps55
        go_wp2_with fail
        ((with_reducible refine (l1Is el _).mono ?_); rintro e w' ⟨rfl, rfl⟩)
        rw [h1]
        clear h1
        go_wp2_with fail
        ((with_reducible refine (l2List _ _ _ _ _ hd _ HH.out).mono ?_); rintro e w' ⟨rfl, rfl⟩)
        rw [h2]
        clear h2
        go_wp2
        go_ret
        exact ⟨rfl, BB.out⟩

set_option maxRecDepth 20000 in
theorem l2AtI (key z : Int) (i : Nat) (w : World) (hz : z = (i : Int)) (h1 : 1 ≤ key) (h2 : key ≤ 996) (hi : i ≤ 1000) :
    Calls Try.prog 109 #[.int .i64 key, .int .i64 z] w fun e w' => e = .returned (.int .i64 (at2 key i)) ∧ w = w' := by
  subst hz; exact l2At key i w h1 h2 hi

/-- What the outer loop of the filler holds. -/
def FillRel (w wr : World) (ks : List Int) (A1 : Option Addr) (c1 m k : Nat) : Prop :=
  Own w.heap.size wr.heap.size wr A1 m c1 (fillAt ks k) ∧ Below w.heap.size w wr
/-- .. the inner one: what next holds, and what has been gathered. -/
def FillIn (w wb wr : World) (key : Int) (F : List Int) (A2 : Option Addr) (c2 m2 : Nat) (v : Value) (q : Nat) : Prop :=
  Ints w.heap.size wb.heap.size wr A2 m2 c2 (F ++ [0, 0, 0]) ∧ Il.Acc wb wr v (fillTo F key q) ∧ Below w.heap.size w wr

set_option maxRecDepth 20000 in
theorem l5Filler (lo hi : Nat) (A : Option Addr) (n c : Nat) (ks : List Int) (w : World) (hx : Ints lo hi w A n c ks) (hg : ∀ k ∈ ks, inG k = true) (hn : n ≤ 3) (hn1 : 1 ≤ n) :
    Calls Try.prog 112 #[.slice A n c] w (NewInts w (fillF ks)) := by
  have HL := Lib.hid hx.1
  have HX := Lib.hid hx
  have HG := Lib.hid hg
  have HS : Hid (FillRel w (w.alloc (.cells #[] 3)) ks (some ⟨w.heap.size, 0, none⟩) 0 0 0) := ⟨Own.nil_ (Nat.zero_le _), (Below.refl _ _).alloc (Nat.le_refl _) _⟩
  clear hx hg
  go_enter Try.func112, Try.ntmps112
  go_wp2
  go_loopw [3, 4] (fun v i wr => ∃ (A1 : Option Addr) (c1 m k : Nat), k + 1 ≤ n ∧ i = .int .i64 k ∧ v = .slice A1 m c1 ∧ (3 * k ≤ m ∧ m ≤ 3 * k) ∧ Hid (FillRel w wr ks A1 c1 m k)) (fun _ i _ => n - (intOf i).toNat)
  case atStart => exact ⟨_, 0, 0, 0, hn1, rfl, rfl, by omega, HS.out⟩
  case round =>
    obtain ⟨A1, c1, m, k, hk, rfl, rfl, hm, hT⟩ := hrel
    clear HS
    by_cases hlt : k + 1 < n
    · obtain ⟨b, off, rfl, _, _, hcx⟩ := HX.out.at_ (k := k) (by omega)
      have hb3 : b < w.heap.size := World.block_lt_of_cell? w _ hcx
      have hkl : k < ks.length := by rw [HL.out]; omega
      have HK := Lib.hid (HG.out _ (getD_mem hkl))
      have HF := Lib.hid (fillAt_succ hkl)
      have HFL := Lib.hid (fillAt_len (keys := ks) (k := k) (by omega))
      have HFI := Lib.hid (fillAt_in ks k)
      have BR := Lib.hid hT.out.2
      have IR := Lib.hid (hT.out.1.ints.below (B := wr.heap.size) (w' := wr.alloc (.cells #[] 3)) ((Below.refl _ _).alloc (Nat.le_refl _) _) (Nat.le_refl _))
      have HA := Lib.hid (acc_new wr)
      generalize ks.getD k 0 = key at hcx HK HF
      generalize fillAt ks k = F at HF HFL HFI IR
      clear hkl hT
      go_wp2_with (first | (at_builtin; refine wpList_appL _ _ _ _ (hAcc.alloc _) _ _ _ _ _ _ (ints_three _ _ _ _) (by omega) (by simp; rw [HFL.out]; omega) (.tmp 18) (.tmp 19) rfl rfl rfl rfl ?_; intro vb wb hAcd _; rw [List.nil_append] at hAcd; obtain ⟨A2, c2, rfl, ho2⟩ := own_of hAcd.1) | (at_builtin; refine wpList_appAny _ _ _ _ HA.out _ _ _ _ _ _ IR.out (by simp; omega) (.tmp 16) (.tmp 17) rfl rfl rfl rfl ?_; intro va wa hAcc _))
      have hFl : F.length ≤ 6 := by rw [HFL.out]; omega
      obtain ⟨fr, hfr⟩ : ∃ fr : Nat, 12 - (F.length + 3) = fr := ⟨_, rfl⟩
      have hfr2 : wrap64 (12 - ((F.length : Int) + 3)) = (fr : Int) := by rw [IntWalk.wrap64_in _ (by omega)]; omega
      have hfr3 : fr ≤ 12 := by omega
      have HFR := Lib.hid hfr
      rw [hfr2]
      clear hfr hfr2
      have HIN : Hid (FillIn w wb (wb.alloc (.cells #[] 3)) key F A2 c2 (F.length + 3) (.slice (some ⟨wb.heap.size, 0, none⟩) 0 0) 0) := by
        have hbw := BR.out.trans ((Il.Acc.below hAcd).mono BR.out.size)
        have e3 : (F ++ [0, 0, 0]).length = F.length + 3 := by simp
        rw [e3] at ho2
        refine ⟨?_, acc_new wb, hbw.alloc hbw.size _⟩
        exact (ho2.ints.mono BR.out.size (Nat.le_refl _)).below (B := wb.heap.size) ((Below.refl _ _).alloc (Nat.le_refl _) _) (Nat.le_refl _)
      have hwb : w.heap.size ≤ wb.heap.size := (BR.out.trans ((Il.Acc.below hAcd).mono BR.out.size)).size
      clear ho2 hAcd hAcc IR HA BR
      obtain ⟨m2, hm2⟩ : ∃ m2, F.length + 3 = m2 := ⟨_, rfl⟩
      rw [hm2] at HIN ⊢
      have hm3 : F.length + 3 ≤ m2 ∧ m2 ≤ F.length + 3 := by omega
      clear hm2
      have hkk := inG_iff.1 HK.out
      go_loopw [3, 7] (fun v j w2 => ∃ q : Nat, q ≤ m2 ∧ j = .int .i64 q ∧ Hid (FillIn w wb w2 key F A2 c2 m2 v q)) (fun _ j _ => m2 - (intOf j).toNat)
      case atStart => exact ⟨0, Nat.zero_le _, rfl, HIN.out⟩
      case round =>
        obtain ⟨q, hq, rfl, hI⟩ := hrel
        clear HIN
        by_cases hlq : q < m2
        · obtain ⟨b2, off2, rfl, _, _, cq⟩ := hI.out.1.at_ hlq
          have ck := (hI.out.2.2.cell (p := ⟨b, off + k, none⟩) hb3).trans hcx
          have hxq := getD_in (xs := F ++ [0, 0, 0]) (by intro x hx; rcases List.mem_append.1 hx with h | h; exact HFI.out x h; simp at h; omega) q
          have HST := Lib.hid (fillTo_succ F key (q := q) (by omega))
          have hab := at2_bd key (fr + q)
          have HAc := Lib.hid hI.out.2.1
          have HIn := Lib.hid hI.out.1
          have HBw := Lib.hid hI.out.2.2
          have hfl2 : (fillTo F key q).length ≤ 24 := by unfold fillTo; rw [List.length_take]; omega
          have hsum : IntKind.i64.wrap ((fr : Int) + (q : Int)) = ((fr + q : Nat) : Int) := by rw [IntWalk.i64_in _ (by omega)]; rfl
          have HSUM := Lib.hid hsum
          rw [HFR.out] at HST
          generalize (F ++ [0, 0, 0]).getD q 0 = x at cq hxq HST
          have EV : Hid ((IntKind.i64.wrap (IntKind.i64.wrap (x + 991) - at2 key (fr + q))).tmod 991 = (x + 991 - at2 key (fr + q)) % 991) := by
            show (IntKind.i64.wrap (IntKind.i64.wrap (x + 991) - at2 key (fr + q))).tmod 991 = (x + 991 - at2 key (fr + q)) % 991
            rw [IntWalk.i64_in (x + 991) (by omega), IntWalk.i64_in _ (by omega), IntWalk.rem_in _ _ (by omega)]
          have hkn : k < n := by omega
          clear hI hsum
          go_wp2_with fail
          go_region_law (first | (refine step_app1 wb _ _ _ _ (HAc.out.drew) (by omega) _ _ rfl rfl rfl rfl ?_; intro v5 w5 hN5 hB5) | (go_simp; go_at_call 109; refine (l2AtI key _ (fr + q) _ HSUM.out hkk.1 hkk.2 (by omega)).mono ?_; rintro e w' ⟨rfl, rfl⟩))
          all_goals
            rw [EV.out, ← HST.out] at hN5
            have HM : Hid (FillIn w wb w5 key F (some ⟨b2, off2, none⟩) c2 m2 v5 (q + 1)) := ⟨HIn.out.below' (below_drew hB5) (Nat.le_refl _), hN5, HBw.out.trans ((below_drew hB5).mono hwb)⟩
            clear hN5 hB5 HAc HIn HBw HST EV HSUM
            go_wp2
            go_roundw
            case rel => exact ⟨q + 1, by omega, by go_num, HM.out⟩
            case measure => simp [intOf]; omega
        · have hI2 := hI.out.2.1
          rw [fillTo_all F key (by omega), ← HF.out] at hI2
          obtain ⟨A3, c3, rfl, ho3⟩ := own_of hI2.1
          have hl3 : (fillAt ks (k + 1)).length = 3 * (k + 1) := fillAt_len (by rw [HL.out]; omega)
          have HR : Hid (FillRel w _ ks A3 c3 (fillAt ks (k + 1)).length (k + 1)) := ⟨ho3.mono hwb (Nat.le_refl _), hI.out.2.2⟩
          have hl4 : 3 * (k + 1) ≤ (fillAt ks (k + 1)).length ∧ (fillAt ks (k + 1)).length ≤ 3 * (k + 1) := by omega
          clear hI hI2 ho3 hl3
          generalize (fillAt ks (k + 1)).length = m4 at HR hl4 ⊢
          go_wp2
          go_roundw
          case rel => exact ⟨A3, c3, m4, k + 1, by omega, by go_num, rfl, hl4, HR.out⟩
          case measure => simp [intOf]; omega
    · have hkn : k = n - 1 := by omega
      have hT1 := hT.out
      have hfin : fillAt ks k = fillF ks := fillAt_all (by rw [HL.out]; exact hkn)
      have hl2 : (fillF ks).length = m := by have := hT1.1.1.1; rw [hfin] at this; exact this
      have HP : Hid (NewInts w (fillF ks) (.returned (.slice A1 m c1)) wr) := by
        have h1 := hT1.1
        rw [hfin] at h1
        subst hl2
        exact ⟨A1, c1, rfl, h1, hT1.2⟩
      clear hT hT1 hfin hl2 hkn
      go_wp2
      go_ret
      exact HP.out

def kAt (ks : List Int) (s : Nat) : Int := ks.getD s 0
def hAt (r : Int) (f ks ns : List Int) (s : Nat) : List Int := hdr r f (ks.drop s) (ns.drop s)
def hdTag (r : Int) (f ks ns : List Int) : Int := tagL (ks.headD 0) (hdr r f ks ns)
def HdrPost (H : List Int) (t : Int) (w : World) (e : Ending) (w' : World) : Prop :=
  ∃ A c, e = .returned (.tuple #[.slice A H.length c, .int .i64 t]) ∧ Own w.heap.size w'.heap.size w' A H.length c H ∧ Below w.heap.size w w'
/-- What the second loop of l5Header holds: the header for mix s. -/
def HdrRel (w wr : World) (H : List Int) (C : Option Addr) (h9 e9 : Nat) : Prop := Own w.heap.size wr.heap.size wr C h9 e9 H ∧ Below w.heap.size w wr
def LastRel (w w1 wr : World) (f : List Int) (AF : Option Addr) (fl cf : Nat) (v : Value) (r : Int) (j : Nat) : Prop :=
  Il.Acc w1 wr v ([1, r, 0] ++ List.replicate j 0) ∧ Ints w.heap.size w1.heap.size wr AF fl cf f ∧ Below w.heap.size w wr

set_option maxRecDepth 20000 in
theorem l5Header (lo hi lo2 hi2 : Nat) (A B : Option Addr) (n c m d : Nat) (ks ns : List Int) (r : Int) (w : World) (hx : Ints lo hi w A n c ks) (hy : Ints lo2 hi2 w B m d ns)
    (hg : ∀ k ∈ ks, inG k = true) (hn : n ≤ 3) (hn1 : 1 ≤ n) (hmn : n ≤ m) (hnm : ∀ x ∈ ns, inName x = true) (hr : inName r = true) :
    Calls Try.prog 108 #[.slice A n c, .slice B m d, .int .i64 r] w (HdrPost (hdr r (fillF ks) ks ns) (hdTag r (fillF ks) ks ns) w) := by
  obtain ⟨s0, rfl⟩ : ∃ s0, n = s0 + 1 := ⟨n - 1, by omega⟩
  have HL := Lib.hid hx.1
  have HLN := Lib.hid hy.1
  have HX := Lib.hid hx
  have HY := Lib.hid hy
  have HG := Lib.hid hg
  have HNM := Lib.hid hnm
  have hr1 := inName_iff.1 hr
  have hF : (fillF ks).length = 3 * s0 := by rw [fillF_len, hx.1]; simp
  have HFI := Lib.hid (fillF_in ks)
  have hm9 := hy.2.1
  have hm8 := hy.2.2.1
  unfold maxLen at hm8
  have hs0 : s0 < ks.length := by rw [hx.1]; omega
  obtain ⟨b, off, rfl, _, _, hcx⟩ := hx.at_ (k := s0) (by omega)
  have hb3 : b < w.heap.size := World.block_lt_of_cell? w _ hcx
  have hkn : 1 ≤ kAt ks s0 ∧ kAt ks s0 ≤ 996 := inG_iff.1 (hg _ (getD_mem hs0))
  have HC0 : Hid (w.cell? ⟨b, off + s0, none⟩ = some (.int .i64 (kAt ks s0))) := hcx
  clear hx hy hg hnm hr hcx
  go_enter Try.func108, Try.ntmps108
  go_wp2_with fail
  ((with_reducible refine (l5Filler _ _ _ _ _ ks w HX.out HG.out hn hn1).mono ?_); rintro e w1 ⟨AF, cf, rfl, of, bf⟩)
  generalize fillF ks = f at *
  have hfl : f.length ≤ 6 := by omega
  have hw1 := bf.size
  have HLR : Hid (LastRel w w1 (w1.alloc (.cells #[.int .i64 1, .int .i64 r, .int .i64 0] 3)) f AF f.length cf (.slice (some ⟨w1.heap.size, 0, none⟩) 3 3) r 0) :=
    ⟨acc_three w1 1 r 0, of.ints.below (B := w1.heap.size) ((Below.refl _ _).alloc (Nat.le_refl _) _) (Nat.le_refl _), bf.alloc bf.size _⟩
  clear of bf hF
  generalize hfm : f.length = fl at *
  have HFM := Lib.hid hfm
  clear hfm
  go_wp2
  go_loopw [9] (fun v wr => ∃ (A1 : Option Addr) (c1 m1 j : Nat), j ≤ 6 - fl ∧ v = .slice A1 m1 c1 ∧ (3 + j ≤ m1 ∧ m1 ≤ 3 + j) ∧ Hid (LastRel w w1 wr f AF fl cf (.slice A1 m1 c1) r j)) (fun v _ => 9 - lenOf v)
  case atStart => exact ⟨_, 3, 3, 0, Nat.zero_le _, rfl, by omega, HLR.out⟩
  case round =>
    obtain ⟨A1, c1, m1, j, hj, rfl, hm1, hT⟩ := hrel
    clear HLR
    have HA := Lib.hid hT.out.1
    have HI := Lib.hid hT.out.2.1
    have HB := Lib.hid hT.out.2.2
    clear hT
    by_cases hlt : j < 6 - fl
    · go_wp2_with (at_builtin; refine wpList_app1 _ _ _ _ _ HA.out (by simp; omega) _ _ rfl rfl rfl rfl ?_; intro v2 w2 hN hB; rw [List.append_assoc, ← List.replicate_succ'] at hN; obtain ⟨A3, c3, rfl, _⟩ := own_of hN.1)
      have e3 : ([1, r, 0] ++ List.replicate (j + 1) 0).length = j + 1 + 1 + 1 + 1 := by simp
      rw [e3] at hN
      have HN : Hid (LastRel w w1 w2 f AF fl cf (.slice A3 (j + 1 + 1 + 1 + 1) c3) r (j + 1)) := ⟨hN, HI.out.below' hB (Nat.le_refl _), HB.out.trans (hB.mono hw1)⟩
      exact ⟨⟨A3, c3, _, j + 1, by omega, rfl, by omega, HN.out⟩, by simp [lenOf]; omega⟩
    · have hA := HA.out
      rw [lastL_to r (m := fl) (by omega)] at hA
      have hll := lastL_len r hfl
      obtain rfl : m1 = (lastL r fl).length := by omega
      obtain ⟨A3, c3, e3, ho⟩ := own_of hA.1
      simp only [Value.slice.injEq] at e3
      obtain ⟨rfl, _, rfl⟩ := e3
      have HO := Lib.hid ho
      have hl5 : 9 ≤ (lastL r fl).length + fl := by omega
      have hl6 : (lastL r fl).length ≤ 9 := by omega
      have HH : Hid (onL (lastL r fl) (kAt ks s0) ++ f = hdr r f (ks.drop s0) (ns.drop s0)) := by
        have h := hdr_lastmix r f ks (ns.drop s0) (s := s0) (by rw [HL.out])
        rw [HFM.out] at h
        exact h.symm
      have HOKH := Lib.hid (hdr_drop_ok r f ks (ns.drop s0) (by rw [HFM.out]; exact hfl) HFI.out hs0)
      have ck := (HB.out.cell (p := ⟨b, off + s0, none⟩) hb3).trans HC0.out
      clear hA ho hll HA hm1
      go_wp2_with fail
      ((with_reducible refine (l2On0 _ _ _ _ _ (lastL r fl) _ _ HO.out.ints (lastL_ok r (by omega)) hkn.1 hkn.2).mono ?_); rintro e w2 ⟨v2, rfl, ha2⟩)
      have HA2 := Lib.hid ha2
      have IF2 := Lib.hid (HI.out.below (Il.Acc.below ha2) (Nat.le_refl _))
      have hl7 : (onL (lastL r fl) (kAt ks s0)).length ≤ 9 := by rw [onL_len]; exact hl6
      clear ha2
      go_wp2_with (at_builtin; refine wpList_appAny _ _ _ _ HA2.out _ _ _ _ _ _ IF2.out (by omega) _ _ rfl rfl rfl rfl ?_; intro v3 w3 hN3 _; rw [HH.out] at hN3; obtain ⟨C, e9, rfl, ho3⟩ := own_of hN3.1; have ck3 := ((HB.out.trans ((Il.Acc.below hN3).mono HB.out.size)).cell (p := ⟨b, off + s0, none⟩) hb3).trans HC0.out)
      have HO3 := Lib.hid ho3
      have HB3 := Lib.hid (HB.out.trans ((Il.Acc.below hN3).mono HB.out.size))
      have hwr := HB.out.size
      clear ho3 hN3 HA2 IF2 HO HI HB
      ((with_reducible refine (l3Tag _ _ _ _ _ _ _ _ HO3.out.ints HOKH.out hkn.1 hkn.2).mono ?_); rintro e w' ⟨rfl, rfl⟩)
      have hhl := hdr_drop_len r f ks (ns.drop s0) (by rw [HFM.out]; exact hfl) hs0
      have HR0 : Hid (HdrRel w w3 (hdr r f (ks.drop s0) (ns.drop s0)) C (hdr r f (ks.drop s0) (ns.drop s0)).length e9) := ⟨HO3.out.mono hwr (Nat.le_refl _), HB3.out⟩
      have hh9 : 9 ≤ (hdr r f (ks.drop s0) (ns.drop s0)).length ∧ (hdr r f (ks.drop s0) (ns.drop s0)).length ≤ 9 := by omega
      generalize (hdr r f (ks.drop s0) (ns.drop s0)).length = h9 at HR0 hh9 ⊢
      clear HO3 HB3 HH HOKH hhl ck ck3
      have HR1 : Hid (HdrRel w w3 (hAt r f ks ns s0) C h9 e9) := HR0.out
      have HT0 : Hid (tagL (kAt ks s0) (hdr r f (ks.drop s0) (ns.drop s0)) = tagL (kAt ks s0) (hAt r f ks ns s0)) := rfl
      rw [HT0.out]
      have HFL6 : Hid (f.length ≤ 6) := by show f.length ≤ 6; rw [HFM.out]; exact hfl
      clear HR0 HT0
      go_wp2
      go_loopw [11, 12, 13] (fun v t i wr => ∃ (C : Option Addr) (e9 h9 s : Nat), s ≤ s0 ∧ i = .int .i64 ((s : Int) - 1) ∧ v = .slice C h9 e9 ∧ (9 ≤ h9 ∧ h9 ≤ 9) ∧ t = .int .i64 (tagL (kAt ks s) (hAt r f ks ns s)) ∧ Hid (HdrRel w wr (hAt r f ks ns s) C h9 e9)) (fun _ _ i _ => (intOf i + 1).toNat)
      case atStart => exact ⟨C, e9, h9, s0, Nat.le_refl _, rfl, rfl, hh9, rfl, HR1.out⟩
      case round =>
        obtain ⟨C2, e2, h2, s, hs, rfl, rfl, hh2, rfl, hT⟩ := hrel
        clear HR1
        cases s with
        | zero =>
          rw [show (((0 : Nat) : Int) - 1) = -1 from rfl]
          have HP : Hid (HdrPost (hdr r f ks ns) (hdTag r f ks ns) w (.returned (.tuple #[.slice C2 h2 e2, .int .i64 (tagL (kAt ks 0) (hAt r f ks ns 0))])) wr) := by
            have e1 : kAt ks 0 = ks.headD 0 := by cases ks <;> rfl
            have h1 := hT.out.1
            have hl := h1.1.1
            rw [e1]
            subst hl
            exact ⟨C2, e2, rfl, h1, hT.out.2⟩
          clear hT
          go_wp2
          go_ret2
          exact HP.out
        | succ s =>
          rw [show (((s + 1 : Nat) : Int) - 1) = (s : Int) from by omega]
          have hs1 : s + 1 < ks.length := by rw [HL.out]; omega
          obtain ⟨bk, fk, ek, _, _, ck⟩ := HX.out.at_ (k := s) (by omega)
          simp only [Option.some.injEq, Addr.mk.injEq, and_true] at ek
          obtain ⟨rfl, rfl⟩ := ek
          obtain ⟨bn, fn, rfl, _, _, cn⟩ := HY.out.at_ (k := s + 1) (by omega)
          have hbn : bn < w.heap.size := World.block_lt_of_cell? w _ cn
          have HCK : Hid (w.cell? ⟨b, off + s, none⟩ = some (.int .i64 (kAt ks s))) := ck
          have hkk : 1 ≤ kAt ks s ∧ kAt ks s ≤ 996 := inG_iff.1 (HG.out _ (getD_mem (by omega)))
          have hnn : 0 ≤ kAt ns (s + 1) ∧ kAt ns (s + 1) ≤ 7 := inName_iff.1 (HNM.out _ (getD_mem (by rw [HLN.out]; omega)))
          have HOKP : Hid (okL ([0, kAt ns (s + 1), tagL (kAt ks (s + 1)) (hAt r f ks ns (s + 1))] ++ (hAt r f ks ns (s + 1)).take 6) = true) := plain_drop_ok r f ks _ HFL6.out HFI.out hs1 _ (by omega)
          have HOKH : Hid (okL (hAt r f ks ns s) = true) := hdr_drop_ok r f ks _ HFL6.out HFI.out (by omega)
          have HLH : Hid ((hAt r f ks ns s).length = 9) := hdr_drop_len r f ks _ HFL6.out (by omega)
          have HST : Hid (hAt r f ks ns s = onL ([0, kAt ns (s + 1), tagL (kAt ks (s + 1)) (hAt r f ks ns (s + 1))] ++ (hAt r f ks ns (s + 1)).take 6) (kAt ks s)) := hdr_step r f ks ns hs1
          have cnr := (hT.out.2.cell (p := ⟨bn, fn + (s + 1), none⟩) hbn).trans (show w.cell? ⟨bn, fn + (s + 1), none⟩ = some (.int .i64 (kAt ns (s + 1))) from cn)
          obtain ⟨bc, fc, rfl, _, _, _⟩ := hT.out.1.ints.at_ (k := 0) (by omega)
          have hcap := hT.out.1.ints.cap_
          have h6 : 6 ≤ e2 := by omega
          have HB := Lib.hid hT.out.2
          have hI6 := hT.out.1.ints.take (k := 6) (by omega)
          generalize hAt r f ks ns (s + 1) = H at hI6 HOKP HST ⊢
          generalize tagL (kAt ks (s + 1)) H = t at HOKP HST ⊢
          generalize kAt ns (s + 1) = x at hnn cnr HOKP HST
          have HA5 := Lib.hid (acc_three wr 0 x t).drew
          have hI7 := hI6.below (B := wr.heap.size) (w' := wr.alloc (.cells #[.int .i64 0, .int .i64 x, .int .i64 t] 3)) ((Below.refl _ _).alloc (Nat.le_refl _) _) (Nat.le_refl _)
          have IH5 : Hid (Ints w.heap.size wr.heap.size (wr.alloc (.cells #[.int .i64 0, .int .i64 x, .int .i64 t] 3)).drew (some ⟨bc, fc, none⟩) 6 e2 (H.take 6)) := hI7
          clear hI7
          have h6i : (6 : Int) ≤ (e2 : Int) := by omega
          have hsw : IntKind.i64.wrap ((s : Int) + 1) = (s : Int) + 1 := IntWalk.i64_in _ (by omega)
          have hst : ((s : Int) + 1).toNat = s + 1 := by omega
          have hsp : 0 ≤ (s : Int) + 1 := by omega
          have hsm : (s : Int) + 1 < (m : Int) := by omega
          clear hT hI6 ck cn
          go_wp2_with fail
          go_region_law (refine step_appL _ _ _ _ HA5.out _ _ _ _ _ _ IH5.out (by omega) (by simp) _ _ rfl rfl rfl rfl ?_; intro v5 w5 hN5 _)
          all_goals
            generalize [0, x, t] ++ H.take 6 = Pl at hN5 HOKP HST
            obtain ⟨A5, c5, rfl, ho5⟩ := own_of hN5.1
            have hb5 := HB.out.trans ((Il.Acc.below hN5).mono HB.out.size)
            have ck5 := (hb5.cell (p := ⟨b, off + s, none⟩) hb3).trans HCK.out
            have HO5 := Lib.hid ho5
            have HB5 := Lib.hid hb5
            clear hN5 ho5 hb5 HA5 IH5 hsw hst hsp hsm h6i cnr
            have hw5 := HB5.out.size
            go_wp2_with fail
            ((with_reducible refine (l2On _ _ _ _ _ Pl (kAt ks s) _ HO5.out.ints HOKP.out hkk.1 hkk.2).mono ?_); rintro e w6 ⟨A6, c6, rfl, o6, b6⟩)
            rw [← HST.out] at o6 ⊢
            have hb6 := HB5.out.trans (b6.mono hw5)
            have ck6 := (hb6.cell (p := ⟨b, off + s, none⟩) hb3).trans HCK.out
            have HR6 : Hid (HdrRel w w6 (hAt r f ks ns s) A6 (hAt r f ks ns s).length c6) := ⟨o6.mono hw5 (Nat.le_refl _), hb6⟩
            have hl9 : 9 ≤ (hAt r f ks ns s).length ∧ (hAt r f ks ns s).length ≤ 9 := by rw [HLH.out]; omega
            generalize (hAt r f ks ns s).length = L at HR6 hl9 ⊢
            have I6 := Lib.hid HR6.out.1.ints
            clear o6 b6 hb6 HO5 HB5 HST ck5 HOKP
            go_wp2_with fail
            ((with_reducible refine (l3Tag _ _ _ _ _ (hAt r f ks ns s) (kAt ks s) _ I6.out HOKH.out hkk.1 hkk.2).mono ?_); rintro e w' ⟨rfl, rfl⟩)
            clear ck6
            go_wp2
            go_roundw
            case rel => exact ⟨A6, c6, L, s, by omega, rfl, rfl, hl9, rfl, HR6.out⟩
            case measure => simp [intOf]

end Sp5
end Go.Proofs.Ytnjcpbkpcmemeac
