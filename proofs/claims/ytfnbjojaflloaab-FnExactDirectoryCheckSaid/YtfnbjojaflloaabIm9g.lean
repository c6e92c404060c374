/-
  Contracts of the program's chapter 21: signatures.
-/
import Derived.Test.YtfnbjojaflloaabIm9e
namespace Go.Proofs.Ytfnbjojaflloaab
open Go.RowKit Go.Shelf
namespace Im9
open Il Sl Gm Cm Ec Dm Sp9 Sg
attribute [local go_sem] Oper.semAt_some

theorem digF_bd (ep : Int) (es : List En) : -1 ≤ digF ep es ∧ digF ep es ≤ 990 := by
  have := digL_bd ep es
  unfold digF
  cases dirOk ep es
  · exact ⟨Int.le_refl _, show (-1 : Int) ≤ 990 by decide⟩
  · rw [cond_true]; omega
theorem sign_is (s ep : Int) (es : List En) : mulG s (digF ep es + 1) = signF s ep es := by
  unfold signF digF
  cases h1 : dirOk ep es
  · rw [cond_false, Bool.and_false, cond_false]
    exact mulG_out2 rfl
  · rw [cond_true, Bool.and_true]
    cases h2 : inG s
    · rw [cond_false]; exact mulG_out1 h2
    · rw [cond_true]
theorem right_is {p g d : Int} (_hp : inG p = true) (hg : sigB g = true) (_hd : 0 ≤ d ∧ d ≤ 990) : decide (mulG g 5 ≠ 0 ∧ mulG g 5 = mulG p (d + 1)) = rightB p g d := by
  have h0 : 0 ≤ g ∧ g ≤ 996 := by simpa [sigB] using hg
  unfold rightB
  by_cases h : 0 < g
  · have hq := inG_iff.1 (mulG_pos (inG_iff.2 (by omega : 1 ≤ g ∧ g ≤ 996)) (by decide : inG 5 = true))
    rw [decide_eq_true h, Bool.true_and]
    exact decide_eq_decide.2 ⟨fun q => q.2, fun q => ⟨by omega, q⟩⟩
  · have : mulG g 5 = 0 := mulG_out1 (inG_no.2 (by omega))
    rw [decide_eq_false h, Bool.false_and, decide_eq_false (fun q => q.1 this)]
theorem sigB_iff {x : Int} : sigB x = true ↔ 0 ≤ x ∧ x ≤ 996 := by simp [sigB]
theorem sigB_is {x : Int} : sigB x = (x == 0 || inG x) := by
  rw [Bool.eq_iff_iff, sigB_iff, Bool.or_eq_true, beq_iff_eq, inG_iff]
  omega

def allP (P : Int → Bool) (xs : List Int) (n : Nat) : Bool := (List.range n).all fun i => P (xs.getD i 0)
theorem allP_no {P : Int → Bool} {xs : List Int} {n k : Nat} (hk : k < n) (h : P (xs.getD k 0) = false) : allP P xs n = false := by
  cases hb : allP P xs n
  · rfl
  · have := (List.all_eq_true.1 hb) k (List.mem_range.2 hk)
    rw [h] at this; cases this
theorem allP_yes {P : Int → Bool} {xs : List Int} {n : Nat} (h : ∀ i, i < n → P (xs.getD i 0) = true) : allP P xs n = true := List.all_eq_true.2 fun i hi => h i (List.mem_range.1 hi)
theorem allP_at {P : Int → Bool} {xs : List Int} {n k : Nat} (h : allP P xs n = true) (hk : k < n) : P (xs.getD k 0) = true := (List.all_eq_true.1 h) k (List.mem_range.2 hk)
theorem up_succ {P : Int → Bool} {xs : List Int} {k : Nat} (h : ∀ i, i < k → P (xs.getD i 0) = true) (h2 : P (xs.getD k 0) = true) : ∀ i, i < k + 1 → P (xs.getD i 0) = true := fun i hi => by
  rcases Nat.lt_or_ge i k with h3 | h3
  · exact h i h3
  · obtain rfl : i = k := by omega
    exact h2

set_option maxRecDepth 20000 in
theorem signedElement (ep : Int) (es : List En) (A : Option Addr) (n k lo hi : Nat) (w : World) (hx : Ens lo hi w A n k es) :
    Calls Try.prog 52 #[.agg #[.int .i64 ep, .slice A n k]] w (IntB (digF ep es + 1) w) := by
  have HR0 := Lib.hid (drel_new hx ep)
  obtain ⟨hd1, hd2⟩ := digF_bd ep es
  clear hx
  obtain ⟨z0, z1, zf⟩ := HR0.out.box.cells
  go_enter Try.func52, Try.ntmps52
  go_wp2_with fail
  ((with_reducible refine (DirectoryDigest ep es _ _ _ _ _ _ HR0.out.ens).mono ?_); rintro e w1 ⟨rfl, hb⟩)
  have HR1 := Lib.hid (HR0.out.below hb)
  clear hb z0 z1 zf HR0
  go_wp2
  go_ret
  exact ⟨rfl, HR1.out.bel⟩
set_option maxRecDepth 20000 in
theorem DirectorySign (s ep : Int) (es : List En) (A : Option Addr) (n k lo hi : Nat) (w : World) (hx : Ens lo hi w A n k es) :
    Calls Try.prog 27 #[.int .i64 s, .agg #[.int .i64 ep, .slice A n k]] w (IntB (signF s ep es) w) := by
  have HR0 := Lib.hid (drel_new hx ep)
  have HV := Lib.hid (sign_is s ep es)
  clear hx
  obtain ⟨z0, z1, zf⟩ := HR0.out.box.cells
  go_enter Try.func27, Try.ntmps27
  go_wp2_with fail
  ((with_reducible refine (signedElement ep es _ _ _ _ _ _ HR0.out.ens).mono ?_); rintro e w1 ⟨rfl, hb⟩)
  have HR1 := Lib.hid (HR0.out.below hb)
  clear hb z0 z1 zf HR0
  go_wp2_with fail
  ((with_reducible refine (times s (digF ep es + 1) _).mono ?_); rintro e w2 ⟨rfl, rfl⟩)
  go_wp2
  go_ret
  rw [HV.out]
  exact ⟨rfl, HR1.out.bel⟩
set_option maxRecDepth 20000 in
theorem publicsValid (lo hi : Nat) (A : Option Addr) (n c : Nat) (xs : List Int) (w : World) (hx : Ints lo hi w A n c xs) :
    Calls Try.prog 53 #[.slice A n c] w fun e w' => e = .returned (.bool (allP inG xs n)) ∧ w = w' := by
  have hc1 := hx.2.2.1
  have hc2 := hx.2.1
  unfold maxLen at hc1
  have HX := Lib.hid hx
  clear hx
  go_enter Try.func53, Try.ntmps53
  go_wp2
  go_loop [4, 7] (fun _ i => ∃ k : Nat, k ≤ n ∧ i = .int .i64 k ∧ Hid (∀ i, i < k → inG (xs.getD i 0) = true)) (fun _ i => n - (intOf i).toNat)
  case atStart => exact ⟨0, Nat.zero_le _, rfl, fun i hi => absurd hi (by omega)⟩
  case round =>
    obtain ⟨k, hk, rfl, hT⟩ := hrel
    by_cases hlt : k < n
    · obtain ⟨b, off, rfl, _, _, hcx⟩ := HX.out.at_ hlt
      cases hg : inG (xs.getD k 0)
      · have HF : Hid (allP inG xs n = false) := allP_no hlt hg
        clear hT
        generalize xs.getD k 0 = x at hcx hg
        go_wp2_with fail
        ((with_reducible refine (Sg.inRange x _).mono ?_); rintro e w1 ⟨rfl, rfl⟩)
        rw [hg]
        go_wp2
        go_ret
        rw [HF.out]
        exact ⟨rfl, rfl⟩
      · have HN := Lib.hid (up_succ hT.out hg)
        clear hT
        generalize xs.getD k 0 = x at hcx hg
        go_wp2_with fail
        ((with_reducible refine (Sg.inRange x _).mono ?_); rintro e w1 ⟨rfl, rfl⟩)
        rw [hg]
        go_wp2
        go_round
        case rel => exact ⟨k + 1, by omega, by go_num, HN.out⟩
        case measure => simp [intOf]; omega
    · obtain rfl : k = n := by omega
      have HF : Hid (allP inG xs k = true) := allP_yes hT.out
      clear hT hlt
      go_wp2
      go_ret
      rw [HF.out]
      exact ⟨rfl, rfl⟩
set_option maxRecDepth 20000 in
set_option maxHeartbeats 1000000 in
theorem signsValid (lo hi : Nat) (A : Option Addr) (n c : Nat) (xs : List Int) (w : World) (hx : Ints lo hi w A n c xs) :
    Calls Try.prog 54 #[.slice A n c] w fun e w' => e = .returned (.bool (allP sigB xs n)) ∧ w = w' := by
  have hc1 := hx.2.2.1
  have hc2 := hx.2.1
  unfold maxLen at hc1
  have HX := Lib.hid hx
  clear hx
  go_enter Try.func54, Try.ntmps54
  go_wp2
  go_loop [4, 7] (fun _ i => ∃ k : Nat, k ≤ n ∧ i = .int .i64 k ∧ Hid (∀ i, i < k → sigB (xs.getD i 0) = true)) (fun _ i => n - (intOf i).toNat)
  case atStart => exact ⟨0, Nat.zero_le _, rfl, fun i hi => absurd hi (by omega)⟩
  case round =>
    obtain ⟨k, hk, rfl, hT⟩ := hrel
    by_cases hlt : k < n
    · obtain ⟨b, off, rfl, _, _, hcx⟩ := HX.out.at_ hlt
      have HYES : Hid (sigB (xs.getD k 0) = true → ∀ i, i < k + 1 → sigB (xs.getD i 0) = true) := fun h => up_succ hT.out h
      have HNO : Hid (sigB (xs.getD k 0) = false → allP sigB xs n = false) := fun h => allP_no hlt h
      clear hT
      generalize xs.getD k 0 = x at *
      by_cases h0 : x = 0
      · have HN := Lib.hid (HYES.out (by rw [sigB_is, h0]; rfl))
        have e0 : (x != 0) = false := by simpa using h0
        clear HYES HNO h0
        go_wp2
        go_round
        case rel => exact ⟨k + 1, by omega, by go_num, HN.out⟩
        case measure => simp [intOf]; omega
      have e0 : (x != 0) = true := by simpa using h0
      have e1 : (x == 0) = false := by simpa using h0
      cases hg : inG x
      · have HF := Lib.hid (HNO.out (by rw [sigB_is, e1, hg]; rfl))
        clear HYES HNO h0 e1
        go_wp2_with fail
        ((with_reducible refine (Sg.inRange x _).mono ?_); rintro e w1 ⟨rfl, rfl⟩)
        rw [hg]
        go_wp2
        go_ret
        rw [HF.out]
        exact ⟨rfl, rfl⟩
      · have HN := Lib.hid (HYES.out (by rw [sigB_is, e1, hg]; rfl))
        clear HYES HNO h0 e1
        go_wp2_with fail
        ((with_reducible refine (Sg.inRange x _).mono ?_); rintro e w1 ⟨rfl, rfl⟩)
        rw [hg]
        go_wp2
        go_round
        case rel => exact ⟨k + 1, by omega, by go_num, HN.out⟩
        case measure => simp [intOf]; omega
    · obtain rfl : k = n := by omega
      have HF : Hid (allP sigB xs k = true) := allP_yes hT.out
      clear hT hlt
      go_wp2
      go_ret
      rw [HF.out]
      exact ⟨rfl, rfl⟩
set_option maxRecDepth 20000 in
theorem signedWith (d p g : Int) (w : World) : Calls Try.prog 41 #[.int .i64 d, .int .i64 p, .int .i64 g] w fun e w' => e = .returned (.bool (decide (mulG g 5 ≠ 0 ∧ mulG g 5 = mulG p d))) ∧ w = w' := by
  by_cases h0 : mulG g 5 = 0
  · have HV : Hid (decide (mulG g 5 ≠ 0 ∧ mulG g 5 = mulG p d) = false) := decide_eq_false fun h => h.1 h0
    have e0 : (mulG g 5 != 0) = false := by simpa using h0
    clear h0
    go_enter Try.func41, Try.ntmps41
    go_wp2_with fail
    ((with_reducible refine (times g 5 _).mono ?_); rintro e w1 ⟨rfl, rfl⟩)
    go_wp2
    go_ret
    rw [HV.out]
    exact ⟨rfl, rfl⟩
  have e1 : (mulG g 5 != 0) = true := by simpa using h0
  by_cases h : mulG g 5 = mulG p d
  · have HV : Hid (decide (mulG g 5 ≠ 0 ∧ mulG g 5 = mulG p d) = true) := decide_eq_true ⟨h0, h⟩
    have e0 : (mulG g 5 == mulG p d) = true := by simpa using h
    clear h h0
    go_enter Try.func41, Try.ntmps41
    go_wp2_with fail
    ((with_reducible refine (times g 5 _).mono ?_); rintro e w1 ⟨rfl, rfl⟩)
    go_wp2_with fail
    ((with_reducible refine (times p d _).mono ?_); rintro e w1 ⟨rfl, rfl⟩)
    go_wp2
    go_ret
    rw [HV.out]
    exact ⟨rfl, rfl⟩
  · have HV : Hid (decide (mulG g 5 ≠ 0 ∧ mulG g 5 = mulG p d) = false) := decide_eq_false fun q => h q.2
    have e0 : (mulG g 5 == mulG p d) = false := by simpa using h
    clear h h0
    go_enter Try.func41, Try.ntmps41
    go_wp2_with fail
    ((with_reducible refine (times g 5 _).mono ?_); rintro e w1 ⟨rfl, rfl⟩)
    go_wp2_with fail
    ((with_reducible refine (times p d _).mono ?_); rintro e w1 ⟨rfl, rfl⟩)
    go_wp2
    go_ret
    rw [HV.out]
    exact ⟨rfl, rfl⟩

theorem parts_is {ps gs : List Int} : partsOk ps gs = (allP inG ps 3 && allP sigB gs 3) := by
  rw [Bool.eq_iff_iff, Bool.and_eq_true, partsOk_iff]
  constructor
  · intro h
    exact ⟨allP_yes fun i hi => (h i hi).1, allP_yes fun i hi => sigB_iff.2 (h i hi).2⟩
  · intro h i hi
    exact ⟨allP_at h.1 hi, sigB_iff.1 (allP_at h.2 hi)⟩
theorem check_no {ps gs : List Int} {ep : Int} {es : List En} (h : (dirOk ep es && (decide (ps.length = 3) && (decide (gs.length = 3) && partsOk ps gs))) = false) : checkF ps ep es gs = false := by
  unfold checkF
  cases h1 : dirOk ep es
  · rfl
  rw [h1] at h
  cases h2 : decide (ps.length = 3)
  · rfl
  rw [h2] at h
  cases h3 : decide (gs.length = 3)
  · rfl
  rw [h3] at h
  cases h4 : partsOk ps gs
  · rfl
  rw [h4] at h; cases h
theorem check_yes {ps gs : List Int} {ep : Int} {es : List En} (h1 : dirOk ep es = true) (h2 : ps.length = 3) (h3 : gs.length = 3) (h4 : partsOk ps gs = true) : checkF ps ep es gs = decide (2 ≤ rights ps gs (digL ep es) 3) := by
  unfold checkF
  rw [h1, h4, decide_eq_true h2, decide_eq_true h3]; rfl
set_option maxRecDepth 20000 in
set_option maxHeartbeats 2000000 in
theorem DirectoryCheck (ps gs : List Int) (ep : Int) (es : List En) (P G A : Option Addr) (n1 p n2 g n k lo hi l1 h1 l2 h2 : Nat) (w : World) (hx : Ens lo hi w A n k es) (hp : Ints l1 h1 w P n1 p ps) (hg : Ints l2 h2 w G n2 g gs) :
    Calls Try.prog 28 #[.slice P n1 p, .agg #[.int .i64 ep, .slice A n k], .slice G n2 g] w (BoolB (checkF ps ep es gs) w) := by
  have HR0 := Lib.hid (drel_new hx ep)
  have HPL := Lib.hid hp.1
  have HGL := Lib.hid hg.1
  have hp1 := hp.2.1
  have hp2 := hp.2.2.1
  have hg1 := hg.2.1
  have hg2 := hg.2.2.1
  unfold maxLen at hp2 hg2
  have IP0 := Lib.hid hp
  have IG0 := Lib.hid hg
  clear hx hp hg
  obtain ⟨z0, z1, zf⟩ := HR0.out.box.cells
  go_enter Try.func28, Try.ntmps28
  go_wp2_with fail
  ((with_reducible refine (DirectoryValid ep es _ _ _ _ _ _ HR0.out.ens).mono ?_); rintro e w1 ⟨rfl, hb⟩)
  have HR1 := Lib.hid (HR0.out.below hb)
  have IP := Lib.hid (IP0.out.below HR1.out.bel (Nat.le_refl _))
  have IG := Lib.hid (IG0.out.below HR1.out.bel (Nat.le_refl _))
  clear hb z0 z1 zf HR0 IP0 IG0
  obtain ⟨z0, z1, zf⟩ := HR1.out.box.cells
  cases hd : dirOk ep es
  · have HV := Lib.hid (check_no (ps := ps) (gs := gs) (ep := ep) (es := es) (by rw [hd]; rfl))
    go_wp2
    go_ret
    rw [HV.out]
    exact ⟨rfl, HR1.out.bel⟩
  by_cases hn1 : n1 = 3
  · subst hn1
    cases hap : allP inG ps 3
    · have HV := Lib.hid (check_no (ps := ps) (gs := gs) (ep := ep) (es := es) (by rw [parts_is, hap, Bool.false_and, Bool.and_false, Bool.and_false, Bool.and_false]))
      clear hd
      go_wp2_with fail
      ((with_reducible refine (publicsValid _ _ _ _ _ ps _ IP.out).mono ?_); rintro e w2 ⟨rfl, rfl⟩)
      rw [hap]
      go_wp2
      go_ret
      rw [HV.out]
      exact ⟨rfl, HR1.out.bel⟩
    by_cases hn2 : n2 = 3
    · subst hn2
      cases hag : allP sigB gs 3
      · have HV := Lib.hid (check_no (ps := ps) (gs := gs) (ep := ep) (es := es) (by rw [parts_is, hag, Bool.and_false, Bool.and_false, Bool.and_false, Bool.and_false]))
        clear hd
        go_wp2_with fail
        ((with_reducible refine (publicsValid _ _ _ _ _ ps _ IP.out).mono ?_); rintro e w2 ⟨rfl, rfl⟩)
        rw [hap]
        go_wp2_with fail
        ((with_reducible refine (signsValid _ _ _ _ _ gs _ IG.out).mono ?_); rintro e w2 ⟨rfl, rfl⟩)
        rw [hag]
        go_wp2
        go_ret
        rw [HV.out]
        exact ⟨rfl, HR1.out.bel⟩
      have HV := Lib.hid (check_yes hd HPL.out HGL.out (by rw [parts_is, hap, hag]; rfl))
      have HDG := Lib.hid (digF_yes hd)
      have HAP := Lib.hid hap
      have HAG := Lib.hid hag
      have hbd := Lib.hid (digL_bd ep es)
      clear hd
      go_wp2_with fail
      ((with_reducible refine (publicsValid _ _ _ _ _ ps _ IP.out).mono ?_); rintro e w2 ⟨rfl, rfl⟩)
      rw [hap]
      go_wp2_with fail
      ((with_reducible refine (signsValid _ _ _ _ _ gs _ IG.out).mono ?_); rintro e w2 ⟨rfl, rfl⟩)
      rw [hag]
      clear hap hag
      go_wp2_with fail
      ((with_reducible refine (signedElement ep es _ _ _ _ _ _ HR1.out.ens).mono ?_); rintro e w2 ⟨rfl, hb⟩)
      rw [HDG.out]
      have HR2 := Lib.hid (HR1.out.below hb)
      have IP2 := Lib.hid (IP.out.below hb (Nat.le_refl _))
      have IG2 := Lib.hid (IG.out.below hb (Nat.le_refl _))
      clear hb z0 z1 zf HR1 IP IG HDG
      generalize digL ep es = d at *
      go_wp2
      go_loop [8, 9, 10, 38] (fun r _ _ i => ∃ j : Nat, j ≤ 3 ∧ i = .int .i64 j ∧ r = .int .i64 ((rights ps gs d j : Nat) : Int)) (fun _ _ _ i => 3 - (intOf i).toNat)
      case atStart => exact ⟨0, by omega, rfl, rfl⟩
      case round =>
        obtain ⟨j, hj, rfl, rfl⟩ := hrel
        have hrb := rights_le ps gs d j
        by_cases hlt : j < 3
        · obtain ⟨b, off, rfl, _, _, hcx⟩ := IP2.out.at_ hlt
          obtain ⟨b2, off2, rfl, _, _, hcy⟩ := IG2.out.at_ hlt
          have HN := Lib.hid (rights_succ ps gs d j)
          have HRI := Lib.hid (right_is (allP_at HAP.out hlt) (allP_at HAG.out hlt) hbd.out)
          generalize ps.getD j 0 = x at *
          generalize gs.getD j 0 = y at *
          generalize rights ps gs d j = r at *
          cases hr : rightB x y d
          · rw [hr] at HN HRI
            go_wp2_with fail
            ((with_reducible refine (signedWith (d + 1) x y _).mono ?_); rintro e w3 ⟨rfl, rfl⟩)
            rw [HRI.out]
            clear HRI hr
            go_wp2
            go_round
            case rel => exact ⟨j + 1, by omega, by go_num, by rw [HN.out]; rfl⟩
            case measure => simp [intOf]; omega
          · rw [hr] at HN HRI
            go_wp2_with fail
            ((with_reducible refine (signedWith (d + 1) x y _).mono ?_); rintro e w3 ⟨rfl, rfl⟩)
            rw [HRI.out]
            clear HRI hr
            go_wp2
            go_round
            case rel => exact ⟨j + 1, by omega, by go_num, by rw [HN.out]; rfl⟩
            case measure => simp [intOf]; omega
        · obtain rfl : j = 3 := by omega
          have HB := Lib.hid HR2.out.bel
          clear hlt
          generalize rights ps gs d 3 = r at *
          by_cases h2 : 2 ≤ r
          · have HF := Lib.hid (decide_eq_true h2)
            have e0 : decide (2 ≤ (r : Int)) = true := by simp; omega
            clear h2
            go_wp2
            go_ret
            rw [HV.out, HF.out]
            exact ⟨rfl, HB.out⟩
          · have HF := Lib.hid (decide_eq_false h2)
            have e0 : decide (2 ≤ (r : Int)) = false := by simp; omega
            clear h2
            go_wp2
            go_ret
            rw [HV.out, HF.out]
            exact ⟨rfl, HB.out⟩
    · have HV := Lib.hid (check_no (ps := ps) (gs := gs) (ep := ep) (es := es) (by rw [decide_eq_false (show ¬ gs.length = 3 by rw [HGL.out]; exact hn2), Bool.false_and, Bool.and_false, Bool.and_false]))
      have e0 : ((n2 : Int) != 3) = true := by simp; omega
      have e1 : (n2 != 3) = true := by simp; omega
      clear hd hn2
      go_wp2_with fail
      ((with_reducible refine (publicsValid _ _ _ _ _ ps _ IP.out).mono ?_); rintro e w2 ⟨rfl, rfl⟩)
      rw [hap]
      go_wp2
      go_ret
      rw [HV.out]
      exact ⟨rfl, HR1.out.bel⟩
  · have HV := Lib.hid (check_no (ps := ps) (gs := gs) (ep := ep) (es := es) (by rw [decide_eq_false (show ¬ ps.length = 3 by rw [HPL.out]; exact hn1), Bool.false_and, Bool.and_false]))
    have e0 : ((n1 : Int) != 3) = true := by simp; omega
    have e1 : (n1 != 3) = true := by simp; omega
    clear hd hn1
    go_wp2
    go_ret
    rw [HV.out]
    exact ⟨rfl, HR1.out.bel⟩

end Im9
end Go.Proofs.Ytfnbjojaflloaab
