/-
  The library's slices.Grow, Concat and EqualFunc at lists of ints; slices.Chunk gathered by slices.Collect.
-/
import Derived.Test.YtoghgliijjfppabCk
import Derived.Test.YtoghgliijjfppabPc
import Derived.Shelf.Spec.SlicesGrow
import Derived.BigQuiet
import Derived.Deep.RegionLaw
import Derived.RangeFuncNested
import Derived.RangeFuncBound
import Derived.RangeFuncCalls
import Derived.RangeFuncLeaves
import Derived.Shelf.Abstract
import Derived.Shelf.RegionOpen
import Derived.WalkKit
import Derived.OwnWalkIn
import Derived.TacticsInMore
import Derived.LoopNIn
import Derived.LoopIn
namespace Go.Proofs.Ytoghgliijjfppab
open Go.RowKit Go.Shelf
namespace Lb
open Il Sl Fo Cm Cs Pc
attribute [local go_sem] Oper.semAt_some

def groR : Go.Shelf.Ren := ⟨fun | 4 => 52 | n => n, fun | 0 => 0 | 3 => 3 | 4 => 4 | 9 => 9 | 20 => 20 | 22 => 22 | 25 => 3 | n => n, fun | n => n⟩
theorem gro : Go.Proofs.Lays8.n4 Try.prog groR := {
  mixed := by kernel_rfl
  f4 := ⟨Try.f52.name, by kernel_rfl, Try.func52.trans (congrArg some (by kernel_rfl))⟩
  t0 := Try.underlying0
  a0 := Try.isAgg0
  z0 := Try.sizeOf0
  v0 := Try.zeroValue0
  t3 := Try.underlying3
  a3 := Try.isAgg3
  z3 := Try.sizeOf3
  v3 := Try.zeroValue3
  t4 := Try.underlying4
  a4 := Try.isAgg4
  z4 := Try.sizeOf4
  v4 := Try.zeroValue4
  t9 := Try.underlying9
  a9 := Try.isAgg9
  z9 := Try.sizeOf9
  v9 := Try.zeroValue9
  t20 := Try.underlying20
  a20 := Try.isAgg20
  z20 := Try.sizeOf20
  v20 := Try.zeroValue20
  t22 := Try.underlying22
  a22 := Try.isAgg22
  z22 := Try.sizeOf22
  v22 := Try.zeroValue22 }
/-- An empty slice with room. -/
def GrowP (w : World) (e : Ending) (w' : World) : Prop := ∃ g v, e = .returned v ∧ Dest 3 1 g w' v 0 [] ∧ (∀ k, g = some k → w.heap.size ≤ k) ∧ Below w.heap.size w w'
theorem grow (n : Nat) (w : World) (hn : n ≤ 1000000) : Calls Try.prog 52 #[.slice none 0 0, .int .i64 n] w (GrowP w) := by
  rcases Nat.eq_zero_or_pos n with rfl | h0
  · refine (Go.Proofs.Any8.slices_Grow_room gro none 0 0 0 w (Nat.le_refl _) (by omega) (by omega) (Nat.le_refl _)).mono ?_
    rintro e w' ⟨rfl, rfl⟩
    exact ⟨none, _, rfl, .inl ⟨rfl, rfl, rfl, none, rfl⟩, fun k e => (by cases e), Below.refl _ _⟩
  · obtain ⟨i0, e1, e2, e3, e4⟩ := el_parts elInt
    refine (Go.Proofs.Any8.slices_Grow_grow gro i0 _ e1 e2 (by omega) none 0 0 n [] w (Nat.le_refl _) (by omega) (by rw [e4]; omega) (by omega) (by simp) (fun _ => rfl) (fun a h => by cases h)).mono ?_
    rintro e w' ⟨rfl, rfl⟩
    have hcap := grownCap_le_maxLen w (0 + n) 0 (groR.t 25) (by unfold maxLen; omega)
    have hge := grownCap_ge w (0 + n) 0 (groR.t 25)
    have hb : Below w.heap.size w (w.drew.alloc (.cells (([] : List Value).toArray ++ Builtin.zeroCells (Value.int IntKind.i64 0).cells (0 + n - 0) ++ Builtin.zeroCells (Value.int IntKind.i64 0).cells (grownCap w (0 + n) 0 (groR.t 25) - (0 + n))) (groR.t 25))) := by
      have h1 : Below w.heap.size w w.drew := ⟨rfl, rfl, rfl, Nat.le_refl _, fun _ _ => rfl⟩
      exact h1.alloc h1.size _
    refine ⟨some w.heap.size, _, rfl, .inr ⟨_, rfl, _, rfl, rfl, .inr ⟨w.heap.size, _, _, rfl, Nat.le_refl _, heap_alloc_new w.drew _, Nat.zero_le _, hcap, ?_, by simp⟩⟩, fun k e => by cases e; exact Nat.le_refl _, hb⟩
    rw [Nat.zero_add] at hge
    simp only [Array.size_append, size_zeroCells, List.size_toArray, List.length_nil, Value.cells, List.length_cons, Nat.zero_add, Nat.mul_one]
    omega

theorem dest_new {w w' : World} {g : Option Nat} {v : Value} {xs : List Int} (h : Dest 3 1 g w' v xs.length (xs.map (Value.int .i64))) (hg : ∀ k, g = some k → w.heap.size ≤ k) (hb : Below w.heap.size w w') : NewInts w xs (.returned v) w' := by
  obtain ⟨A, c, b, rfl, ho, hk⟩ := dest_ints h
  refine ⟨A, c, rfl, ?_, hb⟩
  rcases Nat.eq_zero_or_pos xs.length with hz | hz
  · exact ⟨⟨rfl, ho.1.2.1, ho.1.2.2.1, fun hn => absurd hn (by omega)⟩, fun _ _ hn => absurd hn (by omega)⟩
  · obtain ⟨k, e, hlt⟩ := Sg.dest_blk h hz
    obtain rfl := hk k e
    exact ho.mono (hg _ e) (by omega)

theorem flat_take {ps : List (List Int)} {j : Nat} (h : j < ps.length) : flat (ps.take (j + 1)) = flat (ps.take j) ++ slAt ps j := by
  rw [← Ck.take_slot h]
  unfold flat
  rw [List.flatten_append]
  simp
theorem flat_tot (ps : List (List Int)) : (flat ps).length = tot ps := by
  unfold flat tot
  rw [List.length_flatten]
/-- What Concat has appended. -/
def CatR (w wr : World) (ps : List (List Int)) (v : Value) (j : Nat) : Prop :=
  ∃ g, Dest 3 1 g wr v (flat (ps.take j)).length ((flat (ps.take j)).map (Value.int .i64)) ∧ (∀ k, g = some k → w.heap.size ≤ k) ∧ Below w.heap.size w wr
set_option maxRecDepth 20000 in
set_option maxHeartbeats 1000000 in
theorem concat (lo hi : Nat) (A : Option Addr) (n c : Nat) (ps : List (List Int)) (w : World) (hx : Sts lo hi w A n c ps) (hn : n ≤ 1000) (ht : tot ps ≤ 100000) :
    Calls Try.prog 34 #[.slice A n c] w (NewInts w (flat ps)) := by
  have hk1 := hx.max_
  have hk2 := hx.cap_
  have HL := Lib.hid hx.len_
  unfold maxLen at hk1
  have HX := Lib.hid (hx.top (Nat.zero_le _))
  have HT : Hid (∀ j, tot (ps.take j) ≤ 100000) := fun j => Nat.le_trans (tot_le j) ht
  clear hx ht
  go_enter Try.func34, Try.ntmps34
  go_wp2
  go_loop [3, 11] (fun z i => ∃ j : Nat, j ≤ n ∧ i = .int .i64 j ∧ ∃ q : Nat, z = .int .i64 q ∧ Hid (q = tot (ps.take j))) (fun _ i => n - (intOf i).toNat)
  case atStart => exact ⟨0, Nat.zero_le _, rfl, 0, rfl, by show _ = _; simp [tot]⟩
  case round =>
    obtain ⟨j, hj, rfl, q, rfl, hQ⟩ := hrel
    by_cases hlt : j < n
    · obtain ⟨b, off, B, e, rfl, _, _, hbz, cB, iB⟩ := HX.out.at_ hlt
      have hlj : j < ps.length := by rw [HL.out]; exact hlt
      have he1 := iB.2.1
      have he2 := iB.2.2.1
      unfold maxLen at he2
      have HTT := Lib.hid (tot_take hlj)
      have hq2 : tot (ps.take (j + 1)) ≤ 100000 := HT.out _
      have HQ2 : Hid (q + (slAt ps j).length = tot (ps.take (j + 1))) := by show _ = _; rw [HTT.out, hQ.out]
      have hq3 : q + (slAt ps j).length ≤ 100000 := by rw [HQ2.out]; exact hq2
      clear iB hq2 hQ HTT
      generalize slAt ps j = xs at *
      have hw : IntKind.i64.wrap ((q : Int) + (xs.length : Int)) = (q : Int) + (xs.length : Int) := IntWalk.i64_in _ (by omega)
      have hnn : ¬ ((q : Int) + (xs.length : Int) < 0) := by omega
      go_wp2
      go_round
      case rel => exact ⟨j + 1, by omega, by go_num, q + xs.length, by go_num, HQ2.out⟩
      case measure => simp [intOf]; omega
    · obtain rfl : j = n := by omega
      have hq3 : q ≤ 1000000 := by have := HT.out j; have := hQ.out; omega
      clear hlt hQ
      go_wp2_with fail
      ((with_reducible refine (grow q _ hq3).mono ?_); rintro e w2 ⟨g2, v2, rfl, hd2, hg2, hb2⟩)
      have HR0 : Hid (CatR w w2 ps v2 0) := ⟨g2, hd2, hg2, hb2⟩
      clear hd2 hg2 hb2
      go_wp2
      go_loopw [6, 27] (fun v i wr => ∃ k : Nat, k ≤ j ∧ i = .int .i64 k ∧ Hid (CatR w wr ps v k)) (fun _ i _ => j - (intOf i).toNat)
      case atStart => exact ⟨0, Nat.zero_le _, rfl, HR0.out⟩
      case round =>
        obtain ⟨k, hk, rfl, hR⟩ := hrel
        clear HR0
        obtain ⟨g, k1, k2, k3⟩ := hR.out
        by_cases hlt : k < j
        · obtain ⟨b, off, B, e, rfl, _, _, hbz, cB, iB⟩ := (HX.out.below' k3 (Nat.le_refl _)).at_ hlt
          have hlk : k < ps.length := by rw [HL.out]; exact hlt
          have HFT := Lib.hid (flat_take hlk)
          have HTL : Hid (tot (ps.take (k + 1)) ≤ 100000) := HT.out _
          have IB := Lib.hid iB
          have HD := Lib.hid k1
          have HG := Lib.hid k2
          have HB := Lib.hid k3
          have hsum : (flat (ps.take k)).length + (slAt ps k).length ≤ 1000000 := by
            have h1 := HTL.out
            rw [← flat_tot, HFT.out, List.length_append] at h1
            omega
          clear iB k1 k2 k3 hR HTL
          generalize slAt ps k = xs at *
          generalize flat (ps.take k) = fl at *
          go_wp2_with (at_builtin; refine wpList_appD elInt _ _ _ _ _ HD.out _ _ _ _ _ _ (ints_row IB.out) (ints_one_cell _) hsum _ _ rfl rfl rfl rfl ?_; intro g5 v5 w5 hd5 hg5 hgr5)
          have HR5 : Hid (CatR w w5 ps v5 (k + 1)) := by
            refine ⟨g5, ?_, ?_, HB.out.grown hgr5 HB.out.size HG.out⟩
            · rw [HFT.out, List.length_append, List.map_append]; exact hd5
            · rintro k' rfl
              rcases hg5 with e | ⟨k2, e, h2⟩
              · exact HG.out k' e.symm
              · cases e; have := HB.out.size; omega
          clear hd5 hg5 hgr5 HD HG HB IB
          go_wp2
          go_roundw
          case rel => exact ⟨k + 1, by omega, by go_num, HR5.out⟩
          case measure => simp [intOf]; omega
        · obtain rfl : k = j := by omega
          have HP : Hid (NewInts w (flat ps) (.returned u6) wr) := by
            have e : ps.take k = ps := List.take_of_length_le (by rw [HL.out]; exact Nat.le_refl _)
            rw [e] at k1
            exact dest_new k1 k2 k3
          clear k1 k2 k3 hR hlt
          go_wp2
          go_ret
          exact HP.out

theorem eq_take {xs ys : List Int} {k : Nat} (h1 : k < xs.length) (h2 : k < ys.length) (h : xs.take k = ys.take k) (he : xs.getD k 0 = ys.getD k 0) : xs.take (k + 1) = ys.take (k + 1) := by
  rw [List.take_succ_eq_append_getElem h1, List.take_succ_eq_append_getElem h2, h]
  rw [List.getD_eq_getElem?_getD, List.getD_eq_getElem?_getD, List.getElem?_eq_getElem h1, List.getElem?_eq_getElem h2] at he
  simp only [Option.getD_some] at he
  rw [he]
def TwoR (w wr : World) (l1 h1 l2 h2 : Nat) (A B : Option Addr) (n c m d : Nat) (xs ys : List Int) : Prop := Ints l1 h1 wr A n c xs ∧ Ints l2 h2 wr B m d ys ∧ Below w.heap.size w wr
theorem TwoR.dr {w wr : World} {l1 h1 l2 h2 : Nat} {A B : Option Addr} {n c m d : Nat} {xs ys : List Int} (h : TwoR w wr l1 h1 l2 h2 A B n c m d xs ys) (q : Nat) : TwoR w (wr.drewN q) l1 h1 l2 h2 A B n c m d xs ys := ⟨h.1, h.2.1, Ck.below_dr h.2.2⟩
set_option maxRecDepth 20000 in
set_option maxHeartbeats 1000000 in
theorem equal (l1 h1 l2 h2 : Nat) (A B : Option Addr) (n c m d : Nat) (xs ys : List Int) (w : World) (hx : Ints l1 h1 w A n c xs) (hy : Ints l2 h2 w B m d ys) :
    Calls Try.prog 48 #[.slice A n c, .slice B m d] w (BoolB (decide (xs = ys)) w) := by
  have HX := Lib.hid hx.1
  have HY := Lib.hid hy.1
  have hc1 := hx.2.2.1
  have hc2 := hx.2.1
  unfold maxLen at hc1
  by_cases hnm : n = m
  case neg =>
    have HV : Hid (decide (xs = ys) = false) := decide_eq_false fun e => hnm (by rw [← HX.out, ← HY.out, e])
    have hne : ((n : Int) != (m : Int)) = true := by simpa using (by omega : ¬ (n : Int) = m)
    rw [HV.out]
    clear hx hy hnm
    go_enter Try.func48, Try.ntmps48
    go_wp2
    go_ret
    exact ⟨rfl, Below.refl _ _⟩
  subst hnm
  have HR0 : Hid (TwoR w w l1 h1 l2 h2 A B n c n d xs ys) := ⟨hx, hy, Below.refl _ _⟩
  clear hx hy
  go_enter Try.func48, Try.ntmps48
  go_wp2
  go_loopw [13] (fun i wr => ∃ k : Nat, k ≤ n ∧ i = .int .i64 k ∧ Hid (xs.take k = ys.take k) ∧ Hid (TwoR w wr l1 h1 l2 h2 A B n c n d xs ys)) (fun i _ => n - (intOf i).toNat)
  case atStart => exact ⟨0, Nat.zero_le _, rfl, rfl, HR0.out⟩
  case round =>
    obtain ⟨k, hk, rfl, hT, hR⟩ := hrel
    clear HR0
    by_cases hlt : k < n
    · obtain ⟨b, off, rfl, _, _, c1⟩ := hR.out.1.at_ hlt
      obtain ⟨b2, off2, rfl, _, _, c2⟩ := hR.out.2.1.at_ hlt
      have HN : Hid (xs.getD k 0 = ys.getD k 0 → xs.take (k + 1) = ys.take (k + 1)) := fun h => eq_take (by rw [HX.out]; exact hlt) (by rw [HY.out]; exact hlt) hT.out h
      have HF : Hid (xs.getD k 0 ≠ ys.getD k 0 → decide (xs = ys) = false) := fun h => decide_eq_false fun e => h (by rw [e])
      clear hT
      generalize xs.getD k 0 = x at *
      generalize ys.getD k 0 = y at *
      by_cases hxy : x = y
      · have HN2 := Lib.hid (HN.out hxy)
        subst hxy
        clear HN HF
        go_wp2_with fail
        go_quiet (fail)
        have HR2 := Lib.hid (hR.out.dr nq)
        clear hR c1 c2
        generalize wr.drewN nq = W at *
        go_wp2
        go_roundw
        case rel => exact ⟨k + 1, by omega, by go_num, HN2.out, HR2.out⟩
        case measure => simp [intOf]; omega
      · have HF2 := Lib.hid (HF.out hxy)
        have hne : (x != y) = true := by simpa using hxy
        rw [HF2.out]
        clear HN HF hxy
        go_wp2_with fail
        go_quiet (fail)
        have HB := Lib.hid (hR.out.dr nq).2.2
        clear hR c1 c2
        generalize wr.drewN nq = W at *
        go_wp2
        go_ret
        exact ⟨rfl, HB.out⟩
    · obtain rfl : k = n := by omega
      have HV : Hid (decide (xs = ys) = true) := by
        refine decide_eq_true ?_
        have h := hT.out
        rwa [List.take_of_length_le (by rw [HX.out]; exact Nat.le_refl _), List.take_of_length_le (by rw [HY.out]; exact Nat.le_refl _)] at h
      have HB := Lib.hid hR.out.2.2
      clear hT hR hlt
      go_wp2
      go_ret
      rw [HV.out]
      exact ⟨rfl, HB.out⟩

theorem eqs_take {xs ys : List (List Int)} {k : Nat} (h1 : k < xs.length) (h2 : k < ys.length) (h : xs.take k = ys.take k) (he : slAt xs k = slAt ys k) : xs.take (k + 1) = ys.take (k + 1) := by
  rw [← Ck.take_slot h1, ← Ck.take_slot h2, h, he]
def TwoS (w wr : World) (l1 h1 l2 h2 : Nat) (A B : Option Addr) (n c m d : Nat) (xs ys : List (List Int)) : Prop := Sts l1 h1 wr A n c xs ∧ Sts l2 h2 wr B m d ys ∧ Below w.heap.size w wr
theorem TwoS.below {w wr w' : World} {l1 h1 l2 h2 : Nat} {A B : Option Addr} {n c m d : Nat} {xs ys : List (List Int)} (h : TwoS w wr l1 h1 l2 h2 A B n c m d xs ys) (hb : Below wr.heap.size wr w') : TwoS w w' l1 h1 l2 h2 A B n c m d xs ys :=
  ⟨h.1.below hb (Nat.le_refl _), h.2.1.below hb (Nat.le_refl _), h.2.2.trans (hb.mono h.2.2.size)⟩
set_option maxRecDepth 20000 in
set_option maxHeartbeats 1000000 in
theorem equalFunc (l1 h1 l2 h2 : Nat) (A B : Option Addr) (n c m d : Nat) (xs ys : List (List Int)) (w : World) (hx : Sts l1 h1 w A n c xs) (hy : Sts l2 h2 w B m d ys) :
    Calls Try.prog 47 #[.slice A n c, .slice B m d, .func (.func 48) #[] #[]] w (BoolB (decide (xs = ys)) w) := by
  have HX := Lib.hid hx.len_
  have HY := Lib.hid hy.len_
  have hc1 := hx.max_
  have hc2 := hx.cap_
  unfold maxLen at hc1
  by_cases hnm : n = m
  case neg =>
    have HV : Hid (decide (xs = ys) = false) := decide_eq_false fun e => hnm (by rw [← HX.out, ← HY.out, e])
    have hne : ((n : Int) != (m : Int)) = true := by simpa using (by omega : ¬ (n : Int) = m)
    rw [HV.out]
    clear hx hy hnm
    go_enter Try.func47, Try.ntmps47
    go_wp2
    go_ret
    exact ⟨rfl, Below.refl _ _⟩
  subst hnm
  have HR0 : Hid (TwoS w w l1 h1 l2 h2 A B n c n d xs ys) := ⟨hx, hy, Below.refl _ _⟩
  clear hx hy
  go_enter Try.func47, Try.ntmps47
  go_wp2
  go_loopw [17] (fun i wr => ∃ k : Nat, k ≤ n ∧ i = .int .i64 k ∧ Hid (xs.take k = ys.take k) ∧ Hid (TwoS w wr l1 h1 l2 h2 A B n c n d xs ys)) (fun i _ => n - (intOf i).toNat)
  case atStart => exact ⟨0, Nat.zero_le _, rfl, rfl, HR0.out⟩
  case round =>
    obtain ⟨k, hk, rfl, hT, hR⟩ := hrel
    clear HR0
    by_cases hlt : k < n
    · obtain ⟨b, off, P1, e1, rfl, _, _, _, c1, i1⟩ := hR.out.1.at_ hlt
      obtain ⟨b2, off2, P2, e2, rfl, _, _, _, c2, i2⟩ := hR.out.2.1.at_ hlt
      have HN : Hid (slAt xs k = slAt ys k → xs.take (k + 1) = ys.take (k + 1)) := fun h => eqs_take (by rw [HX.out]; exact hlt) (by rw [HY.out]; exact hlt) hT.out h
      have HF : Hid (slAt xs k ≠ slAt ys k → decide (xs = ys) = false) := fun h => decide_eq_false fun e => h (by rw [e])
      have I1 := Lib.hid i1
      have I2 := Lib.hid i2
      clear hT i1 i2
      generalize slAt xs k = x at *
      generalize slAt ys k = y at *
      by_cases hxy : x = y
      · have HN2 := Lib.hid (HN.out hxy)
        have HD := Lib.hid (decide_eq_true hxy)
        clear HN HF hxy
        go_wp2_with fail
        ((with_reducible refine (equal _ _ _ _ _ _ _ _ _ _ x y _ I1.out I2.out).mono ?_); rintro e w1 ⟨rfl, hb1⟩)
        rw [HD.out]
        have HR2 := Lib.hid (hR.out.below hb1)
        clear hR c1 c2 hb1
        go_wp2
        go_roundw
        case rel => exact ⟨k + 1, by omega, by go_num, HN2.out, HR2.out⟩
        case measure => simp [intOf]; omega
      · have HF2 := Lib.hid (HF.out hxy)
        have HD := Lib.hid (decide_eq_false hxy)
        clear HN HF hxy
        go_wp2_with fail
        ((with_reducible refine (equal _ _ _ _ _ _ _ _ _ _ x y _ I1.out I2.out).mono ?_); rintro e w1 ⟨rfl, hb1⟩)
        rw [HD.out]
        have HB := Lib.hid (hR.out.below hb1).2.2
        clear hR c1 c2 hb1
        go_wp2
        go_ret
        rw [HF2.out]
        exact ⟨rfl, HB.out⟩
    · obtain rfl : k = n := by omega
      have HV : Hid (decide (xs = ys) = true) := by
        refine decide_eq_true ?_
        have h := hT.out
        rwa [List.take_of_length_le (by rw [HX.out]; exact Nat.le_refl _), List.take_of_length_le (by rw [HY.out]; exact Nat.le_refl _)] at h
      have HB := Lib.hid hR.out.2.2
      clear hT hR hlt
      go_wp2
      go_ret
      rw [HV.out]
      exact ⟨rfl, HB.out⟩

end Lb
end Go.Proofs.Ytoghgliijjfppab
