/-
  Contracts of the program's chapter 32: numbers in the order of their appearance, views.
-/
import Derived.Test.YtcbhjnjallnidaaIm13
import Derived.Deep.RegionLaw
import Derived.Lib.SliceRun
import Derived.Carry
namespace Go.Proofs.Ytcbhjnjallnidaa
open Go.RowKit
namespace Im13
open Il Sl Fc Fp Pm Sp13 Nu13

def nums (xs : List Int) : List Int := (List.range xs.length).map (numAt xs)
theorem nums_len (xs : List Int) : (nums xs).length = xs.length := by unfold nums; rw [List.length_map, List.length_range]
theorem nums_at {xs : List Int} {k : Nat} (h : k < xs.length) : (nums xs).getD k 0 = numAt xs k := by
  unfold nums
  rw [List.getD_eq_getElem?_getD, List.getElem?_map, List.getElem?_range h]; rfl
/-- The number of x; x is among the numbered ones. -/
def NoPost (b : Nat) (ds : List Int) (x : Int) (w : World) (e : Ending) (w' : World) : Prop :=
  e = .returned (.int .i64 (ix x ds : Nat)) ∧ NumM w' b (addN ds x) ∧ w.grownBy w' (some b) ∧ w'.heap.size = w.heap.size
set_option maxRecDepth 20000 in
theorem numberOf (b : Nat) (ds : List Int) (x : Int) (w : World) (h : NumM w b ds) :
    Calls Try.prog 36 #[.map (some b), .int .i64 x] w (NoPost b ds x w) := by
  have hz : (zeroValue 3).run Try.prog w = .ok (.int .i64 0) w := by kernel_rfl
  have hlk := h.lookup Try.underlying54 Try.underlying3 hz x
  by_cases hm : x ∈ ds
  · have HA : Hid (addN ds x = ds) := if_pos hm
    rw [if_pos hm, decide_eq_true hm] at hlk
    have HP : Hid (NoPost b ds x w (.returned (.int .i64 (ix x ds : Nat))) w) := ⟨rfl, by rw [HA.out]; exact h, World.grownBy.refl _ _, rfl⟩
    clear h hm hz HA
    generalize ix x ds = i at *
    go_enter Try.func36, Try.ntmps36
    go_wp2
    go_ret
    exact HP.out
  · have HA : Hid (addN ds x = ds ++ [x]) := if_neg hm
    have HI := Lib.hid (ix_not hm)
    rw [if_neg hm, decide_eq_false hm] at hlk
    have hlen := fun ty => h.len Try.underlying54 ty
    obtain ⟨w2, hup, hN2, hg2, hs2⟩ := h.update Try.underlying54 Try.underlying3 hm
    have HP : Hid (NoPost b ds x w (.returned (.int .i64 (ds.length : Nat))) w2) := by
      refine ⟨by rw [HI.out], by rw [HA.out]; exact hN2, hg2, hs2⟩
    clear h hm hz hN2 hg2 hs2 HA HI
    generalize ds.length = m at *
    go_enter Try.func36, Try.ntmps36
    go_wp2
    go_ret
    exact HP.out
/-- The map of the numbered ones and the row of the numbers, the first k of xs behind us. -/
def NRel (w wr : World) (xs : List Int) (n k : Nat) : Prop :=
  Il.Own (w.heap.size + 1) (w.heap.size + 2) wr (some ⟨w.heap.size + 1, 0, none⟩) n n ((nums xs).take k ++ List.replicate (n - k) 0) ∧ NumM wr w.heap.size (dis (xs.take k)) ∧ Below w.heap.size w wr ∧ w.heap.size + 1 < wr.heap.size
theorem nrel_new (w : World) (xs : List Int) (n : Nat) (hn : n ≤ maxLen) : NRel w ((w.alloc (.map #[] 0)).alloc (.cells (madeCells #[.int .i64 0] n) 3)) xs n 0 := by
  have e : (w.alloc (.map #[] 0)).heap.size = w.heap.size + 1 := by simp
  have h := own_made (w.alloc (.map #[] 0)) 3 n hn
  rw [e] at h
  exact ⟨by simpa using h, (numM_made w).same (Below.heap_alloc _ _ _ (by simp)), ((Below.refl _ _).alloc (Nat.le_refl _) _).alloc (by simp) _, by simp⟩
section
variable {w wr w2 : World} {xs : List Int} {n k : Nat}
theorem NRel.mp (h : NRel w wr xs n k) : NumM wr w.heap.size (dis (xs.take k)) := h.2.1
theorem NRel.bel (h : NRel w wr xs n k) : Below w.heap.size w wr := h.2.2.1
theorem NRel.cell (h : NRel w wr xs n k) (hk : k < n) (hg : wr.grownBy w2 (some w.heap.size)) : (∃ v, w2.cell? ⟨w.heap.size + 1, k, none⟩ = some v) ∧ w2.frozen? ⟨w.heap.size + 1, k, none⟩ = false := by
  have ho := h.1.keep hg.size (fun b h1 h2 h3 => hg.block b h3 (by simp; omega))
  obtain ⟨b, o, e, _, _, hc⟩ := ho.1.at_ hk
  simp only [Option.some.injEq, Addr.mk.injEq, and_true] at e
  obtain ⟨rfl, rfl⟩ := e
  have hf := ho.2 (w.heap.size + 1) 0 (by omega) rfl k hk
  rw [Nat.zero_add] at hc hf
  exact ⟨⟨_, hc⟩, hf⟩
theorem NRel.step (h : NRel w wr xs n k) (hl : xs.length = n) (hk : k < n) (hg : wr.grownBy w2 (some w.heap.size)) (hN : NumM w2 w.heap.size (addN (dis (xs.take k)) (xs.getD k 0))) :
    NRel w (w2.setCell ⟨w.heap.size + 1, k, none⟩ (.int .i64 (ix (xs.getD k 0) (dis (xs.take k)) : Nat))) xs n (k + 1) := by
  have ho := h.1.keep hg.size (fun b h1 h2 h3 => hg.block b h3 (by simp; omega))
  have hs := ho.set_ hk (ix (xs.getD k 0) (dis (xs.take k)) : Nat)
  have e : ((ix (xs.getD k 0) (dis (xs.take k)) : Nat) : Int) = (nums xs).getD k 0 := by rw [nums_at (by omega)]; rfl
  rw [Nat.zero_add] at hs
  have hsz := h.2.2.2
  have hgs := hg.size
  refine ⟨?_, ?_, ?_, ?_⟩
  · rw [← own_set (by rw [nums_len]; exact hl) hk, ← e]
    exact hs
  · rw [dis_step (by omega)]
    exact hN.same (Below.heap_setCell _ _ _ _ (show w.heap.size ≠ w.heap.size + 1 by omega))
  · exact (h.2.2.1.grown hg h.2.2.1.size (fun q hq => by cases hq; exact Nat.le_refl _)).setCell (p := ⟨w.heap.size + 1, k, none⟩) (Nat.le_succ _) _
  · simp [World.setCell]; omega
theorem NRel.post (h : NRel w wr xs n n) (hl : xs.length = n) : NewInts w (nums xs) (.returned (.slice (some ⟨w.heap.size + 1, 0, none⟩) n n)) wr := by
  obtain ⟨h1, _, h2, h3⟩ := h
  have hl2 : (nums xs).length = n := by rw [nums_len, hl]
  rw [List.take_of_length_le (by omega), Nat.sub_self, List.replicate_zero, List.append_nil] at h1
  refine ⟨some ⟨w.heap.size + 1, 0, none⟩, n, by rw [hl2], ?_, h2⟩
  rw [hl2]
  exact h1.mono (by omega) (by omega)
end
set_option maxRecDepth 20000 in
set_option maxHeartbeats 1000000 in
theorem numbersOf (lo hi : Nat) (A : Option Addr) (n c : Nat) (xs : List Int) (w : World) (hx : Ints lo hi w A n c xs) (hn : n ≤ 16) :
    Calls Try.prog 27 #[.slice A n c] w (NewInts w (nums xs)) := by
  have hc1 := hx.2.2.1
  have hc2 := hx.2.1
  unfold maxLen at hc1
  have HL := Lib.hid hx.1
  have HX : Hid (∀ wr, Below w.heap.size w wr → Ints lo hi wr A n c xs) := fun wr h => hx.below h (Nat.le_refl _)
  have hmk := run_make_row' (P := Try.prog) 43 3 (.int .i64 0) 8 Try.underlying43 infoInt rfl .i64 .i64 n (by omega) (by omega)
  have HR0 := Lib.hid (nrel_new w xs n (by unfold maxLen; omega))
  have hmm := @run_makeMap Try.prog
  clear hx
  go_enter Try.func27, Try.ntmps27
  go_wp2
  clear hmk hmm
  go_loopw [5, 6, 13] (fun _ _ i wr => ∃ k : Nat, k ≤ n ∧ i = .int .i64 k ∧ Hid (NRel w wr xs n k)) (fun _ _ i _ => n - (intOf i).toNat)
  case atStart => exact ⟨0, Nat.zero_le _, rfl, HR0.out⟩
  case round =>
    obtain ⟨k, hk, rfl, hR⟩ := hrel
    clear HR0
    by_cases hlt : k < n
    · obtain ⟨b, off, rfl, _, _, c0⟩ := (HX.out _ hR.out.bel).at_ hlt
      have HST : Hid (∀ w2, wr.grownBy w2 (some w.heap.size) → NumM w2 w.heap.size (addN (dis (xs.take k)) (xs.getD k 0)) → NRel w (w2.setCell ⟨w.heap.size + 1, k, none⟩ (.int .i64 (ix (xs.getD k 0) (dis (xs.take k)) : Nat))) xs n (k + 1)) := fun w2 h1 h2 => hR.out.step HL.out hlt h1 h2
      have HCE : Hid (∀ w2, wr.grownBy w2 (some w.heap.size) → (∃ v, w2.cell? ⟨w.heap.size + 1, k, none⟩ = some v) ∧ w2.frozen? ⟨w.heap.size + 1, k, none⟩ = false) := fun w2 h => hR.out.cell hlt h
      have HM := Lib.hid hR.out.mp
      clear hR
      generalize xs.getD k 0 = x at *
      generalize dis (xs.take k) = ds at *
      go_wp2_with fail
      ((with_reducible refine (numberOf _ ds x _ HM.out).mono ?_); rintro e w2 ⟨rfl, hN, hg, hs⟩)
      have HR2 := Lib.hid (HST.out _ hg hN)
      obtain ⟨⟨v, hv⟩, hf⟩ := HCE.out _ hg
      clear HST HCE HM hN hg hs c0
      generalize ix x ds = i at *
      go_wp2
      go_roundw
      case rel => exact ⟨k + 1, by omega, by go_num, HR2.out⟩
      case measure => simp [intOf]; omega
    · obtain rfl : k = n := by omega
      have HP := Lib.hid (hR.out.post HL.out)
      clear hlt hR
      go_wp2
      go_ret
      exact HP.out
set_option maxRecDepth 20000 in
theorem cloneF (lo hi : Nat) (A : Option Addr) (n c : Nat) (xs : List Fl) (w : World) (hx : Fls lo hi w A n c xs) (hn : n ≤ 100000) :
    Calls Try.prog 26 #[.slice A n c] w (FlsPost xs w) := by
  have hl := hx.len_
  cases A with
  | none =>
    have hz : n = 0 := by
      rcases Nat.eq_zero_or_pos n with h | h
      · exact h
      · obtain ⟨b, off, e, _⟩ := hx.2.2.2 h
        cases e
    subst hz
    obtain rfl := List.eq_nil_of_length_eq_zero hl
    have HP : Hid (FlsPost [] w (.returned (.slice none 0 0)) w) := ⟨none, 0, rfl, FlsO.nil_ (Nat.zero_le _), Below.refl _ _⟩
    clear hx hn hl
    have hnil : ∀ w, (binOp .eql 23 (.slice none 0 c) (.slice none 0 0)).run Try.prog w = .ok (.bool true) w := fun w => Lib.run_eql_slice_nil w _ _ _ _ _ _ _ Try.underlying23
    go_enter Try.func26, Try.ntmps26
    go_wp2
    go_ret
    exact HP.out
  | some ad =>
    have hal : Below w.heap.size w (w.alloc (.cells #[] 28)) := (Below.refl _ _).alloc (Nat.le_refl _) _
    have HD := Lib.hid (Fc.acc_new w)
    have HR := Lib.hid (hx.below hal (Nat.le_refl _))
    clear hx hal
    have hnil : ∀ w, (binOp .eql 23 (.slice (some ad) n c) (.slice none 0 0)).run Try.prog w = .ok (.bool false) w := fun w => Lib.run_eql_slice_nil w _ _ _ _ _ _ _ Try.underlying23
    go_enter Try.func26, Try.ntmps26
    go_wp2_with (at_builtin; refine Fc.wpList_cAppL w _ _ [] HD.out _ _ _ _ _ xs HR.out (by simp only [List.length_nil]; omega) _ _ rfl rfl rfl rfl ?_; intro v5 w5 hN5 hB5; rw [List.nil_append] at hN5)
    have HP := Lib.hid hN5.post
    clear hN5 hB5
    go_wp2
    go_ret
    exact HP.out
/-- Numbers in a new row of n places. -/
def NewIntsN (n : Nat) (w : World) (xs : List Int) (e : Ending) (w' : World) : Prop :=
  ∃ A c, e = .returned (.slice A n c) ∧ Ints w.heap.size w'.heap.size w' A n c xs ∧ Below w.heap.size w w'
theorem ints_n {n : Nat} {xs : List Int} {w : World} {e : Ending} {w' : World} (h : NewInts w xs e w') (hl : xs.length = n) : NewIntsN n w xs e w' := by
  obtain ⟨A, c, h1, h2, h3⟩ := h
  subst hl
  exact ⟨A, c, h1, h2.ints, h3⟩
/-- The flows, of which the first k are numbered already. -/
def vwTo (xs : List Fl) (k : Nat) : List Fl := (viewL xs).take k ++ xs.drop k
theorem vwTo_zero (xs : List Fl) : vwTo xs 0 = xs := rfl
theorem vwTo_len {xs : List Fl} {k : Nat} (h : k ≤ xs.length) : (vwTo xs k).length = xs.length := by
  unfold vwTo
  rw [List.length_append, List.length_take, List.length_drop, view_len]; omega
theorem vwTo_all (xs : List Fl) : vwTo xs xs.length = viewL xs := by
  unfold vwTo
  rw [List.drop_length, List.append_nil, List.take_of_length_le (by rw [view_len]; exact Nat.le_refl _)]
theorem drop_fl {xs : List Fl} {k : Nat} (h : k < xs.length) : xs.drop k = flAt xs k :: xs.drop (k + 1) := by
  rw [List.drop_eq_getElem_cons h]
  have := flAt_get h
  rw [List.getElem?_eq_getElem h] at this
  rw [Option.some.inj this]
theorem vwTo_at {xs : List Fl} {k : Nat} (h : k < xs.length) : flAt (vwTo xs k) k = flAt xs k := by
  unfold vwTo
  have hl : ((viewL xs).take k).length = k := by rw [List.length_take, view_len]; omega
  rw [flAt_right (by omega), hl, Nat.sub_self, drop_fl h]; rfl
theorem vwTo_set {xs : List Fl} {k : Nat} (h : k < xs.length) : (vwTo xs k).set k (vwAt xs k) = vwTo xs (k + 1) := by
  unfold vwTo
  have hl : ((viewL xs).take k).length = k := by rw [List.length_take, view_len]; omega
  have hv : (viewL xs).take (k + 1) = (viewL xs).take k ++ [vwAt xs k] := by
    rw [List.take_add_one, flAt_get (by rw [view_len]; exact h), view_at h]; rfl
  rw [List.set_append_right _ _ (by omega), hl, Nat.sub_self, drop_fl h, List.set_cons_zero, hv, List.append_assoc]
  rfl
/-- The view's row while its names are written; nothing else turns. -/
def VwR (lo hi : Nat) (w5 wr : World) (A : Option Addr) (n c : Nat) (ys : List Fl) : Prop := FlsO lo hi wr A n c ys ∧ Kept lo hi w5 wr
theorem VwR.put {lo hi n c k : Nat} {w5 wr : World} {b off : Nat} {xs : List Fl} (h : VwR lo hi w5 wr (some ⟨b, off, none⟩) n c (vwTo xs k)) (hl : xs.length = n) (hk : k < n) {z : Int} (hz : numAt (nms xs) k = z) :
    VwR lo hi w5 (wr.setCell ⟨b, off + k * 3 + 2, none⟩ (.int .i64 z)) (some ⟨b, off, none⟩) n c (vwTo xs (k + 1)) := by
  obtain ⟨b', off', e, h1, h2, _⟩ := h.1.1.2.2.2 (by omega)
  simp only [Option.some.injEq, Addr.mk.injEq, and_true] at e
  obtain ⟨rfl, rfl⟩ := e
  have hs := h.1.set1 hk (vwAt xs k) (show 2 < 3 by omega) (v := .int .i64 z) (by rw [vwTo_at (by omega), ← hz]; rfl)
  rw [vwTo_set (by omega), ← Nat.add_assoc] at hs
  exact ⟨hs, h.2.set (p := ⟨b, off + k * 3 + 2, none⟩) h1 h2 _⟩
set_option maxRecDepth 20000 in
set_option maxHeartbeats 2000000 in
theorem ViewOf (lo hi : Nat) (A : Option Addr) (n c : Nat) (xs : List Fl) (w : World) (hx : Fls lo hi w A n c xs) :
    Calls Try.prog 12 #[.slice A n c] w (FlsPost (viewF xs) w) := by
  have HL := Lib.hid hx.len_
  have HX : Hid (∀ wr, Below w.heap.size w wr → Fls lo hi wr A n c xs) := fun wr h => hx.below h (Nat.le_refl _)
  have HX0 := Lib.hid hx
  clear hx
  cases h : flsOk xs
  · have HF := Lib.hid (viewF_no h)
    go_enter Try.func12, Try.ntmps12
    go_wp2_with fail
    ((with_reducible refine (flowsValid _ _ _ _ _ xs _ HX0.out).mono ?_); rintro e w1 ⟨rfl, hb1⟩)
    rw [h]
    have HP : Hid (FlsPost [] w (.returned (.slice (some ⟨w1.heap.size, 0, none⟩) 0 0)) (w1.alloc (.cells #[] 28))) := ⟨_, 0, rfl, FlsO.nil_ (Nat.zero_le _), hb1.alloc hb1.size _⟩
    clear h hb1
    go_wp2
    go_ret
    rw [HF.out]
    exact HP.out
  · have HF := Lib.hid (viewF_yes h)
    have h16 : n ≤ 16 := by rw [← HL.out]; exact (flsOk_iff.1 h).2
    have HNL : Hid ((nms xs).length = n) := by show _ = _; rw [nms_len, HL.out]
    go_enter Try.func12, Try.ntmps12
    go_wp2_with fail
    ((with_reducible refine (flowsValid _ _ _ _ _ xs _ HX0.out).mono ?_); rintro e w1 ⟨rfl, hb1⟩)
    rw [h]
    have X1 := Lib.hid (HX.out _ hb1)
    have HB1 := Lib.hid hb1
    clear h hb1 HX0
    go_wp2_with fail
    ((with_reducible refine (cloneF _ _ _ _ _ xs _ X1.out (by omega)).mono ?_); rintro e w2 ⟨A2, c2, rfl, ho2, hb2⟩)
    rw [HL.out] at ho2 ⊢
    have X2 := Lib.hid (X1.out.below hb2 (Nat.le_refl _))
    have O2 := Lib.hid ho2
    have HB2 := Lib.hid (HB1.out.trans (hb2.mono HB1.out.size))
    have hs12 : w.heap.size ≤ w1.heap.size := HB1.out.size
    have hcc := ho2.row_.cap_
    have hcm := ho2.row_.max_
    clear ho2 hb2 X1
    go_wp2_with fail
    (with_reducible refine (outwardNames _ _ _ _ _ xs _ X2.out h16).mono ?_)
    intro e w3 hp3
    obtain ⟨A3, c3, rfl, hi3, hb3⟩ := ints_n (n := n) hp3 HNL.out
    have O3 := Lib.hid (O2.out.below hb3 (Nat.le_refl _))
    have I3 := Lib.hid hi3
    have HB3 := Lib.hid (HB2.out.trans (hb3.mono HB2.out.size))
    have hs23 := hb3.size
    clear hp3 hi3 hb3 X2 O2
    go_wp2_with fail
    (with_reducible refine (numbersOf _ _ _ _ _ (nms xs) _ I3.out h16).mono ?_)
    intro e w5 hp5
    obtain ⟨A5, c5, rfl, hi5, hb5⟩ := ints_n (n := n) hp5 (by rw [nums_len]; exact HNL.out)
    have hs35 := hb5.size
    have HB5 := Lib.hid (HB3.out.trans (hb5.mono HB3.out.size))
    have HR0 : Hid (VwR w1.heap.size w2.heap.size w5 w5 A2 n c2 (vwTo xs 0)) := ⟨O3.out.below hb5 (Nat.le_refl _), Kept.refl _ _ _⟩
    have HI : Hid (∀ wr, Kept w1.heap.size w2.heap.size w5 wr → Ints w3.heap.size w5.heap.size wr A5 n c5 (nums (nms xs))) := fun wr h => hi5.kept h (.inr hs23)
    have HNM : Hid (∀ k, k < n → (nums (nms xs)).getD k 0 = numAt (nms xs) k) := fun k hk => nums_at (by rw [HNL.out]; exact hk)
    have hcc5 := hi5.2.1
    have hcm5 := hi5.2.2.1
    unfold maxLen at hcm5
    clear hp5 hi5 hb5 I3 O3 HB1 HB2 HB3 HX
    go_wp2
    go_loopw [4, 5, 16] (fun _ _ i wr => ∃ k : Nat, k ≤ n ∧ i = .int .i64 k ∧ Hid (VwR w1.heap.size w2.heap.size w5 wr A2 n c2 (vwTo xs k))) (fun _ _ i _ => n - (intOf i).toNat)
    case atStart => exact ⟨0, Nat.zero_le _, rfl, HR0.out⟩
    case round =>
      obtain ⟨k, hk, rfl, hR⟩ := hrel
      clear HR0
      by_cases hlt : k < n
      · obtain ⟨b5, o5, rfl, _, _, c0⟩ := (HI.out _ hR.out.2).at_ hlt
        rw [HNM.out k hlt] at c0
        obtain ⟨b2, o2, rfl, _, _, _, _, _, p2⟩ := hR.out.1.row_.at_ hlt
        obtain ⟨_, _, f2⟩ := hR.out.1.free hlt
        have HR2 : Hid (∀ z, numAt (nms xs) k = z → VwR w1.heap.size w2.heap.size w5 (wr.setCell ⟨b2, o2 + k * 3 + 2, none⟩ (.int .i64 z)) (some ⟨b2, o2, none⟩) n c2 (vwTo xs (k + 1))) := fun z hz => hR.out.put HL.out hlt hz
        clear hR
        obtain ⟨z, hz⟩ : ∃ z, numAt (nms xs) k = z := ⟨_, rfl⟩
        have HR3 := Lib.hid (HR2.out z hz)
        rw [hz] at c0
        clear HR2 hz
        generalize (flAt (vwTo xs k) k).nm = y at *
        go_wp2
        go_roundw
        case rel => exact ⟨k + 1, by omega, by go_num, HR3.out⟩
        case measure => simp [intOf]; omega
      · obtain rfl : k = n := by omega
        have HE : Hid (vwTo xs k = viewL xs) := by show _ = _; rw [← HL.out]; exact vwTo_all xs
        have HVL : Hid ((viewL xs).length = k) := by show _ = _; rw [view_len, HL.out]
        have HP : Hid (FlsPost (viewL xs) w (.returned (.slice A2 k c2)) wr) := by
          have h1 := hR.out.1
          have hk5 := hR.out.2
          rw [HE.out] at h1
          refine ⟨A2, c2, by rw [HVL.out], ?_, HB5.out.trans (hk5.below hs12)⟩
          rw [HVL.out]
          refine h1.mono hs12 ?_
          have e2 := hk5.size
          omega
        clear hlt hR HI HNM
        go_wp2
        go_ret
        rw [HF.out]
        exact HP.out
end Im13
end Go.Proofs.Ytcbhjnjallnidaa
