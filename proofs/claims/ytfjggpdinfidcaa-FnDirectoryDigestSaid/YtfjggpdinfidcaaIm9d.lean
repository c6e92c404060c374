/-
  Contracts of the program's chapter 21: places at points, sums of weights.
-/
import Derived.Test.YtfjggpdinfidcaaIm9c
import Derived.BigRegion
namespace Go.Proofs.Ytfjggpdinfidcaa
open Go.RowKit Go.Shelf
namespace Im9
open Il Sl Gm Cm Ec Dm Sp9 Sg
attribute [local go_sem] Oper.semAt_some

/-- Weights as a valid directory has them. -/
def WN (es : List En) : Prop := es.length ≤ 6 ∧ ∀ k, 0 ≤ (enAt es k).wt ∧ (enAt es k).wt ≤ 9
theorem WN.nn {es : List En} (h : WN es) : NN es := fun k => (h.2 k).1
theorem WN.wb {es : List En} (h : WN es) : WB es := ⟨by have := h.1; omega, fun k => by have := h.2 k; omega⟩
theorem wn_of {ep : Int} {es : List En} (h : dirOk ep es = true) : WN es := by
  obtain ⟨h1, _, h3⟩ := dirOk_iff.1 h
  refine ⟨h3, fun k => ?_⟩
  rcases Nat.lt_or_ge k es.length with hk | hk
  · have := (okE_iff.1 (ok_ix h1 hk)).2.2; omega
  · unfold enAt
    rw [List.getD_eq_getElem?_getD, List.getElem?_eq_none hk]
    decide
theorem wn_rest {es : List En} (h : WN es) (ch : List Int) : WN (restOf es ch) := by
  refine ⟨Nat.le_trans (rest_le es ch) h.1, fun k => ?_⟩
  rcases Nat.lt_or_ge k (restOf es ch).length with hk | hk
  · have := enAt_mem hk
    unfold restOf at this
    obtain ⟨i, _, hi⟩ := List.mem_map.1 this
    unfold restOf
    rw [← hi]; exact h.2 i
  · unfold enAt
    rw [List.getD_eq_getElem?_getD, List.getElem?_eq_none hk]
    decide
theorem grown_drew {w w' : World} {r : Option Nat} (h : w.grownBy w' r) : w.grownBy w'.drew r := ⟨h.os, h.tape, h.output, h.size, h.block⟩
theorem has_nil (k : Nat) : has [] k = false := rfl

set_option maxRecDepth 20000 in
theorem endsAt (x : En) (b : Nat) (l : Int) (w : World) (hb : Boxed w b 77 (.int .i64 l)) (h0 : 0 ≤ l) (h1 : l ≤ 9223372036854775807) (hx : 0 ≤ x.wt ∧ x.wt ≤ 9) :
    Calls Try.prog 67 #[.pointer (some ⟨b, 0, none⟩), .agg #[.int .i64 x.nm, .int .i64 x.pu, .int .i64 x.wt]] w fun e w' => e = .returned (.bool (decide (l - x.wt < 0))) ∧ Boxed w' b 77 (.int .i64 (l - x.wt)) ∧ w.grownBy w' (some b) := by
  obtain ⟨hx0, hx1⟩ := hx
  have hwr : IntKind.i64.wrap (l - x.wt) = l - x.wt := IntWalk.i64_in _ (by omega)
  have HB : Hid (∀ d, Boxed (((w.setCell ⟨b, 0, none⟩ (.int .i64 (l - x.wt))).alloc (.cells #[.int .i64 x.nm, .int .i64 x.pu, .int .i64 x.wt] 31)).drewN d) b 77 (.int .i64 (l - x.wt))) := fun _ => (hb.set (.int .i64 (l - x.wt))).alloc (.cells #[.int .i64 x.nm, .int .i64 x.pu, .int .i64 x.wt] 31)
  have hG := Lib.hid (grown_box (w := w) (b := b) (.cells #[.int .i64 x.nm, .int .i64 x.pu, .int .i64 x.wt] 31) (.int .i64 (l - x.wt)))
  have hlt := hb.lt
  have hcb := hb.cell
  have hfb := hb.frozen
  have hne : ¬ b = w.heap.size := by omega
  clear hb
  by_cases hle : l - x.wt < 0
  · rw [decide_eq_true hle]
    have hle' : decide (l - x.wt < 0) = true := decide_eq_true hle
    clear hle
    go_enter Try.func67, Try.ntmps67
    go_wp2
    go_region
    go_wp2
    go_ret
    exact ⟨rfl, HB.out 1, grown_drew hG.out⟩
  · rw [decide_eq_false hle]
    have hle' : decide (l - x.wt < 0) = false := decide_eq_false hle
    clear hle
    go_enter Try.func67, Try.ntmps67
    go_wp2
    go_region
    go_wp2
    go_ret
    exact ⟨rfl, HB.out 1, grown_drew hG.out⟩

/-- What a search at a point keeps: the entries, and what is left of the point in the box behind them. -/
def PSt (lo : Nat) (w : World) (A : Option Addr) (n k : Nat) (es : List En) (l : Int) (W : World) : Prop :=
  Ens lo w.heap.size W A n k es ∧ Below w.heap.size w W ∧ Boxed W w.heap.size 77 (.int .i64 l)
/-- The point falls behind the places up to k. -/
def past (es : List En) (p : Int) (k : Nat) : Bool := decide (p - wtTo [] es (k + 1) < 0)
theorem wtTo_one (es : List En) (k : Nat) : wtTo [] es (k + 1) = wtTo [] es k + (enAt es k).wt := by rw [wtTo_next, wtI_no (has_nil k)]
theorem past_left {es : List En} {p : Int} (h0 : 0 ≤ p) {k : Nat} (h : ∀ i, i < k → past es p i = false) : 0 ≤ p - wtTo [] es k := by
  cases k with
  | zero => show 0 ≤ p - 0; omega
  | succ k =>
    have := h k (Nat.lt_succ_self k)
    unfold past at this
    rw [decide_eq_false_iff_not] at this
    omega
theorem past_at {es : List En} (hn : NN es) {p : Int} (h0 : 0 ≤ p) {k : Nat} (hk : k < es.length) (h : ∀ i, i < k → past es p i = false) (h2 : past es p k = true) : pickL [] es p = (k : Int) := by
  have h1 := past_left h0 h
  unfold past at h2
  rw [decide_eq_true_eq] at h2
  exact falls_one hn (pickL_falls hn h0) (.inr ⟨k, hk, rfl, by omega, by omega⟩)
theorem past_none {es : List En} (hn : NN es) {p : Int} (h0 : 0 ≤ p) (h : ∀ i, i < es.length → past es p i = false) : pickL [] es p = -1 := by
  have h1 := past_left h0 h
  exact falls_one hn (pickL_falls hn h0) (.inl ⟨rfl, by show wtTo [] es es.length ≤ p; omega⟩)
theorem eg67 : ∀ args w, (callFunc 67 args).run Try.prog w = .ok (.enter 67 args) w := enters_of Try.func67 (by kernel_rfl) rfl
theorem atPoint (lo : Nat) (A : Option Addr) (n k : Nat) (es : List En) (p : Int) (w W : World) (h : PSt lo w A n k es p W) (hw : WN es) (h0 : 0 ≤ p) (h1 : p ≤ 9223372036854775807) :
    Calls Try.prog 62 #[.slice A n k, .func (.func 67) #[.pointer (some ⟨w.heap.size, 0, none⟩)] #[]] W (IxPost n (past es p) (fun i => PSt lo w A n k es (p - wtTo [] es i))) :=
  indexFunc 67 #[.pointer (some ⟨w.heap.size, 0, none⟩)] A n k lo w.heap.size es W (fun i => PSt lo w A n k es (p - wtTo [] es i)) (past es p) h.1.cap_ h.1.max_ eg67 (fun _ _ h => h.1) (by
      show PSt lo w A n k es (p - 0) W
      rw [Int.sub_zero]; exact h)
    fun j V _ hV hT => by
      have hl := past_left h0 hT
      have hb : wtTo [] es j ≥ 0 := wtTo_nn hw.nn j
      refine (endsAt (enAt es j) _ _ V hV.2.2 hl (by omega) (hw.2 j)).mono fun _ _ ⟨he, hb, hg⟩ => ⟨?_, ?_⟩
      · rw [he]
        unfold past
        rw [wtTo_one, Int.sub_sub]
      · show PSt lo w A n k es (p - wtTo [] es (j + 1)) _
        rw [wtTo_one, ← Int.sub_sub]
        exact ⟨hV.1.grown hg fun z hz => by cases hz; exact .inr (Nat.le_refl _), hV.2.1.grown hg hV.2.1.size fun z hz => by cases hz; exact Nat.le_refl _, hb⟩
set_option maxRecDepth 20000 in
theorem entryAt (es : List En) (p : Int) (A : Option Addr) (n k lo hi : Nat) (w : World) (hx : Ens lo hi w A n k es) (hw : WN es) (h0 : 0 ≤ p) (h1 : p ≤ 9223372036854775807) :
    Calls Try.prog 57 #[.slice A n k, .int .i64 p] w (IntB (pickL [] es p) w) := by
  have HL := Lib.hid hx.len_
  have HW := Lib.hid hw
  have ha : Below w.heap.size w (w.alloc (.cells #[.int .i64 p] 77)) := (Below.refl _ _).alloc (Nat.le_refl _) _
  have HP : Hid (PSt lo w A n k es p (w.alloc (.cells #[.int .i64 p] 77))) := ⟨(hx.top (Nat.le_refl lo)).below ha (Nat.le_refl _), ha, Boxed.new _ _ _⟩
  clear hx ha hw
  go_enter Try.func57, Try.ntmps57
  go_wp2_with fail
  (with_reducible refine (atPoint lo A n k es p w _ HP.out HW.out h0 h1).mono ?_)
  rintro e w1 (⟨rfl, h1, h2⟩ | ⟨j, h1, rfl, h2, h3, h4⟩)
  · have HF := Lib.hid (past_none HW.out.nn h0 fun i hi => h1 i (by rw [← HL.out]; exact hi))
    have HB := Lib.hid h2.2.1
    clear h1 h2
    go_wp2
    go_ret
    rw [HF.out]
    exact ⟨rfl, HB.out⟩
  · have HF := Lib.hid (past_at HW.out.nn h0 (by rw [HL.out]; exact h1) h3 h2)
    have HB := Lib.hid h4.2.1
    clear h1 h2 h3 h4
    go_wp2
    go_ret
    rw [HF.out]
    exact ⟨rfl, HB.out⟩
set_option maxRecDepth 20000 in
set_option maxHeartbeats 2000000 in
theorem sumOfWeights (es : List En) (A : Option Addr) (n k lo hi : Nat) (w : World) (hx : Ens lo hi w A n k es) (hw : WB es) :
    Calls Try.prog 60 #[.slice A n k] w (IntB (wtL [] es) w) := by
  have HW := Lib.hid hw
  have HL := Lib.hid hx.len_
  have hn : n ≤ 100 := by rw [← hx.len_]; exact hw.1
  have HX := Lib.hid hx
  clear hx hw
  go_enter Try.func60, Try.ntmps60
  go_wp2
  go_loopw [3, 5, 8] (fun t _ i wr => ∃ j : Nat, j ≤ n ∧ i = .int .i64 j ∧ t = .int .i64 (wtTo [] es j) ∧ Hid (Below w.heap.size w wr)) (fun _ _ i _ => n - (intOf i).toNat)
  case atStart => exact ⟨0, Nat.zero_le _, rfl, rfl, Below.refl _ _⟩
  case round =>
    obtain ⟨j, hj, rfl, rfl, hR⟩ := hrel
    obtain ⟨hb1, hb2⟩ := wtTo_bd HW.out [] j
    by_cases hlt : j < n
    · obtain ⟨b, off, rfl, _, _, hbz, c0, c1, c2⟩ := (HX.out.below hR.out (Nat.le_refl _)).at_ hlt
      have HN : Hid (wtTo [] es (j + 1) = wtTo [] es j + (enAt es j).wt) := wtTo_one es j
      obtain ⟨q1, q2⟩ := HW.out.2 j
      have HR := Lib.hid (hR.out.alloc hR.out.size (.cells #[.int .i64 (enAt es j).nm, .int .i64 (enAt es j).pu, .int .i64 (enAt es j).wt] 31))
      clear hR
      generalize enAt es j = x at *
      generalize wtTo [] es j = t at *
      go_wp2
      go_roundw
      case rel => exact ⟨j + 1, by omega, by go_num, by rw [HN.out], HR.out⟩
      case measure => simp [intOf]; omega
    · obtain rfl : j = n := by omega
      have hfin : wtTo [] es j = wtL [] es := by rw [← HL.out]; rfl
      rw [hfin]
      have HB := Lib.hid hR.out
      clear hfin hb1 hb2 hR
      go_wp2
      go_ret
      exact ⟨rfl, HB.out⟩
set_option maxRecDepth 20000 in
theorem DirectoryPick (ep p : Int) (es : List En) (A : Option Addr) (n k lo hi : Nat) (w : World) (hx : Ens lo hi w A n k es) (hp1 : p ≤ 9223372036854775807) :
    Calls Try.prog 26 #[.agg #[.int .i64 ep, .slice A n k], .int .i64 p] w (IntB (pickF ep es p) w) := by
  have HR0 := Lib.hid (drel_new hx ep)
  clear hx
  obtain ⟨z0, z1, zf⟩ := HR0.out.box.cells
  go_enter Try.func26, Try.ntmps26
  go_wp2_with fail
  ((with_reducible refine (DirectoryValid ep es _ _ _ _ _ _ HR0.out.ens).mono ?_); rintro e w1 ⟨rfl, hb⟩)
  have HR1 := Lib.hid (HR0.out.below hb)
  clear hb z0 z1 zf HR0
  obtain ⟨z0, z1, zf⟩ := HR1.out.box.cells
  cases hd : dirOk ep es
  · have HV : Hid (pickF ep es p = -1) := by show _ = _; unfold pickF; rw [hd]; rfl
    go_wp2
    go_ret
    rw [HV.out]
    exact ⟨rfl, HR1.out.bel⟩
  · by_cases hp0 : 0 ≤ p
    · have HV : Hid (pickF ep es p = pickL [] es p) := by show _ = _; unfold pickF; rw [hd, decide_eq_true hp0]; rfl
      have d0 : decide (p < 0) = false := by simp; omega
      have HD := Lib.hid (wn_of hd)
      clear hd
      go_wp2_with fail
      ((with_reducible refine (entryAt es p _ _ _ _ _ _ HR1.out.ens HD.out hp0 hp1).mono ?_); rintro e w2 ⟨rfl, hb⟩)
      have HR2 := Lib.hid (HR1.out.below hb)
      clear hb z0 z1 zf HR1
      go_wp2
      go_ret
      rw [HV.out]
      exact ⟨rfl, HR2.out.bel⟩
    · have HV : Hid (pickF ep es p = -1) := by show _ = _; unfold pickF; rw [decide_eq_false hp0, Bool.and_false]; rfl
      have d0 : decide (p < 0) = true := by simp; omega
      go_wp2
      go_ret
      rw [HV.out]
      exact ⟨rfl, HR1.out.bel⟩

end Im9
end Go.Proofs.Ytfjggpdinfidcaa
