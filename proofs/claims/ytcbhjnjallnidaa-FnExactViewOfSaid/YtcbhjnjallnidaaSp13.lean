/-
  Contracts on flows: two lists compared; the model's chapter 32.
-/
import Derived.Test.YtcbhjnjallnidaaFp
import Derived.Test.YtcbhjnjallnidaaSp2
import Derived.Test.YtcbhjnjallnidaaIla
import Derived.Test.YtcbhjnjallnidaaHlp
import Derived.Laws.StructEq
import Derived.Deep.RegionLaw
namespace Go.Proofs.Ytcbhjnjallnidaa
open Go.RowKit
namespace Sp13
open Il Sl Fc Fp Pm

/-- Two lists of flows while they are compared. -/
def SRel (l1 h1 l2 h2 : Nat) (w wr : World) (A B : Option Addr) (n c m d : Nat) (xs ys : List Fl) : Prop := Fls l1 h1 wr A n c xs ∧ Fls l2 h2 wr B m d ys ∧ ∃ q, wr = w.drewN q
theorem SRel.dn {l1 h1 l2 h2 : Nat} {w wr : World} {A B : Option Addr} {n c m d : Nat} {xs ys : List Fl} (h : SRel l1 h1 l2 h2 w wr A B n c m d xs ys) (p : Nat) : SRel l1 h1 l2 h2 w (wr.drewN p) A B n c m d xs ys := by
  obtain ⟨r1, r2, q, r3⟩ := h
  exact ⟨r1, r2, q + p, by rw [r3, World.drewN_drewN]⟩
theorem bd {K d : Nat} {w w' : World} (h : Below K w w') : Below K w (w'.drewN d) := ⟨h.os, h.tape, h.output, h.size, h.block⟩
set_option maxRecDepth 20000 in
set_option maxHeartbeats 2000000 in
theorem sameFlows (l1 h1 l2 h2 : Nat) (A B : Option Addr) (n c m d : Nat) (xs ys : List Fl) (w : World) (hx : Fls l1 h1 w A n c xs) (hy : Fls l2 h2 w B m d ys) :
    Calls Try.prog 14 #[.slice A n c, .slice B m d] w (BoolPost (decide (xs = ys)) w) := by
  have HX := Lib.hid hx.len_
  have HY := Lib.hid hy.len_
  have hc1 := hx.max_
  have hc2 := hx.cap_
  by_cases hnm : n = m
  case neg =>
    have HV : Hid (decide (xs = ys) = false) := decide_eq_false fun e => hnm (by rw [← HX.out, ← HY.out, e])
    have hne : ((n : Int) != (m : Int)) = true := by simpa using (by omega : ¬ (n : Int) = m)
    rw [HV.out]
    clear hx hy hnm
    go_enter Try.func14, Try.ntmps14
    go_wp2
    go_ret
    exact ⟨rfl, 0, rfl⟩
  subst hnm
  have hd1 := hy.cap_
  have HR0 : Hid (SRel l1 h1 l2 h2 w w A B n c n d xs ys) := ⟨hx, hy, 0, rfl⟩
  clear hx hy
  go_enter Try.func14, Try.ntmps14
  go_wp2
  go_loopw [5] (fun i wr => ∃ k : Nat, k ≤ n ∧ i = .int .i64 k ∧ Hid (xs.take k = ys.take k) ∧ Hid (SRel l1 h1 l2 h2 w wr A B n c n d xs ys)) (fun i _ => n - (intOf i).toNat)
  case atStart => exact ⟨0, Nat.zero_le _, rfl, rfl, HR0.out⟩
  case round =>
    obtain ⟨k, hk, rfl, hT, hR⟩ := hrel
    clear HR0
    by_cases hlt : k < n
    · obtain ⟨b, off, rfl, _, _, _, p0, p1, p2⟩ := hR.out.1.at_ hlt
      obtain ⟨b2, off2, rfl, _, _, _, q0, q1, q2⟩ := hR.out.2.1.at_ hlt
      have HN : Hid (flAt xs k = flAt ys k → xs.take (k + 1) = ys.take (k + 1)) := fun h => by
        have hh := hT.out
        rw [fl_take (by rw [HX.out]; exact hlt), fl_take (by rw [HY.out]; exact hlt), hh, h]
      have HF : Hid (flAt xs k ≠ flAt ys k → decide (xs = ys) = false) := fun h => decide_eq_false fun e => h (by rw [e])
      clear hT
      generalize flAt xs k = x at *
      generalize flAt ys k = y at *
      obtain ⟨x0, x1, x2⟩ := x
      obtain ⟨y0, y1, y2⟩ := y
      dsimp only at p0 p1 p2 q0 q1 q2
      have HR2 : Hid (∀ q, SRel l1 h1 l2 h2 w (wr.drewN q) (some ⟨b, off, none⟩) (some ⟨b2, off2, none⟩) n c n d xs ys) := fun q => hR.out.dn q
      clear hR
      by_cases hxy : x0 = y0 ∧ x1 = y1 ∧ x2 = y2
      · have HN2 := Lib.hid (HN.out (by obtain ⟨rfl, rfl, rfl⟩ := hxy; rfl))
        clear HN HF
        obtain ⟨rfl, rfl, rfl⟩ := hxy
        go_wp2
        go_quiet (fail)
        clear p0 p1 p2 q0 q1 q2
        go_wp2
        go_roundw
        case rel => exact ⟨k + 1, by omega, by go_num, HN2.out, HR2.out _⟩
        case measure => simp [intOf]; omega
      · have HF2 := Lib.hid (HF.out (fun e => hxy (by cases e; exact ⟨rfl, rfl, rfl⟩)))
        clear HN HF
        cases d0 : (x0 == y0)
        · go_wp2
          go_quiet (fail)
          clear p0 p1 p2 q0 q1 q2
          go_wp2
          go_ret
          rw [HF2.out]
          exact ⟨rfl, (HR2.out _).2.2⟩
        · cases d1 : (x1 == y1)
          · go_wp2
            go_quiet (fail)
            clear p0 p1 p2 q0 q1 q2
            go_wp2
            go_ret
            rw [HF2.out]
            exact ⟨rfl, (HR2.out _).2.2⟩
          · have d2 : (x2 == y2) = false := by
              cases d2 : (x2 == y2)
              · rfl
              · exact absurd ⟨by simpa using d0, by simpa using d1, by simpa using d2⟩ hxy
            go_wp2
            go_quiet (fail)
            clear p0 p1 p2 q0 q1 q2
            go_wp2
            go_ret
            rw [HF2.out]
            exact ⟨rfl, (HR2.out _).2.2⟩
    · obtain rfl : k = n := by omega
      have HV : Hid (decide (xs = ys) = true) := by
        refine decide_eq_true ?_
        have h := hT.out
        rwa [List.take_of_length_le (by rw [HX.out]; exact Nat.le_refl _), List.take_of_length_le (by rw [HY.out]; exact Nat.le_refl _)] at h
      have HR2 := Lib.hid hR.out.2.2
      clear hT hR hlt
      go_wp2
      go_ret
      rw [HV.out]
      exact ⟨rfl, HR2.out⟩
set_option maxRecDepth 20000 in
set_option maxHeartbeats 2000000 in
theorem equalF (l1 h1 l2 h2 : Nat) (A B : Option Addr) (n c m d : Nat) (xs ys : List Fl) (w : World) (hx : Fls l1 h1 w A n c xs) (hy : Fls l2 h2 w B m d ys) :
    Calls Try.prog 31 #[.slice A n c, .slice B m d] w (BoolPost (decide (xs = ys)) w) := by
  have HX := Lib.hid hx.len_
  have HY := Lib.hid hy.len_
  have hc1 := hx.max_
  have hc2 := hx.cap_
  by_cases hnm : n = m
  case neg =>
    have HV : Hid (decide (xs = ys) = false) := decide_eq_false fun e => hnm (by rw [← HX.out, ← HY.out, e])
    have hne : ((n : Int) != (m : Int)) = true := by simpa using (by omega : ¬ (n : Int) = m)
    rw [HV.out]
    clear hx hy hnm
    go_enter Try.func31, Try.ntmps31
    go_wp2
    go_ret
    exact ⟨rfl, 0, rfl⟩
  subst hnm
  have hd1 := hy.cap_
  have HR0 : Hid (SRel l1 h1 l2 h2 w w A B n c n d xs ys) := ⟨hx, hy, 0, rfl⟩
  clear hx hy
  go_enter Try.func31, Try.ntmps31
  go_wp2
  go_loopw [5, 13] (fun _ i wr => ∃ k : Nat, k ≤ n ∧ i = .int .i64 k ∧ Hid (xs.take k = ys.take k) ∧ Hid (SRel l1 h1 l2 h2 w wr A B n c n d xs ys)) (fun _ i _ => n - (intOf i).toNat)
  case atStart => exact ⟨0, Nat.zero_le _, rfl, rfl, HR0.out⟩
  case round =>
    obtain ⟨k, hk, rfl, hT, hR⟩ := hrel
    clear HR0
    by_cases hlt : k < n
    · obtain ⟨b, off, rfl, _, _, _, p0, p1, p2⟩ := hR.out.1.at_ hlt
      obtain ⟨b2, off2, rfl, _, _, _, q0, q1, q2⟩ := hR.out.2.1.at_ hlt
      have HN : Hid (flAt xs k = flAt ys k → xs.take (k + 1) = ys.take (k + 1)) := fun h => by
        have hh := hT.out
        rw [fl_take (by rw [HX.out]; exact hlt), fl_take (by rw [HY.out]; exact hlt), hh, h]
      have HF : Hid (flAt xs k ≠ flAt ys k → decide (xs = ys) = false) := fun h => decide_eq_false fun e => h (by rw [e])
      clear hT
      generalize flAt xs k = x at *
      generalize flAt ys k = y at *
      obtain ⟨x0, x1, x2⟩ := x
      obtain ⟨y0, y1, y2⟩ := y
      dsimp only at p0 p1 p2 q0 q1 q2
      have HR2 : Hid (∀ q, SRel l1 h1 l2 h2 w (wr.drewN q) (some ⟨b, off, none⟩) (some ⟨b2, off2, none⟩) n c n d xs ys) := fun q => hR.out.dn q
      clear hR
      by_cases hxy : x0 = y0 ∧ x1 = y1 ∧ x2 = y2
      · have HN2 := Lib.hid (HN.out (by obtain ⟨rfl, rfl, rfl⟩ := hxy; rfl))
        clear HN HF
        obtain ⟨rfl, rfl, rfl⟩ := hxy
        go_wp2
        go_quiet (fail)
        clear p0 p1 p2 q0 q1 q2
        go_wp2
        go_roundw
        case rel => exact ⟨k + 1, by omega, by go_num, HN2.out, HR2.out _⟩
        case measure => simp [intOf]; omega
      · have HF2 := Lib.hid (HF.out (fun e => hxy (by cases e; exact ⟨rfl, rfl, rfl⟩)))
        clear HN HF
        cases d0 : (x0 == y0)
        · go_wp2
          go_quiet (fail)
          clear p0 p1 p2 q0 q1 q2
          go_wp2
          go_ret
          rw [HF2.out]
          exact ⟨rfl, (HR2.out _).2.2⟩
        · cases d1 : (x1 == y1)
          · go_wp2
            go_quiet (fail)
            clear p0 p1 p2 q0 q1 q2
            go_wp2
            go_ret
            rw [HF2.out]
            exact ⟨rfl, (HR2.out _).2.2⟩
          · have d2 : (x2 == y2) = false := by
              cases d2 : (x2 == y2)
              · rfl
              · exact absurd ⟨by simpa using d0, by simpa using d1, by simpa using d2⟩ hxy
            go_wp2
            go_quiet (fail)
            clear p0 p1 p2 q0 q1 q2
            go_wp2
            go_ret
            rw [HF2.out]
            exact ⟨rfl, (HR2.out _).2.2⟩
    · obtain rfl : k = n := by omega
      have HV : Hid (decide (xs = ys) = true) := by
        refine decide_eq_true ?_
        have h := hT.out
        rwa [List.take_of_length_le (by rw [HX.out]; exact Nat.le_refl _), List.take_of_length_le (by rw [HY.out]; exact Nat.le_refl _)] at h
      have HR2 := Lib.hid hR.out.2.2
      clear hT hR hlt
      go_wp2
      go_ret
      rw [HV.out]
      exact ⟨rfl, HR2.out⟩
set_option maxRecDepth 20000 in
set_option maxHeartbeats 1000000 in
theorem l32Flows (lo hi : Nat) (A : Option Addr) (n c : Nat) (xs : List Fl) (w : World) (hx : Fls lo hi w A n c xs) :
    Calls Try.prog 29 #[.slice A n c] w fun e w' => e = .returned (.bool (flsOk xs)) ∧ w = w' := by
  have hc1 := hx.max_
  have hc2 := hx.cap_
  have HL := Lib.hid hx.len_
  have HX := Lib.hid hx
  clear hx
  go_enter Try.func29, Try.ntmps29
  go_wp2
  go_loop [3] (fun i => ∃ k : Nat, k ≤ n ∧ i = .int .i64 k ∧ Hid (okTo xs k)) (fun i => n - (intOf i).toNat)
  case atStart => exact ⟨0, Nat.zero_le _, rfl, okTo_zero _⟩
  case round =>
    obtain ⟨k, hk, rfl, hT⟩ := hrel
    by_cases hlt : k < n
    · have hkl : k < xs.length := by rw [HL.out]; exact hlt
      obtain ⟨b, off, rfl, _, _, _, c0, c1, c2⟩ := HX.out.at_ hlt
      have HBAD : Hid (flOk (flAt xs k) = false → flsOk xs = false) := flsOk_bad hkl
      have HGOOD : Hid (flOk (flAt xs k) = true → okTo xs (k + 1)) := okTo_succ hT.out
      clear hT hkl
      generalize flAt xs k = f at *
      obtain ⟨f0, f1, f2⟩ := f
      dsimp only at c0 c1 c2
      cases h0 : decide (-1 ≤ f0 ∧ f0 ≤ 7)
      · have HF := Lib.hid (HBAD.out (flOk_fr h0))
        go_wp2_with fail
        ((with_reducible refine (Sp2.l6In f0 (-1) 7 w).mono ?_); rintro e w' ⟨rfl, rfl⟩)
        rw [h0]
        clear h0
        go_wp2
        go_ret
        rw [HF.out]
        exact ⟨rfl, rfl⟩
      go_wp2_with fail
      ((with_reducible refine (Sp2.l6In f0 (-1) 7 w).mono ?_); rintro e w' ⟨rfl, rfl⟩)
      rw [h0]
      cases h1 : decide (-1 ≤ f1 ∧ f1 ≤ 7)
      · have HF := Lib.hid (HBAD.out (flOk_to h1))
        go_wp2_with fail
        ((with_reducible refine (Sp2.l6In f1 (-1) 7 w).mono ?_); rintro e w' ⟨rfl, rfl⟩)
        rw [h1]
        clear h0 h1
        go_wp2
        go_ret
        rw [HF.out]
        exact ⟨rfl, rfl⟩
      go_wp2_with fail
      ((with_reducible refine (Sp2.l6In f1 (-1) 7 w).mono ?_); rintro e w' ⟨rfl, rfl⟩)
      rw [h1]
      cases h2 : decide (0 ≤ f2)
      · have HF := Lib.hid (HBAD.out (flOk_nm h2))
        have h3 : decide (f2 < 0) = true := by
          rw [decide_eq_false_iff_not] at h2
          exact decide_eq_true (by omega)
        clear h0 h1 h2
        go_wp2
        go_ret
        rw [HF.out]
        exact ⟨rfl, rfl⟩
      have HG := Lib.hid (HGOOD.out (flOk_yes h0 h1 h2))
      have h3 : decide (f2 < 0) = false := by
        rw [decide_eq_true_eq] at h2
        exact decide_eq_false (by omega)
      clear h0 h1 h2
      go_wp2
      go_round
      case rel => exact ⟨k + 1, by omega, by go_num, HG.out⟩
      case measure => simp [intOf]; omega
    · obtain rfl : k = n := by omega
      clear hlt
      by_cases h16 : k ≤ 16
      · have HF : Hid (flsOk xs = true) := flsOk_all (by rw [HL.out]; exact hT.out) (by rw [HL.out]; exact h16)
        have d16 : decide ((k : Int) ≤ 16) = true := by simp; omega
        clear h16 hT
        go_wp2
        go_ret
        rw [HF.out]
        exact ⟨rfl, rfl⟩
      · have HF : Hid (flsOk xs = false) := flsOk_long (by rw [HL.out]; exact h16)
        have d16 : decide ((k : Int) ≤ 16) = false := by simp; omega
        clear h16 hT
        go_wp2
        go_ret
        rw [HF.out]
        exact ⟨rfl, rfl⟩
/-- The names that were found and the flows that were made, in two rows of the call's own. -/
def VRel (w wr : World) (g1 g2 : Nat) (v1 v2 : Value) (ns : List Int) (out : List Fl) : Prop :=
  Below w.heap.size w wr ∧ g1 ≠ g2 ∧ w.heap.size ≤ g1 ∧ w.heap.size ≤ g2 ∧ AccB g1 wr v1 ns ∧ Gat g2 wr v2 out
section
variable {w wr w2 : World} {g1 g2 : Nat} {v1 v2 : Value} {ns : List Int} {out : List Fl}
theorem VRel.bel (h : VRel w wr g1 g2 v1 v2 ns out) : Below w.heap.size w wr := h.1
theorem VRel.dr (h : VRel w wr g1 g2 v1 v2 ns out) (q : Nat) : VRel w (wr.drewN q) g1 g2 v1 v2 ns out := by
  obtain ⟨h1, h2, h3, h4, h5, h6⟩ := h
  refine ⟨bd h1, h2, h3, h4, ?_, h6.block rfl⟩
  exact h5.keep (row := none) ⟨rfl, rfl, rfl, Nat.le_refl _, fun _ _ _ => rfl⟩ (by simp)
theorem VRel.ns_ {cap : Nat} (h : VRel w wr g1 g2 (.slice (some ⟨g1, 0, none⟩) ns.length cap) v2 ns out) : Ints g1 (g1 + 1) wr (some ⟨g1, 0, none⟩) ns.length cap ns := by
  obtain ⟨cap', e, ho⟩ := h.2.2.2.2.1.own
  simp only [Value.slice.injEq, true_and] at e
  rw [e]; exact ho.ints
theorem VRel.name (h : VRel w wr g1 g2 v1 v2 ns out) {g : Nat} {v : Value} {x : Int} (ha : AccB g w2 v (ns ++ [x])) (hg : g = g1 ∨ wr.heap.size < g) (hgr : wr.grownBy w2 (some g1)) : VRel w w2 g g2 v v2 (ns ++ [x]) out := by
  obtain ⟨h1, h2, h3, h4, h5, h6⟩ := h
  have := h6.lt
  have := h1.size
  exact ⟨h1.grown hgr h1.size (fun k hk => by cases hk; exact h3), by omega, by omega, h4, ha, h6.block (hgr.block g2 h6.lt (by simp; omega))⟩
theorem VRel.flow (h : VRel w wr g1 g2 v1 v2 ns out) {g : Nat} {v : Value} {x : Fl} (ha : Gat g w2 v (out ++ [x])) (hg : g = g2 ∨ wr.heap.size ≤ g) (hgr : wr.grownBy w2 (some g2)) : VRel w w2 g1 g v1 v ns (out ++ [x]) := by
  obtain ⟨h1, h2, h3, h4, h5, h6⟩ := h
  have := h5.lt
  have := h1.size
  exact ⟨h1.grown hgr h1.size (fun k hk => by cases hk; exact h4), by omega, h3, by omega, h5.keep hgr (by simp; omega), ha⟩
theorem VRel.post (h : VRel w wr g1 g2 v1 v2 ns out) : FlsPost out w (.returned v2) wr := by
  obtain ⟨h1, h2, h3, h4, h5, h6⟩ := h
  obtain ⟨A, c, rfl, ho⟩ := h6.own
  have := h6.lt
  exact ⟨A, c, rfl, ho.mono (by omega) (by omega), h1⟩
end
theorem vrel_new (w : World) : VRel w ((w.alloc (.cells #[] 3)).alloc (.cells #[] 28)) w.heap.size (w.heap.size + 1) (.slice (some ⟨w.heap.size, 0, none⟩) 0 0) (.slice (some ⟨w.heap.size + 1, 0, none⟩) 0 0) [] [] := by
  have e : (w.alloc (.cells #[] 3)).heap.size = w.heap.size + 1 := by simp
  have h := gat_new (w.alloc (.cells #[] 3))
  rw [e] at h
  exact ⟨((Below.refl _ _).alloc (Nat.le_refl _) _).alloc (by simp) _, by omega, Nat.le_refl _, by omega, (accB_new w).alloc _, h⟩
section
variable {o : Oper} {a : Act} {Q : Exit → Act → World → Prop} {K : Act → World → Prop}
/-- append(out, c), behind the region's draw. -/
theorem step_gAppD {ops : Array Oper} {E : Prop} (g : Nat) (w : World) (v : Value) (xs : List Fl) (hg : Gat g w.drew v xs) (c : Fl) (hl : xs.length ≤ 100000) (s y : Operand)
    (hgd : o.guard = none) (ho : o.op = .call { callee := .builtin .append, args := #[s, y], argTypes := #[23, 23] }) (hs : a.eval s = v) (hy : a.eval y = .slice (some ⟨w.heap.size, 0, none⟩) 1 1)
    (h : ∀ g' v' w', Gat g' w' v' (xs ++ [c]) → (g' = g ∨ w.drew.heap.size ≤ g') → w.drew.grownBy w' (some g) → K (a.put o.dst v') w') :
    if Region.wanted o (yielded ops a.tmps) = true then Oper.wp Try.prog o a (w.alloc (.cells #[.int .i64 c.fr, .int .i64 c.to, .int .i64 c.nm] 28)).drew K Q else E :=
  step_gApp g w.drew v xs hg c hl s y hgd ho hs hy h
end
set_option maxRecDepth 20000 in
set_option maxHeartbeats 4000000 in
theorem l32View (lo hi : Nat) (A : Option Addr) (n c : Nat) (xs : List Fl) (w : World) (hx : Fls lo hi w A n c xs) (hn : n ≤ 16) :
    Calls Try.prog 30 #[.slice A n c] w (FlsPost (viewL xs) w) := by
  have hc1 := hx.max_
  have hc2 := hx.cap_
  have HL := Lib.hid hx.len_
  have HX : Hid (∀ wr, Below w.heap.size w wr → Fls lo hi wr A n c xs) := fun wr h => hx.below h (Nat.le_refl _)
  have HR0 := Lib.hid (vrel_new w)
  clear hx
  go_enter Try.func30, Try.ntmps30
  go_wp2
  go_loopw [3, 4, 5, 6] (fun v1 v2 i _ wr => ∃ k : Nat, k ≤ n ∧ i = .int .i64 k ∧ ∃ g1 g2, Hid (VRel w wr g1 g2 v1 v2 (dis ((nms xs).take k)) ((List.range k).map (vwAt xs)))) (fun _ _ i _ _ => n - (intOf i).toNat)
  case atStart => exact ⟨0, Nat.zero_le _, rfl, _, _, HR0.out⟩
  case round =>
    obtain ⟨k, hk, rfl, g1, g2, hR⟩ := hrel
    clear HR0
    by_cases hlt : k < n
    · have hkl : k < xs.length := by rw [HL.out]; exact hlt
      obtain ⟨cap, rfl, -⟩ := hR.out.2.2.2.2.1.own
      have HD : Hid (dis ((nms xs).take (k + 1)) = addN (dis ((nms xs).take k)) (flAt xs k).nm) := by
        have h := dis_step (xs := nms xs) (i := k) (by rw [nms_len]; exact hkl)
        rwa [nms_at hkl] at h
      have HV : Hid ((List.range (k + 1)).map (vwAt xs) = (List.range k).map (vwAt xs) ++ [⟨(flAt xs k).fr, (flAt xs k).to, (ix (flAt xs k).nm (dis ((nms xs).take k)) : Nat)⟩]) := by
        show _ = _
        rw [range_snoc]
        unfold vwAt numAt
        rw [nms_at hkl]
      have HDL : Hid ((dis ((nms xs).take k)).length ≤ 16) := by
        have h := dis_len ((nms xs).take k)
        rw [List.length_take] at h
        show _ ≤ _
        omega
      have HOL : Hid (((List.range k).map (vwAt xs)).length ≤ 100000) := by show _ ≤ _; rw [List.length_map, List.length_range]; omega
      have HX2 : Hid (∀ wr, Below w.heap.size w wr → ∃ b off, A = some ⟨b, off, none⟩ ∧ wr.cell? ⟨b, off + k * 3, none⟩ = some (.int .i64 (flAt xs k).fr) ∧ wr.cell? ⟨b, off + k * 3 + 1, none⟩ = some (.int .i64 (flAt xs k).to) ∧ wr.cell? ⟨b, off + k * 3 + 2, none⟩ = some (.int .i64 (flAt xs k).nm)) := fun wr h => by
        obtain ⟨b, off, e, _, _, _, c0, c1, c2⟩ := (HX.out wr h).at_ hlt
        exact ⟨b, off, e, c0, c1, c2⟩
      generalize dis ((nms xs).take k) = ds at *
      generalize (List.range k).map (vwAt xs) = out at *
      generalize flAt xs k = f at *
      obtain ⟨f0, f1, f2⟩ := f
      dsimp only at HD HV HX2
      clear hkl
      go_wp2
      go_loopw [6] (fun i2 w2 => ∃ j : Nat, j ≤ ds.length ∧ i2 = .int .i64 j ∧ Hid (∀ t, t < j → ds.getD t 0 ≠ f2) ∧ Hid (VRel w w2 g1 g2 (.slice (some ⟨g1, 0, none⟩) ds.length cap) u4 ds out)) (fun i2 _ => ds.length - (intOf i2).toNat)
      case atStart => exact ⟨0, Nat.zero_le _, rfl, fun t ht => absurd ht (by omega), hR.out⟩
      case round =>
        obtain ⟨j, hj, rfl, hT, hV⟩ := hrel
        clear hR
        have HV2 : Hid (∀ q, VRel w (wr.drewN q) g1 g2 (.slice (some ⟨g1, 0, none⟩) ds.length cap) u4 ds out) := fun q => hV.out.dr q
        have hdl := HDL.out
        have hcp := hV.out.ns_.2.1
        by_cases hjl : j < ds.length
        · obtain ⟨b1, o1, e1, _, _, cN⟩ := hV.out.ns_.at_ hjl
          simp only [Option.some.injEq, Addr.mk.injEq, and_true] at e1
          obtain ⟨rfl, rfl⟩ := e1
          rw [Nat.zero_add] at cN
          obtain ⟨b, off, rfl, c0, c1, c2⟩ := HX2.out _ hV.out.1
          have hjd : decide ((j : Int) < (ds.length : Int)) = true := by simp; omega
          by_cases he : ds.getD j 0 = f2
          · have HIX : Hid (ix f2 ds = j) := ix_first (by omega) hT.out fun _ => he
            have HDD : Hid (addN ds f2 = ds) := if_pos (by rw [← he, List.getD_eq_getElem?_getD, List.getElem?_eq_getElem hjl]; exact List.getElem_mem hjl)
            have hb : (ds.getD j 0 != f2) = false := by rw [he]; simp
            have hje : ((j : Int) == (ds.length : Int)) = false := by rw [beq_eq_false_iff_ne]; omega
            clear he hT
            generalize ds.getD j 0 = y at *
            go_wp2
            go_quiet (fail)
            clear c0 c1 c2 cN hb
            have hV3 := Lib.hid (HV2.out nq)
            clear HV2 hV
            generalize wr.drewN nq = W at *
            obtain ⟨b', off', e', c0, c1, c2⟩ := HX2.out _ hV3.out.1
            simp only [Option.some.injEq, Addr.mk.injEq, and_true] at e'
            obtain ⟨rfl, rfl⟩ := e'
            go_wp2
            have hba : Below W.heap.size W (W.alloc (.cells #[.int .i64 f0, .int .i64 f1, .int .i64 (j : Int)] 28)).drew := bd (d := 1) ((Below.refl _ _).alloc (Nat.le_refl _) _)
            have k0 : W.drew.cell? ⟨b, off + k * 3, none⟩ = some (.int .i64 f0) := c0
            have k1 : W.drew.cell? ⟨b, off + k * 3 + 1, none⟩ = some (.int .i64 f1) := c1
            obtain ⟨_, _, e2, l0, l1, -⟩ := HX2.out _ (hV3.out.1.trans (hba.mono hV3.out.1.size))
            simp only [Option.some.injEq, Addr.mk.injEq, and_true] at e2
            obtain ⟨rfl, rfl⟩ := e2
            have HGD : Hid (Gat g2 W.drew u4 out) := hV3.out.2.2.2.2.2.block rfl
            clear hba
            go_region_law (first
              | (refine step_gAppD g2 _ _ out HGD.out ⟨f0, f1, (j : Int)⟩ HOL.out (.tmp 45) (.tmp 58) rfl rfl (by go_simp) (by go_simp) ?_; intro g' v' w6 hA hgg hgr)
              | fail)
            all_goals
              have HR2 := Lib.hid ((hV3.out.dr 1).flow (w2 := w6) hA hgg hgr)
              clear hA hgg hgr HGD c0 c1 c2 k0 k1 l0 l1
              go_wp2
              go_roundw
              case rel => exact ⟨k + 1, by omega, by go_num, g1, g', by show VRel _ _ _ _ _ _ _ _; rw [HD.out, HDD.out, HV.out, HIX.out]; exact HR2.out⟩
              case measure => simp [intOf]; omega
          · have HNX : Hid (∀ t, t < j + 1 → ds.getD t 0 ≠ f2) := fun t ht => by
              by_cases e : t = j
              · rw [e]; exact he
              · exact hT.out t (by omega)
            have hb : (ds.getD j 0 != f2) = true := by simpa using he
            clear he hT
            generalize ds.getD j 0 = y at *
            go_wp2
            go_quiet (fail)
            clear c0 c1 c2 cN hb
            go_wp2
            go_roundw
            case rel => exact ⟨j + 1, by omega, by go_num, HNX.out, HV2.out _⟩
            case measure => simp [intOf]; omega
        · obtain rfl : j = ds.length := by omega
          have hjd : decide ((ds.length : Int) < (ds.length : Int)) = false := by simp
          have HIX : Hid (ix f2 ds = ds.length) := ix_not fun hm => by
            obtain ⟨q1, q2⟩ := ix_get hm
            exact hT.out _ q1 q2
          have HDD : Hid (addN ds f2 = ds ++ [f2]) := if_neg fun hm => by
            obtain ⟨q1, q2⟩ := ix_get hm
            exact hT.out _ q1 q2
          have hje : ((ds.length : Int) == (ds.length : Int)) = true := beq_self_eq_true _
          obtain ⟨b, off, rfl, c0, c1, c2⟩ := HX2.out _ hV.out.1
          clear hT
          go_wp2
          go_quiet (fail)
          clear c0 c1 c2
          have hV3 := Lib.hid (HV2.out nq)
          clear HV2 hV
          generalize wr.drewN nq = W at *
          obtain ⟨b', off', e', c0, c1, c2⟩ := HX2.out _ hV3.out.1
          simp only [Option.some.injEq, Addr.mk.injEq, and_true] at e'
          obtain ⟨rfl, rfl⟩ := e'
          have HAN := Lib.hid hV3.out.2.2.2.2.1
          go_wp2_with (at_builtin; refine wpList_app1B g1 W _ ds f2 HAN.out (by omega) _ _ rfl rfl rfl rfl ?_; intro g5 v5 w5 hN5 hg5 hB5)
          have hV5 := Lib.hid (hV3.out.name hN5 hg5 hB5)
          clear hN5 hg5 hB5 HAN hV3 c0 c1 c2
          obtain ⟨b', off', e', c0, c1, c2⟩ := HX2.out _ hV5.out.1
          simp only [Option.some.injEq, Addr.mk.injEq, and_true] at e'
          obtain ⟨rfl, rfl⟩ := e'
          go_wp2
          have hba : Below w5.heap.size w5 (w5.alloc (.cells #[.int .i64 f0, .int .i64 f1, .int .i64 (ds.length : Int)] 28)).drew := bd (d := 1) ((Below.refl _ _).alloc (Nat.le_refl _) _)
          have k0 : w5.drew.cell? ⟨b, off + k * 3, none⟩ = some (.int .i64 f0) := c0
          have k1 : w5.drew.cell? ⟨b, off + k * 3 + 1, none⟩ = some (.int .i64 f1) := c1
          obtain ⟨_, _, e2, l0, l1, -⟩ := HX2.out _ (hV5.out.1.trans (hba.mono hV5.out.1.size))
          simp only [Option.some.injEq, Addr.mk.injEq, and_true] at e2
          obtain ⟨rfl, rfl⟩ := e2
          have HGD : Hid (Gat g2 w5.drew u4 out) := hV5.out.2.2.2.2.2.block rfl
          clear hba
          go_region_law (first
            | (refine step_gAppD g2 _ _ out HGD.out ⟨f0, f1, (ds.length : Int)⟩ HOL.out (.tmp 45) (.tmp 58) rfl rfl (by go_simp) (by go_simp) ?_; intro g' v' w6 hA hgg hgr)
            | fail)
          all_goals
            have HR2 := Lib.hid ((hV5.out.dr 1).flow (w2 := w6) hA hgg hgr)
            clear hA hgg hgr HGD c0 c1 c2 k0 k1 l0 l1
            go_wp2
            go_roundw
            case rel => exact ⟨k + 1, by omega, by go_num, g5, g', by show VRel _ _ _ _ _ _ _ _; rw [HD.out, HDD.out, HV.out, HIX.out]; exact HR2.out⟩
            case measure => simp [intOf]; omega
    · obtain rfl : k = n := by omega
      have HF : Hid ((List.range k).map (vwAt xs) = viewL xs) := by show _ = _; unfold viewL; rw [HL.out]
      rw [HF.out] at hR
      clear hlt
      go_wp2
      go_ret
      exact hR.out.post
end Sp13
end Go.Proofs.Ytcbhjnjallnidaa
