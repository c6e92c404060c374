/-
  Contracts of the program's chapter 21: digests and signatures.
-/
import Derived.Test.YtfnbjojaflloaabIm9d
namespace Go.Proofs.Ytfnbjojaflloaab
open Go.RowKit Go.Shelf
namespace Im9
open Il Sl Gm Cm Ec Dm Sp9 Sg
attribute [local go_sem] Oper.semAt_some

/-! ### the group -/
set_option maxRecDepth 20000 in
theorem times (a b : Int) (w : World) : Calls Try.prog 39 #[.int .i64 a, .int .i64 b] w fun e w' => e = .returned (.int .i64 (mulG a b)) ∧ w = w' := by
  cases ha : inG a
  · have HV := Lib.hid (mulG_out1 (b := b) ha)
    go_enter Try.func39, Try.ntmps39
    go_wp2_with fail
    ((with_reducible refine (Sg.inRange a _).mono ?_); rintro e w1 ⟨rfl, rfl⟩)
    rw [ha]
    go_wp2
    go_ret
    rw [HV.out]
    exact ⟨rfl, rfl⟩
  cases hb : inG b
  · have HV := Lib.hid (mulG_out2 (a := a) hb)
    go_enter Try.func39, Try.ntmps39
    go_wp2_with fail
    ((with_reducible refine (Sg.inRange a _).mono ?_); rintro e w1 ⟨rfl, rfl⟩)
    rw [ha]
    go_wp2_with fail
    ((with_reducible refine (Sg.inRange b _).mono ?_); rintro e w1 ⟨rfl, rfl⟩)
    rw [hb]
    go_wp2
    go_ret
    rw [HV.out]
    exact ⟨rfl, rfl⟩
  have HV := Lib.hid (mulG_in ha hb)
  obtain ⟨a1, a2⟩ := inG_iff.1 ha
  obtain ⟨b1, b2⟩ := inG_iff.1 hb
  have hm : 0 ≤ a * b ∧ a * b ≤ 992016 := ⟨Int.mul_nonneg (by omega) (by omega), by have := Int.mul_le_mul a2 b2 (by omega) (by omega); omega⟩
  obtain ⟨hm1, hm2⟩ := hm
  go_enter Try.func39, Try.ntmps39
  go_wp2_with fail
  ((with_reducible refine (Sg.inRange a _).mono ?_); rintro e w1 ⟨rfl, rfl⟩)
  rw [ha]
  go_wp2_with fail
  ((with_reducible refine (Sg.inRange b _).mono ?_); rintro e w1 ⟨rfl, rfl⟩)
  rw [hb]
  clear ha hb
  go_wp2
  go_ret
  rw [HV.out]
  exact ⟨rfl, rfl⟩

/-! ### digests -/
def stTo (t : Int) (xs : List Int) (k : Nat) : Int := (xs.take k).foldl Tm.step t
theorem stTo_bd {t : Int} (h : 0 ≤ t ∧ t ≤ 990) (xs : List Int) (k : Nat) : 0 ≤ stTo t xs k ∧ stTo t xs k ≤ 990 := Tm.fold_bd _ _ h
theorem stTo_succ (t : Int) {xs : List Int} {k : Nat} (h : k < xs.length) : stTo t xs (k + 1) = (613 * stTo t xs k + xs.getD k 0 + 1) % 991 := by
  unfold stTo
  rw [List.take_add_one, List.getElem?_eq_getElem h, List.foldl_append, List.getD_eq_getElem?_getD, List.getElem?_eq_getElem h]; rfl
set_option maxRecDepth 20000 in
theorem tagFrom (start : Int) (w : World) (h0 : 0 ≤ start) (h1 : start ≤ 100000) :
    Calls Try.prog 49 #[.int .i64 start] w fun e w' => e = .returned (.func (.func 69) #[] #[.pointer (some ⟨w.heap.size, 0, none⟩)]) ∧ w' = w.alloc (.cells #[.int .i64 (start % 991)] 3) := by
  go_enter Try.func49, Try.ntmps49
  go_wp2
  go_ret
  exact ⟨rfl, rfl⟩
set_option maxRecDepth 20000 in
theorem extend (lo hi : Nat) (A : Option Addr) (n c : Nat) (xs : List Int) (t : Int) (b : Nat) (w : World) (hx : Ints lo hi w A n c xs) (hn : n ≤ 24) (hxd : ∀ i, i < n → 0 ≤ xs.getD i 0 ∧ xs.getD i 0 ≤ 1000) (ht : 0 ≤ t ∧ t ≤ 990) (hb : Boxed w b 3 (.int .i64 t)) (hd : hi ≤ b ∨ b + 1 ≤ lo) :
    Calls Try.prog 69 #[.slice A n c, .pointer (some ⟨b, 0, none⟩)] w fun e w' => e = .returned (.int .i64 (xs.foldl Tm.step t)) ∧ Boxed w' b 3 (.int .i64 (xs.foldl Tm.step t)) ∧ Kept b (b + 1) w w' := by
  have HL := Lib.hid hx.1
  have HX := Lib.hid hx
  have HK := Lib.hid hxd
  have HB := Lib.hid hb
  have HT := Lib.hid ht
  clear hx hb hxd ht
  go_enter Try.func69, Try.ntmps69
  go_wp2
  go_loopw [8] (fun i wr => ∃ k : Nat, k ≤ n ∧ i = .int .i64 k ∧ Boxed wr b 3 (.int .i64 (stTo t xs k)) ∧ Kept b (b + 1) w wr) (fun i _ => n - (intOf i).toNat)
  case atStart => exact ⟨0, Nat.zero_le _, rfl, HB.out, Kept.refl _ _ _⟩
  case round =>
    obtain ⟨k, hk, rfl, hB, hW⟩ := hrel
    have HW := Lib.hid hW
    have HBW := Lib.hid hB
    have hcb := hB.cell
    have hfb := hB.frozen
    have hbd := stTo_bd HT.out xs k
    clear hW hB
    by_cases hlt : k < n
    · obtain ⟨b', off, rfl, _, hb2, hcx⟩ := (HX.out.kept HW.out (by omega)).at_ hlt
      have hxd := HK.out k hlt
      have HN := Lib.hid (stTo_succ t (xs := xs) (k := k) (by rw [HL.out]; exact hlt))
      generalize xs.getD k 0 = x at hcx hxd HN
      generalize stTo t xs k = s at hbd HN HBW hcb ⊢
      go_wp2
      go_roundw
      case rel => exact ⟨k + 1, by omega, by go_num, by rw [HN.out]; exact HBW.out.set _, HW.out.set (p := ⟨b, 0, none⟩) (Nat.le_refl _) (Nat.lt_succ_self _) _⟩
      case measure => simp [intOf]; omega
    · have hfin : stTo t xs k = xs.foldl Tm.step t := by
        unfold stTo
        rw [List.take_of_length_le (by rw [HL.out]; omega)]
      rw [hfin] at hcb HBW
      clear hfin hbd
      go_wp2
      go_ret
      exact ⟨rfl, HBW.out, HW.out⟩
theorem drel_kept {b lo hi q : Nat} {w wr w2 : World} {A : Option Addr} {n k : Nat} {ep : Int} {es : List En} (h : DRel b lo hi w wr A n k ep es) (hk : Kept q (q + 1) wr w2) (h1 : b < q) (h2 : hi ≤ q) (h3 : w.heap.size ≤ q) : DRel b lo hi w w2 A n k ep es :=
  ⟨(hk.block b (by omega)).trans h.1, h.2.1.kept hk (by omega), h.2.2.trans (hk.below h3)⟩
theorem boxed_kept {b q : Nat} {w w2 : World} {t : TypeId} {v : Value} (h : Boxed w b t v) (hk : Kept q (q + 1) w w2) (hne : b ≠ q) : Boxed w2 b t v := (hk.block b (by omega)).trans h
/-- A literal of three numbers. -/
theorem ints_three (w : World) (x y z : Int) : Ints w.heap.size (w.heap.size + 1) (w.alloc (.cells #[.int .i64 x, .int .i64 y, .int .i64 z] 3)) (some ⟨w.heap.size, 0, none⟩) 3 3 [x, y, z] := by
  refine ⟨rfl, Nat.le_refl _, by unfold maxLen; omega, fun _ => ⟨w.heap.size, 0, rfl, Nat.le_refl _, Nat.lt_succ_self _, by simp, fun j hj => ?_⟩⟩
  obtain ⟨t0, t1, t2⟩ := three_new w (.int .i64 x) (.int .i64 y) (.int .i64 z) 3
  rw [Nat.zero_add]
  match j, hj with
  | 0, _ => exact t0
  | 1, _ => exact t1
  | 2, _ => exact t2
set_option maxRecDepth 20000 in
set_option maxHeartbeats 2000000 in
theorem DirectoryDigest (ep : Int) (es : List En) (A : Option Addr) (n k lo hi : Nat) (w : World) (hx : Ens lo hi w A n k es) :
    Calls Try.prog 23 #[.agg #[.int .i64 ep, .slice A n k]] w (IntB (digF ep es) w) := by
  have HL := Lib.hid hx.len_
  have hk1 := hx.max_
  have hk2 := hx.cap_
  have HR0 := Lib.hid (drel_new (hx.top (Nat.le_refl lo)) ep)
  clear hx
  obtain ⟨z0, z1, zf⟩ := HR0.out.box.cells
  go_enter Try.func23, Try.ntmps23
  go_wp2_with fail
  ((with_reducible refine (DirectoryValid ep es _ _ _ _ _ _ HR0.out.ens).mono ?_); rintro e w1 ⟨rfl, hb⟩)
  have HR1 := Lib.hid (HR0.out.below hb)
  have hs1 : w.heap.size + 1 ≤ w1.heap.size := by have := hb.size; simpa using this
  clear hb z0 z1 zf HR0
  obtain ⟨z0, z1, zf⟩ := HR1.out.box.cells
  cases hd : dirOk ep es
  · have HV := Lib.hid (digF_no hd)
    go_wp2
    go_ret
    rw [HV.out]
    exact ⟨rfl, HR1.out.bel⟩
  have HV := Lib.hid (digF_yes hd)
  obtain ⟨ho, ⟨hep1, hep2⟩, hl6⟩ := dirOk_iff.1 hd
  have HO := Lib.hid ho
  have hn6 : n ≤ 6 := by rw [← HL.out]; exact hl6
  have HI : Hid ((41 * (n : Int) + 7 * ep + 1) % 991 = digTo ep es 0) := by show _ = _; rw [digTo_zero, ← HL.out]; rfl
  clear hd ho hl6
  go_wp2_with fail
  ((with_reducible refine (tagFrom _ _ (by omega) (by omega)).mono ?_); rintro e w2 ⟨rfl, rfl⟩)
  rw [HI.out]
  have HBX0 := Lib.hid (Boxed.new w1 3 (.int .i64 (digTo ep es 0)))
  have HR2 := Lib.hid (HR1.out.alloc (.cells #[.int .i64 (digTo ep es 0)] 3))
  generalize hg : w1.heap.size = g at *
  have hs2 : g < (w1.alloc (.cells #[.int .i64 (digTo ep es 0)] 3)).heap.size := by simp; omega
  generalize (w1.alloc (.cells #[.int .i64 (digTo ep es 0)] 3)) = w2 at *
  clear hg z0 z1 zf HR1
  obtain ⟨z0, z1, zf⟩ := HR2.out.box.cells
  go_wp2
  go_loopw [5, 22] (fun _ i wr => ∃ j : Nat, j ≤ n ∧ i = .int .i64 j ∧ g < wr.heap.size ∧ Hid (Boxed wr g 3 (.int .i64 (digTo ep es j))) ∧ Hid (DRel w.heap.size lo w.heap.size w wr A n k ep es)) (fun _ i _ => n - (intOf i).toNat)
  case atStart => exact ⟨0, Nat.zero_le _, rfl, hs2, HBX0.out, HR2.out⟩
  case round =>
    obtain ⟨j, hj, rfl, hgw, hB, hR⟩ := hrel
    clear HR2 HBX0 z0 z1 zf
    by_cases hlt : j < n
    · obtain ⟨b, off, rfl, _, _, hbz, c0, c1, c2⟩ := hR.out.ens.at_ hlt
      obtain ⟨⟨q1, q2⟩, ⟨q3, q4⟩, q5, q6⟩ := okE_iff.1 (ok_ix HO.out (k := j) (by rw [HL.out]; exact hlt))
      have HN : Hid ([(enAt es j).nm, (enAt es j).pu, (enAt es j).wt].foldl Tm.step (digTo ep es j) = digTo ep es (j + 1)) := by
        show _ = _
        rw [digTo_succ ep (by rw [HL.out]; exact hlt)]; rfl
      have hbd := Lib.hid (digTo_bd ep es j)
      have HR := Lib.hid hR.out
      have HB := Lib.hid hB.out
      clear hR hB
      generalize enAt es j = x at *
      generalize digTo ep es j = t at *
      have HR3 := Lib.hid ((HR.out.alloc (.cells #[.int .i64 x.nm, .int .i64 x.pu, .int .i64 x.wt] 71)).alloc (.cells #[.int .i64 x.nm, .int .i64 x.pu, .int .i64 x.wt] 3))
      have HB3 := Lib.hid ((HB.out.alloc (.cells #[.int .i64 x.nm, .int .i64 x.pu, .int .i64 x.wt] 71)).alloc (.cells #[.int .i64 x.nm, .int .i64 x.pu, .int .i64 x.wt] 3))
      have IL := Lib.hid (ints_three (wr.alloc (.cells #[.int .i64 x.nm, .int .i64 x.pu, .int .i64 x.wt] 71)) x.nm x.pu x.wt)
      have hsz : (wr.alloc (.cells #[.int .i64 x.nm, .int .i64 x.pu, .int .i64 x.wt] 71)).heap.size = wr.heap.size + 1 := by simp
      rw [hsz] at IL
      have HXD : Hid (∀ i, i < 3 → 0 ≤ [x.nm, x.pu, x.wt].getD i 0 ∧ [x.nm, x.pu, x.wt].getD i 0 ≤ 1000) := fun i hi => by
        match i, hi with
        | 0, _ => exact ⟨q1, by show x.nm ≤ 1000; omega⟩
        | 1, _ => exact ⟨by show 0 ≤ x.pu; omega, by show x.pu ≤ 1000; omega⟩
        | 2, _ => exact ⟨q5, by show x.wt ≤ 1000; omega⟩
      clear hsz HR HB q1 q2 q3 q4 q5 q6
      go_wp2_with fail
      ((with_reducible refine (extend _ _ _ _ _ [x.nm, x.pu, x.wt] t g _ IL.out (by omega) HXD.out hbd.out HB3.out (by omega)).mono ?_); rintro e w4 ⟨rfl, hb4, hk4⟩)
      rw [HN.out] at hb4 ⊢
      have hsz4 : g < w4.heap.size := by rw [hk4.size]; simp; omega
      have HR4 := Lib.hid (drel_kept HR3.out hk4 (by omega) (by omega) (by omega))
      have HB4 := Lib.hid hb4
      clear hb4 hk4 HR3 HB3 IL c0 c1 c2 hbz
      go_wp2
      go_roundw
      case rel => exact ⟨j + 1, by omega, by go_num, hsz4, HB4.out, HR4.out⟩
      case measure => simp [intOf]; omega
    · obtain rfl : j = n := by omega
      have hfin : digTo ep es j = digL ep es := by rw [← HL.out]; exact digTo_all ep es
      rw [hfin] at hB
      have hbd := Lib.hid (digL_bd ep es)
      clear hfin hlt
      go_wp2_with fail
      ((with_reducible refine (extend 0 0 none 0 0 [] (digL ep es) g _ (Ints.nil_ (Nat.zero_le _)) (by omega) (fun i h => absurd h (by omega)) hbd.out hB.out (by omega)).mono ?_); rintro e w4 ⟨rfl, hb4, hk4⟩)
      have HR4 := Lib.hid (drel_kept hR.out hk4 (by omega) (by omega) (by omega))
      clear hb4 hk4 hR hB
      go_wp2
      go_ret
      rw [HV.out]
      exact ⟨rfl, HR4.out.bel⟩

end Im9
end Go.Proofs.Ytfnbjojaflloaab
