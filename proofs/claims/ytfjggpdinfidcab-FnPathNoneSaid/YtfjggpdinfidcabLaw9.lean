/-
  The laws of chapter 21: each returns true and writes nothing that was there.
-/
import Derived.Test.YtfjggpdinfidcabDr9c
import Derived.Test.YtfjggpdinfidcabIm9z
import Derived.Test.YtfjggpdinfidcabH9
import Derived.Test.YtfjggpdinfidcabIla
import Derived.Deep.RegionLaw
import Derived.Deep.Cut
import Derived.Deep.DeepMust
namespace Go.Proofs.Ytfjggpdinfidcab
open Go.RowKit
namespace Law9
open Il Sl Cm Ec Dm Sp9 Gm H9 LawB Rd Sg

theorem digI {ep x : Int} {es : List En} {A : Option Addr} {k lo hi : Nat} {w : World} (h : digF ep es = x) (hx : Ens lo hi w A es.length k es) : Calls Try.prog 25 #[.agg #[.int .i64 ep, .slice A es.length k]] w (IntB x w) := by
  subst h
  exact Im9.DirectoryDigest ep es A _ k lo hi w hx
theorem digS {ep x : Int} {es : List En} {A : Option Addr} {k lo hi : Nat} {w : World} (h : digF ep es = x) (hx : Ens lo hi w A es.length k es) : Calls Try.prog 24 #[.agg #[.int .i64 ep, .slice A es.length k]] w (IntB x w) := by
  subst h
  exact Sp9.DirectoryDigest ep es A _ k lo hi w hx
theorem pickI {ep p x : Int} {es : List En} {A : Option Addr} {k lo hi : Nat} {w : World} (h : pickF ep es p = x) (hx : Ens lo hi w A es.length k es) (hp : p ≤ 9223372036854775807) : Calls Try.prog 18 #[.agg #[.int .i64 ep, .slice A es.length k], .int .i64 p] w (IntB x w) := by
  subst h
  exact Im9.DirectoryPick ep p es A _ k lo hi w hx hp
theorem pickS {ep p x : Int} {es : List En} {A : Option Addr} {k lo hi : Nat} {w : World} (h : pickF ep es p = x) (hx : Ens lo hi w A es.length k es) (hp : p ≤ 9223372036854775807) : Calls Try.prog 19 #[.agg #[.int .i64 ep, .slice A es.length k], .int .i64 p] w (IntB x w) := by
  subst h
  exact Sp9.DirectoryPick ep p es A _ k lo hi w hx hp
theorem checkI {ep : Int} {x : Bool} {es : List En} {ps gs : List Int} {P G A : Option Addr} {n1 p n2 g k lo hi l1 h1 l2 h2 : Nat} {w : World} (h : checkF ps ep es gs = x) (hx : Ens lo hi w A es.length k es) (i1 : Ints l1 h1 w P n1 p ps) (i2 : Ints l2 h2 w G n2 g gs) : Calls Try.prog 30 #[.slice P n1 p, .agg #[.int .i64 ep, .slice A es.length k], .slice G n2 g] w (BoolB x w) := by
  subst h
  exact Im9.DirectoryCheck ps gs ep es P G A n1 p n2 g _ k lo hi l1 h1 l2 h2 w hx i1 i2
theorem checkS {ep : Int} {x : Bool} {es : List En} {ps gs : List Int} {P G A : Option Addr} {n1 p n2 g k lo hi l1 h1 l2 h2 : Nat} {w : World} (h : checkF ps ep es gs = x) (hx : Ens lo hi w A es.length k es) (i1 : Ints l1 h1 w P n1 p ps) (i2 : Ints l2 h2 w G n2 g gs) : Calls Try.prog 28 #[.slice P n1 p, .agg #[.int .i64 ep, .slice A es.length k], .slice G n2 g] w (BoolB x w) := by
  subst h
  exact Sp9.DirectoryCheck ps gs ep es P G A n1 p n2 g _ k lo hi l1 h1 l2 h2 w hx i1 i2
theorem pathI {ep s h : Int} {xs : List Int} {es : List En} {A : Option Addr} {k lo hi : Nat} {w : World} (e : pathF ep es s h = xs) (hx : Ens lo hi w A es.length k es) : Calls Try.prog 13 #[.agg #[.int .i64 ep, .slice A es.length k], .int .i64 s, .int .i64 h] w (NewInts w xs) := by
  subst e
  exact Im9.DirectoryPath ep s h es A _ k lo hi w hx
theorem pathS {ep s h : Int} {xs : List Int} {es : List En} {A : Option Addr} {k lo hi : Nat} {w : World} (e : pathF ep es s h = xs) (hx : Ens lo hi w A es.length k es) : Calls Try.prog 14 #[.agg #[.int .i64 ep, .slice A es.length k], .int .i64 s, .int .i64 h] w (NewInts w xs) := by
  subst e
  exact Sp9.DirectoryPath ep s h es A _ k lo hi w hx
theorem sameK {l1 h1 l2 h2 n m c d : Nat} {w : World} {A B : Option Addr} {xs : List Int} (i1 : Ints l1 h1 w A n c xs) (i2 : Ints l2 h2 w B m d xs) : Calls Try.prog 15 #[.slice A n c, .slice B m d] w (BoolB true w) := by
  refine (Hlp.sameInts l1 h1 l2 h2 A B n m c d xs xs w i1 i2).mono ?_
  rintro e w' ⟨rfl, d, rfl⟩
  rw [decide_eq_true rfl]
  exact ⟨rfl, drew_below ⟨d, rfl⟩⟩
theorem sameK9 {l1 h1 l2 h2 n m c d : Nat} {w : World} {A B : Option Addr} {xs : List Int} (_ : xs.length = m) (i1 : Ints l1 h1 w A n c xs) (i2 : Ints l2 h2 w B m d xs) : Calls Try.prog 15 #[.slice A n c, .slice B m d] w (BoolB true w) := sameK i1 i2
theorem path_hops {ep s h : Int} {es : List En} {xs : List Int} (e : pathF ep es s h = xs) (hn : pathF ep es s h ≠ []) : (xs.length : Int) = h := by
  obtain ⟨_, _, h3, r, _, he, _, hl⟩ := pathF_open hn
  rw [← e, he, List.length_map, hl]; omega
theorem path_all {ep s h : Int} {es : List En} {xs : List Int} (e : pathF ep es s h = xs) (hn : pathF ep es s h ≠ []) : ∀ i, i < xs.length → ∃ j : Nat, j < es.length ∧ xs.getD i 0 = (enAt es j).nm ∧ 0 < (enAt es j).wt ∧ ∀ k, k < i → xs.getD k 0 ≠ (enAt es j).nm := fun i hi => by
  obtain ⟨hd, _, _, r, _, he, hc, _⟩ := pathF_open hn
  rw [e] at he
  subst he
  rw [List.length_map] at hi
  obtain ⟨j, h1, _, h2, h3, h4⟩ := path_at hd hc hi
  exact ⟨j, h1, h2, h3, h4⟩
theorem take_getD {xs : List Int} {i t : Nat} (h : i < t) : (xs.take t).getD i 0 = xs.getD i 0 := by
  rw [List.getD_eq_getElem?_getD, List.getD_eq_getElem?_getD, List.getElem?_take_of_lt h]
theorem lt_of_cell {w : World} {a : Addr} {v : Value} (h : w.cell? a = some v) : a.block < w.heap.size := World.block_lt_of_cell? w _ h
theorem posN_le (es : List En) (t : Nat) : posN es t ≤ t := by
  unfold posN
  have := List.countP_le_length (p := fun k => decide (0 < (enAt es k).wt)) (l := List.range t)
  rwa [List.length_range] at this
theorem validS {ep : Int} {x : Bool} {es : List En} {A : Option Addr} {k lo hi : Nat} {w : World} (h : dirOk ep es = x) (hx : Ens lo hi w A es.length k es) : Calls Try.prog 16 #[.agg #[.int .i64 ep, .slice A es.length k]] w (BoolB x w) := by
  subst h
  exact Sp9.DirectoryValid ep es A _ k lo hi w hx
theorem validI {ep : Int} {x : Bool} {es : List En} {A : Option Addr} {k lo hi : Nat} {w : World} (h : dirOk ep es = x) (hx : Ens lo hi w A es.length k es) : Calls Try.prog 22 #[.agg #[.int .i64 ep, .slice A es.length k]] w (BoolB x w) := by
  subst h
  exact Im9.DirectoryValid ep es A _ k lo hi w hx
/-- .. of m numbers. -/
def NiM (m : Nat) (xs : List Int) (w : World) (e : Ending) (w' : World) : Prop := ∃ A c, e = .returned (.slice A m c) ∧ Ints w.heap.size w'.heap.size w' A m c xs ∧ Below w.heap.size w w'
theorem ni_out {w w' : World} {m : Nat} {xs : List Int} {e : Ending} {C : Prop} (h : NiM m xs w e w') (k : ∀ A c, e = .returned (.slice A m c) → Ints w.heap.size w'.heap.size w' A m c xs → Below w.heap.size w w' → C) : C := by
  obtain ⟨A, c, he, ho, hb⟩ := h
  exact k A c he ho hb
theorem pathM {ep s h : Int} {m : Nat} {xs : List Int} {es : List En} {A : Option Addr} {k lo hi : Nat} {w : World} (e : pathF ep es s h = xs) (hm : xs.length = m) (hx : Ens lo hi w A es.length k es) : Calls Try.prog 13 #[.agg #[.int .i64 ep, .slice A es.length k], .int .i64 s, .int .i64 h] w (NiM m xs w) := by
  subst e hm
  exact (Im9.DirectoryPath ep s h es A _ k lo hi w hx).mono fun _ _ ⟨A, c, he, ho, hb⟩ => ⟨A, c, he, ho.ints, hb⟩
theorem path_len {ep s : Int} {H : Nat} {es : List En} (h : pathF ep es s (H : Int) ≠ []) : (pathF ep es s (H : Int)).length = H := by
  obtain ⟨_, _, _, r, _, he, _, hl⟩ := pathF_open h
  rw [he, List.length_map, hl, Int.toNat_natCast]
theorem make3 : ∃ Z : Array Value, (∀ w : World, (Instr.makeSlice 28 (.int .i64 3) (.int .i64 3)).run Try.prog w = .ok (.slice (some ⟨w.heap.size, 0, none⟩) 3 3) (w.alloc (.cells Z 3))) ∧ ∀ w : World, Il.Own w.heap.size (w.heap.size + 1) (w.alloc (.cells Z 3)) (some ⟨w.heap.size, 0, none⟩) 3 3 [0, 0, 0] :=
  ⟨madeCells #[.int .i64 0] 3, run_make_row' (P := Try.prog) 28 3 (.int .i64 0) 8 Try.underlying28 infoInt rfl .i64 .i64 3 (by omega) (by omega), fun w => own_made w 3 3 (by unfold maxLen; omega)⟩
theorem three_set {i r : Nat} {x : Int} (h : i ≠ r) : (([0, 0, 0] : List Int).set r x).getD i 0 = 0 := by
  rw [List.getD_eq_getElem?_getD, List.getElem?_set_ne (Ne.symm h)]
  match i with
  | 0 => rfl
  | 1 => rfl
  | 2 => rfl
  | _ + 3 => rfl
theorem pickF_yes {ep p : Int} {es : List En} (h : dirOk ep es = true) (hp : 0 ≤ p) : pickF ep es p = pickL [] es p := by unfold pickF; rw [h, decide_eq_true hp]; rfl
theorem pickF_of {ep p x : Int} {es : List En} (h : pickF ep es p = x) (hx : 0 ≤ x) : dirOk ep es = true ∧ pickF ep es p = pickL [] es p ∧ 0 ≤ p ∧ pickL [] es p = x := by
  unfold pickF at h ⊢
  by_cases h1 : dirOk ep es = true
  · by_cases h2 : 0 ≤ p
    · rw [h1, decide_eq_true h2] at h ⊢
      exact ⟨rfl, rfl, h2, h⟩
    · rw [decide_eq_false h2, Bool.and_false, cond_false] at h; omega
  · rw [Bool.not_eq_true] at h1
    rw [h1, Bool.false_and, cond_false] at h; omega
theorem pickL_wt {es : List En} (hn : NN es) {p x : Int} (hp : 0 ≤ p) (h : pickL [] es p = x) (hx : 0 ≤ x) : ∃ j : Nat, j < es.length ∧ x = (j : Int) ∧ (enAt es j).wt > 0 := by
  obtain ⟨j, h1, h2, h3, h4⟩ := falls_ix (pickL_falls (ch := []) hn hp) (by rw [h]; exact hx)
  exact ⟨j, h1, by rw [← h, h2], (falls_wt h3 h4).2⟩
theorem code_any {w : World} {A : Option Addr} {n c : Nat} (h : CodeIs w A n c) : ∀ w', Below w.heap.size w w' → CodeIs w' A n c := fun w' hb => by
  refine ⟨h.1, h.2.1, fun hn => ?_⟩
  obtain ⟨b, off, e, hz, hc⟩ := h.2.2 hn
  refine ⟨b, off, e, Nat.lt_of_lt_of_le hz hb.size, fun j hj => ?_⟩
  obtain ⟨u, hu, hcell⟩ := hc j hj
  exact ⟨u, hu, (hb.cell (p := ⟨b, off + j, none⟩) hz).trans hcell⟩
set_option maxRecDepth 20000 in
set_option maxHeartbeats 1000000 in
theorem fnPathShort (A : Option Addr) (n c : Nat) (A1 : Option Addr) (n1 c1 : Nat) (w : World) (h : CodeIs w A n c) :
    Calls Try.prog 3 #[.slice A n c, .slice A1 n1 c1] w (TruePost w) := by
  have HC := Lib.hid h
  clear h
  by_cases hn : 1048576 < n
  · go_enter Try.func3, Try.ntmps3
    go_wp2
    go_ret
    exact ⟨rfl, Below.refl _ _⟩
  by_cases hn1 : 1048576 < n1
  · go_enter Try.func3, Try.ntmps3
    go_wp2
    go_ret
    exact ⟨rfl, Below.refl _ _⟩
  have B : Hid (Below w.heap.size w w) := Below.refl _ _
  go_enter Try.func3, Try.ntmps3
  go_wp2_with fail
  ((with_reducible refine (DrawDirectoryPath _ _ _ _ HC.out).mono ?_); rintro e w1 ⟨A0, k0, ep, es, s, h, rfl, hgd, ⟨hds, hb⟩, ⟨hs0, hs1⟩, hh0, hh1⟩)
  replace B := Lib.hid (B.out.trans (hb.mono B.out.size))
  have z1 := hb.size
  have R0 := Lib.hid hds.row_
  have GD := Lib.hid hgd
  clear hgd hds HC
  clear hb
  have hal : Below w1.heap.size w1 (w1.alloc (.cells #[.int .i64 ep, .slice A0 es.length k0] 25)) := (Below.refl _ _).alloc (Nat.le_refl _) _
  have V0 := Lib.hid (vd_new (ep := ep) (lo' := w.heap.size) R0.out (Nat.le_refl _) B.out.size)
  replace B := Lib.hid (B.out.trans (hal.mono B.out.size))
  have zzV0 := hal.size
  clear hal
  clear R0
  obtain ⟨xs, HX⟩ : ∃ xs, Hid (pathF ep es s h = xs) := ⟨_, rfl⟩
  obtain ⟨V00, V01, V0f⟩ := V0.out.1.cells
  go_wp2_with fail
  ((with_reducible refine (pathI HX.out V0.out.st).mono ?_); rintro e w2 ⟨AI5, kI5, rfl, ho, hb⟩)
  replace V0 := Lib.hid (V0.out.below hb (Nat.le_refl _))
  replace B := Lib.hid (B.out.trans (hb.mono B.out.size))
  have z2 := hb.size
  have I5 := Lib.hid ho.ints
  clear ho
  clear V00 V01 V0f hb
  obtain ⟨V00, V01, V0f⟩ := V0.out.1.cells
  go_wp2_with fail
  ((with_reducible refine (pathS HX.out V0.out.st).mono ?_); rintro e w3 ⟨AI6, kI6, rfl, ho, hb⟩)
  replace V0 := Lib.hid (V0.out.below hb (Nat.le_refl _))
  replace I5 := Lib.hid (I5.out.below hb (Nat.le_refl _))
  replace B := Lib.hid (B.out.trans (hb.mono B.out.size))
  have z3 := hb.size
  have I6 := Lib.hid ho.ints
  clear ho
  clear V00 V01 V0f hb
  go_wp2_with fail
  ((with_reducible refine (sameK I5.out I6.out).mono ?_); rintro e w4 ⟨rfl, hb⟩)
  replace V0 := Lib.hid (V0.out.below hb (Nat.le_refl _))
  replace I5 := Lib.hid (I5.out.below hb (Nat.le_refl _))
  replace I6 := Lib.hid (I6.out.below hb (Nat.le_refl _))
  replace B := Lib.hid (B.out.trans (hb.mono B.out.size))
  have z4 := hb.size
  clear hb
  by_cases hx0 : xs.length = 0
  · have e0 : ((xs.length : Int) == 0) = true := by rw [hx0]; rfl
    clear hx0
    go_wp2_with fail
    ((with_reducible refine (sameK I5.out I6.out).mono ?_); rintro e w5 ⟨rfl, hb⟩)
    replace V0 := Lib.hid (V0.out.below hb (Nat.le_refl _))
    replace I5 := Lib.hid (I5.out.below hb (Nat.le_refl _))
    replace I6 := Lib.hid (I6.out.below hb (Nat.le_refl _))
    replace B := Lib.hid (B.out.trans (hb.mono B.out.size))
    have z5 := hb.size
    clear hb
    go_wp2
    go_ret
    exact ⟨rfl, B.out⟩
  have e0 : ((xs.length : Int) == 0) = false := by rw [beq_eq_false_iff_ne]; omega
  have HNE : Hid (pathF ep es s h ≠ []) := fun e => hx0 (by rw [← HX.out, e]; rfl)
  obtain ⟨HD, ⟨hs2, hs3⟩, ⟨hh2, hh3⟩, -⟩ := pathF_open HNE.out
  have HD := Lib.hid HD
  obtain ⟨H, rfl⟩ := Int.eq_ofNat_of_zero_le (show 0 ≤ h by omega)
  have HXL : Hid (xs.length = H) := by show xs.length = H; rw [← HX.out]; exact path_len HNE.out
  obtain ⟨r, hr, hrH⟩ : ∃ r : Nat, ((n1 : Nat) : Int).tmod (H : Int) = (r : Int) ∧ r < H := ⟨n1 % H, by rw [Int.tmod_eq_emod_of_nonneg (by omega)]; omega, Nat.mod_lt _ (by omega)⟩
  have hz : ((H : Int) == 0) = false := by simp; omega
  have hH3 : H ≤ 3 := by omega
  have hrx : 1 + r ≤ xs.length := by rw [HXL.out]; omega
  have HY : Hid (pathF ep es s (1 + (r : Int)) = xs.take (1 + r)) := by
    show _ = _
    rw [path_short HNE.out (by omega), HX.out, show (1 + (r : Int)).toNat = 1 + r by omega]
  obtain ⟨k, hk⟩ : ∃ k, 1 + r = k := ⟨_, rfl⟩
  have hki : 1 + (r : Int) = (k : Int) := by omega
  rw [hk] at HY hrx
  rw [hki] at HY
  have hkt : (xs.take k).length = k := by rw [List.length_take]; omega
  have hkc : k ≤ kI5 := by have := I5.out.2.1; omega
  have I7 := Lib.hid (I5.out.take hrx)
  have hI5c : kI5 ≤ 9223372036854775807 := I5.out.2.2.1
  obtain ⟨V00, V01, V0f⟩ := V0.out.1.cells
  go_upto_region 9 with (fail)
  clear hx0 e0 hs0 hs1 hh0 hh1
  have I7d : Hid (Ints _ _ w4.drew AI5 k kI5 (xs.take k)) := I7.out
  have V0d : Hid (Vd _ w4.drew _ ep A0 k0 es) := V0.out
  have Bd : Hid (Below w.heap.size w w4.drew) := below_dr B.out
  clear V0 I5 I6 I7 B HNE HD HX GD
  obtain ⟨V0d0, V0d1, V0df⟩ := V0d.out.1.cells
  go_region_law (first
    | (go_simp; go_at_call 15; (with_reducible refine (sameK9 hkt I9.out I7e.out).mono ?_); rintro e w10 ⟨rfl, hb10⟩; have B10 := Lib.hid (B9.out.trans (hb10.mono B9.out.size)); clear hb10)
    | (go_simp; go_at_call 13; (with_reducible refine (pathM HY.out hkt V0d.out.st).mono ?_); intro e w9 hp9; refine ni_out hp9 ?_; intro A9 k9 he9 ho9 hb9; subst he9; clear hp9; have I9 := Lib.hid ho9; have I7e := Lib.hid (I7d.out.below hb9 (Nat.le_refl _)); have B9 := Lib.hid (Bd.out.trans (hb9.mono Bd.out.size)); clear ho9 hb9)
    | fail)
  all_goals
    go_wp2
    go_ret
    exact ⟨rfl, B10.out⟩

set_option maxRecDepth 20000 in
set_option maxHeartbeats 1000000 in
theorem fnPathNone (A : Option Addr) (n c : Nat) (w : World) (h : CodeIs w A n c) :
    Calls Try.prog 4 #[.slice A n c] w (TruePost w) := by
  have HC := Lib.hid h
  clear h
  by_cases hn : 1048576 < n
  · go_enter Try.func4, Try.ntmps4
    go_wp2
    go_ret
    exact ⟨rfl, Below.refl _ _⟩
  have B : Hid (Below w.heap.size w w) := Below.refl _ _
  go_enter Try.func4, Try.ntmps4
  go_wp2_with fail
  ((with_reducible refine (DrawDirectoryPath _ _ _ _ HC.out).mono ?_); rintro e w1 ⟨A0, k0, ep, es, s, h, rfl, hgd, ⟨hds, hb⟩, ⟨hs0, hs1⟩, hh0, hh1⟩)
  replace B := Lib.hid (B.out.trans (hb.mono B.out.size))
  have z1 := hb.size
  have R0 := Lib.hid hds.row_
  have GD := Lib.hid hgd
  clear hgd hds HC
  clear hb
  have hal : Below w1.heap.size w1 (w1.alloc (.cells #[.int .i64 ep, .slice A0 es.length k0] 25)) := (Below.refl _ _).alloc (Nat.le_refl _) _
  have V0 := Lib.hid (vd_new (ep := ep) (lo' := w.heap.size) R0.out (Nat.le_refl _) B.out.size)
  replace B := Lib.hid (B.out.trans (hal.mono B.out.size))
  have zzV0 := hal.size
  clear hal
  clear R0
  obtain ⟨xs, HX⟩ : ∃ xs, Hid (pathF ep es s h = xs) := ⟨_, rfl⟩
  obtain ⟨V00, V01, V0f⟩ := V0.out.1.cells
  go_wp2_with fail
  ((with_reducible refine (pathI HX.out V0.out.st).mono ?_); rintro e w2 ⟨AI5, kI5, rfl, ho, hb⟩)
  replace V0 := Lib.hid (V0.out.below hb (Nat.le_refl _))
  replace B := Lib.hid (B.out.trans (hb.mono B.out.size))
  have z2 := hb.size
  have I5 := Lib.hid ho.ints
  clear ho
  clear V00 V01 V0f hb
  obtain ⟨V00, V01, V0f⟩ := V0.out.1.cells
  go_wp2_with fail
  ((with_reducible refine (pathS HX.out V0.out.st).mono ?_); rintro e w3 ⟨AI6, kI6, rfl, ho, hb⟩)
  replace V0 := Lib.hid (V0.out.below hb (Nat.le_refl _))
  replace I5 := Lib.hid (I5.out.below hb (Nat.le_refl _))
  replace B := Lib.hid (B.out.trans (hb.mono B.out.size))
  have z3 := hb.size
  have I6 := Lib.hid ho.ints
  clear ho
  clear V00 V01 V0f hb
  go_wp2_with fail
  ((with_reducible refine (sameK I5.out I6.out).mono ?_); rintro e w4 ⟨rfl, hb⟩)
  replace V0 := Lib.hid (V0.out.below hb (Nat.le_refl _))
  replace I5 := Lib.hid (I5.out.below hb (Nat.le_refl _))
  replace I6 := Lib.hid (I6.out.below hb (Nat.le_refl _))
  replace B := Lib.hid (B.out.trans (hb.mono B.out.size))
  have z4 := hb.size
  clear hb
  cases hd : dirOk ep es
  · obtain ⟨V00, V01, V0f⟩ := V0.out.1.cells
    go_wp2_with fail
    ((with_reducible refine (validS hd V0.out.st).mono ?_); rintro e w5 ⟨rfl, hb⟩)
    replace V0 := Lib.hid (V0.out.below hb (Nat.le_refl _))
    replace I5 := Lib.hid (I5.out.below hb (Nat.le_refl _))
    replace I6 := Lib.hid (I6.out.below hb (Nat.le_refl _))
    replace B := Lib.hid (B.out.trans (hb.mono B.out.size))
    have z5 := hb.size
    clear V00 V01 V0f hb
    go_wp2_with fail
    ((with_reducible refine (sameK I5.out I6.out).mono ?_); rintro e w6 ⟨rfl, hb⟩)
    replace V0 := Lib.hid (V0.out.below hb (Nat.le_refl _))
    replace I5 := Lib.hid (I5.out.below hb (Nat.le_refl _))
    replace I6 := Lib.hid (I6.out.below hb (Nat.le_refl _))
    replace B := Lib.hid (B.out.trans (hb.mono B.out.size))
    have z6 := hb.size
    clear hb
    go_wp2
    go_ret
    exact ⟨rfl, B.out⟩
  by_cases q0 : s < 0
  · have d0 : decide (s < 0) = true := decide_eq_true q0
    obtain ⟨V00, V01, V0f⟩ := V0.out.1.cells
    go_wp2_with fail
    ((with_reducible refine (validS hd V0.out.st).mono ?_); rintro e w5 ⟨rfl, hb⟩)
    replace V0 := Lib.hid (V0.out.below hb (Nat.le_refl _))
    replace I5 := Lib.hid (I5.out.below hb (Nat.le_refl _))
    replace I6 := Lib.hid (I6.out.below hb (Nat.le_refl _))
    replace B := Lib.hid (B.out.trans (hb.mono B.out.size))
    have z5 := hb.size
    clear V00 V01 V0f hb
    go_wp2_with fail
    ((with_reducible refine (sameK I5.out I6.out).mono ?_); rintro e w6 ⟨rfl, hb⟩)
    replace V0 := Lib.hid (V0.out.below hb (Nat.le_refl _))
    replace I5 := Lib.hid (I5.out.below hb (Nat.le_refl _))
    replace I6 := Lib.hid (I6.out.below hb (Nat.le_refl _))
    replace B := Lib.hid (B.out.trans (hb.mono B.out.size))
    have z6 := hb.size
    clear hb
    go_wp2
    go_ret
    exact ⟨rfl, B.out⟩
  have d0 : decide (s < 0) = false := decide_eq_false q0
  by_cases q1 : 999999 < s
  · have d1 : decide (999999 < s) = true := decide_eq_true q1
    obtain ⟨V00, V01, V0f⟩ := V0.out.1.cells
    go_wp2_with fail
    ((with_reducible refine (validS hd V0.out.st).mono ?_); rintro e w5 ⟨rfl, hb⟩)
    replace V0 := Lib.hid (V0.out.below hb (Nat.le_refl _))
    replace I5 := Lib.hid (I5.out.below hb (Nat.le_refl _))
    replace I6 := Lib.hid (I6.out.below hb (Nat.le_refl _))
    replace B := Lib.hid (B.out.trans (hb.mono B.out.size))
    have z5 := hb.size
    clear V00 V01 V0f hb
    go_wp2_with fail
    ((with_reducible refine (sameK I5.out I6.out).mono ?_); rintro e w6 ⟨rfl, hb⟩)
    replace V0 := Lib.hid (V0.out.below hb (Nat.le_refl _))
    replace I5 := Lib.hid (I5.out.below hb (Nat.le_refl _))
    replace I6 := Lib.hid (I6.out.below hb (Nat.le_refl _))
    replace B := Lib.hid (B.out.trans (hb.mono B.out.size))
    have z6 := hb.size
    clear hb
    go_wp2
    go_ret
    exact ⟨rfl, B.out⟩
  have d1 : decide (999999 < s) = false := decide_eq_false q1
  by_cases q2 : h < 1
  · have d2 : decide (h < 1) = true := decide_eq_true q2
    obtain ⟨V00, V01, V0f⟩ := V0.out.1.cells
    go_wp2_with fail
    ((with_reducible refine (validS hd V0.out.st).mono ?_); rintro e w5 ⟨rfl, hb⟩)
    replace V0 := Lib.hid (V0.out.below hb (Nat.le_refl _))
    replace I5 := Lib.hid (I5.out.below hb (Nat.le_refl _))
    replace I6 := Lib.hid (I6.out.below hb (Nat.le_refl _))
    replace B := Lib.hid (B.out.trans (hb.mono B.out.size))
    have z5 := hb.size
    clear V00 V01 V0f hb
    go_wp2_with fail
    ((with_reducible refine (sameK I5.out I6.out).mono ?_); rintro e w6 ⟨rfl, hb⟩)
    replace V0 := Lib.hid (V0.out.below hb (Nat.le_refl _))
    replace I5 := Lib.hid (I5.out.below hb (Nat.le_refl _))
    replace I6 := Lib.hid (I6.out.below hb (Nat.le_refl _))
    replace B := Lib.hid (B.out.trans (hb.mono B.out.size))
    have z6 := hb.size
    clear hb
    go_wp2
    go_ret
    exact ⟨rfl, B.out⟩
  have d2 : decide (h < 1) = false := decide_eq_false q2
  by_cases q3 : 3 < h
  · have d3 : decide (3 < h) = true := decide_eq_true q3
    obtain ⟨V00, V01, V0f⟩ := V0.out.1.cells
    go_wp2_with fail
    ((with_reducible refine (validS hd V0.out.st).mono ?_); rintro e w5 ⟨rfl, hb⟩)
    replace V0 := Lib.hid (V0.out.below hb (Nat.le_refl _))
    replace I5 := Lib.hid (I5.out.below hb (Nat.le_refl _))
    replace I6 := Lib.hid (I6.out.below hb (Nat.le_refl _))
    replace B := Lib.hid (B.out.trans (hb.mono B.out.size))
    have z5 := hb.size
    clear V00 V01 V0f hb
    go_wp2_with fail
    ((with_reducible refine (sameK I5.out I6.out).mono ?_); rintro e w6 ⟨rfl, hb⟩)
    replace V0 := Lib.hid (V0.out.below hb (Nat.le_refl _))
    replace I5 := Lib.hid (I5.out.below hb (Nat.le_refl _))
    replace I6 := Lib.hid (I6.out.below hb (Nat.le_refl _))
    replace B := Lib.hid (B.out.trans (hb.mono B.out.size))
    have z6 := hb.size
    clear hb
    go_wp2
    go_ret
    exact ⟨rfl, B.out⟩
  have d3 : decide (3 < h) = false := decide_eq_false q3
  have HPN := Lib.hid (path_none (s := s) (h := h) hd (by omega) (by omega))
  rw [HX.out] at HPN
  have HD := Lib.hid hd
  obtain ⟨V00, V01, V0f⟩ := V0.out.1.cells
  go_wp2_with fail
  ((with_reducible refine (validS HD.out V0.out.st).mono ?_); rintro e w5 ⟨rfl, hb⟩)
  replace V0 := Lib.hid (V0.out.below hb (Nat.le_refl _))
  replace I5 := Lib.hid (I5.out.below hb (Nat.le_refl _))
  replace I6 := Lib.hid (I6.out.below hb (Nat.le_refl _))
  replace B := Lib.hid (B.out.trans (hb.mono B.out.size))
  have z5 := hb.size
  clear V00 V01 V0f hb
  have hk1 := V0.out.st.max_
  have hk2 := V0.out.st.cap_
  obtain ⟨HL6, -, -⟩ := GD.out
  clear hd GD q0 q1 q2 q3
  obtain ⟨V00, V01, V0f⟩ := V0.out.1.cells
  go_wp2
  clear d0 d1 d2 d3
  go_loop [8, 9] (fun n i => ∃ t : Nat, t ≤ es.length ∧ i = .int .i64 t ∧ n = .int .i64 ((posN es t : Nat) : Int)) (fun _ i => es.length - (intOf i).toNat)
  case atStart => exact ⟨0, Nat.zero_le _, rfl, rfl⟩
  case round =>
    obtain ⟨t, ht, rfl, rfl⟩ := hrel
    have hpl := posN_le es t
    by_cases hlt : t < es.length
    · obtain ⟨bE, oE, rfl, _, _, _, c0, c1, c2⟩ := V0.out.st.at_ hlt
      have HN := Lib.hid (posN_succ es t)
      clear c0 c1
      by_cases hw : 0 < (enAt es t).wt
      · rw [if_pos hw] at HN
        have dw : decide (0 < (enAt es t).wt) = true := decide_eq_true hw
        clear hw
        generalize (enAt es t).wt = q at *
        generalize posN es t = m at *
        go_wp2
        go_round
        case rel => exact ⟨t + 1, by omega, by go_num, by rw [HN.out]; go_num⟩
        case measure => simp [intOf]; omega
      · rw [if_neg hw] at HN
        have dw : decide (0 < (enAt es t).wt) = false := decide_eq_false hw
        clear hw
        generalize (enAt es t).wt = q at *
        generalize posN es t = m at *
        go_wp2
        go_round
        case rel => exact ⟨t + 1, by omega, by go_num, by rw [HN.out]; rfl⟩
        case measure => simp [intOf]; omega
    · obtain rfl : t = es.length := by omega
      have HPN2 := Lib.hid HPN.out
      clear hlt HPN ht
      generalize posN es es.length = m at *
      by_cases hx : 0 < xs.length
      · have hm : h ≤ (m : Int) := by have := HPN2.out; rw [decide_eq_true hx] at this; simpa using this.symm
        have dx : decide (0 < (xs.length : Int)) = true := by rw [decide_eq_true_eq]; omega
        have dx2 : decide (0 < xs.length) = true := decide_eq_true hx
        have dm : decide (h ≤ (m : Int)) = true := decide_eq_true hm
        clear hx hm HPN2
        go_wp2
        go_ret
        exact ⟨rfl, B.out⟩
      · have hm : ¬ h ≤ (m : Int) := by have := HPN2.out; rw [decide_eq_false hx] at this; simpa using this.symm
        have dx : decide (0 < (xs.length : Int)) = false := by rw [decide_eq_false_iff_not]; omega
        have dx2 : decide (0 < xs.length) = false := decide_eq_false hx
        have dm : decide (h ≤ (m : Int)) = false := decide_eq_false hm
        clear hx hm HPN2
        go_wp2
        go_ret
        exact ⟨rfl, B.out⟩

set_option maxRecDepth 20000 in
set_option maxHeartbeats 1000000 in
theorem fnPickSame (A : Option Addr) (n c : Nat) (A1 : Option Addr) (n1 c1 : Nat) (w : World) (h : CodeIs w A n c) :
    Calls Try.prog 5 #[.slice A n c, .slice A1 n1 c1] w (TruePost w) := by
  have HC := Lib.hid h
  clear h
  by_cases hn : 1048576 < n
  · go_enter Try.func5, Try.ntmps5
    go_wp2
    go_ret
    exact ⟨rfl, Below.refl _ _⟩
  by_cases hn1 : 1048576 < n1
  · go_enter Try.func5, Try.ntmps5
    go_wp2
    go_ret
    exact ⟨rfl, Below.refl _ _⟩
  have B : Hid (Below w.heap.size w w) := Below.refl _ _
  go_enter Try.func5, Try.ntmps5
  go_wp2_with fail
  ((with_reducible refine (DrawDirectoryPick _ _ _ _ HC.out).mono ?_); rintro e w1 ⟨A0, k0, ep, es, p, rfl, hgd, ⟨hds, hb⟩, hp0, hp1⟩)
  replace B := Lib.hid (B.out.trans (hb.mono B.out.size))
  have z1 := hb.size
  have R0 := Lib.hid hds.row_
  have GD := Lib.hid hgd
  clear hgd hds HC
  clear hb
  have hal : Below w1.heap.size w1 (w1.alloc (.cells #[.int .i64 ep, .slice A0 es.length k0] 25)) := (Below.refl _ _).alloc (Nat.le_refl _) _
  have V0 := Lib.hid (vd_new (ep := ep) (lo' := w.heap.size) R0.out (Nat.le_refl _) B.out.size)
  replace B := Lib.hid (B.out.trans (hal.mono B.out.size))
  have zzV0 := hal.size
  clear hal
  clear R0
  obtain ⟨x, HX⟩ : ∃ x, Hid (pickF ep es p = x) := ⟨_, rfl⟩
  obtain ⟨V00, V01, V0f⟩ := V0.out.1.cells
  go_wp2_with fail
  ((with_reducible refine (pickI HX.out V0.out.st (by omega)).mono ?_); rintro e w2 ⟨rfl, hb⟩)
  replace V0 := Lib.hid (V0.out.below hb (Nat.le_refl _))
  replace B := Lib.hid (B.out.trans (hb.mono B.out.size))
  have z2 := hb.size
  clear V00 V01 V0f hb
  obtain ⟨V00, V01, V0f⟩ := V0.out.1.cells
  go_wp2_with fail
  ((with_reducible refine (pickS HX.out V0.out.st (by omega)).mono ?_); rintro e w3 ⟨rfl, hb⟩)
  replace V0 := Lib.hid (V0.out.below hb (Nat.le_refl _))
  replace B := Lib.hid (B.out.trans (hb.mono B.out.size))
  have z3 := hb.size
  clear V00 V01 V0f hb
  have e0 : (x != x) = false := by simp
  have e1 : (x == x) = true := by simp
  by_cases hx0 : x < 0
  · go_wp2
    go_ret
    exact ⟨rfl, B.out⟩
  have hx0d : decide (x < 0) = false := by simp; omega
  have HF := Lib.hid (pickF_of HX.out (by omega))
  obtain ⟨HD, HQ, HP0, HL⟩ := HF.out
  have HNN := Lib.hid (nn_of (dirOk_iff.1 HD).1)
  obtain ⟨r, hr, hr3⟩ : ∃ r : Nat, ((n1 : Nat) : Int).tmod 12 = (r : Int) ∧ r < 12 := ⟨n1 % 12, by rw [Int.tmod_eq_emod_of_nonneg (by omega)]; omega, by omega⟩
  have hr12 : (r : Int) ≤ 11 := by omega
  have hr0 : 0 ≤ (r : Int) := by omega
  have ew1 : IntKind.i64.wrap (p + r) = p + r := IntWalk.i64_in _ (by omega)
  have HPT : Hid (pickF ep es (p + r) = x → ∀ t : Nat, t ≤ r → pickF ep es (p + t) = x) := fun h t ht => by
    rw [pickF_yes HD (by omega)] at h ⊢
    rw [pick_between HNN.out HP0 (x := p + t) (q := p + r) (by omega) (by omega) (by rw [HL]; omega) (by rw [h, HL]), HL]
  obtain ⟨x2, HX2, HM⟩ : ∃ x2, Hid (pickF ep es (p + r) = x2) ∧ Hid (x2 = x → ∀ t : Nat, t ≤ r → pickF ep es (p + t) = x) := ⟨_, rfl, HPT.out⟩
  clear HD HQ HL hx0
  obtain ⟨V00, V01, V0f⟩ := V0.out.1.cells
  go_wp2_with fail
  ((with_reducible refine (pickI HX2.out V0.out.st (by omega)).mono ?_); rintro e w4 ⟨rfl, hb⟩)
  replace V0 := Lib.hid (V0.out.below hb (Nat.le_refl _))
  replace B := Lib.hid (B.out.trans (hb.mono B.out.size))
  have z4 := hb.size
  clear V00 V01 V0f hb
  by_cases h1 : x2 = x
  · have HT := Lib.hid (HM.out h1)
    subst h1
    have e3 : (x2 != x2) = false := by simp
    clear HM HPT
    obtain ⟨V00, V01, V0f⟩ := V0.out.1.cells
    go_wp2
    clear V00 V01 V0f
    go_loopw [10] (fun i wr => ∃ t : Nat, t ≤ r + 1 ∧ i = .int .i64 (p + t) ∧ Hid (Vd w.heap.size wr w1.heap.size ep A0 k0 es) ∧ Hid (Below w.heap.size w wr)) (fun i _ => (p + r + 1 - intOf i).toNat)
    case atStart => exact ⟨0, Nat.zero_le _, by simp, V0.out, B.out⟩
    case round =>
      obtain ⟨t, ht, rfl, hV, hB⟩ := hrel
      clear V0 B
      obtain ⟨V00, V01, V0f⟩ := hV.out.1.cells
      by_cases hlt : t ≤ r
      · have hle : p + (t : Int) ≤ p + (r : Int) := by omega
        go_wp2_with fail
        ((with_reducible refine (pickI (HT.out t hlt) hV.out.st (by omega)).mono ?_); rintro e w9 ⟨rfl, hb9⟩)
        have HV := Lib.hid (hV.out.below hb9 (Nat.le_refl _))
        have HB := Lib.hid (hB.out.trans (hb9.mono hB.out.size))
        clear hV hB hb9 V00 V01 V0f
        go_wp2
        go_roundw
        case rel => exact ⟨t + 1, by omega, by go_num, HV.out, HB.out⟩
        case measure => simp [intOf]; omega
      · have hle : ¬ p + (t : Int) ≤ p + (r : Int) := by omega
        go_wp2
        go_ret
        exact ⟨rfl, hB.out⟩
  · have e3 : (x2 != x) = true := by simpa using h1
    clear HM HPT
    go_wp2
    go_ret
    exact ⟨rfl, B.out⟩

end Law9
end Go.Proofs.Ytfjggpdinfidcab
