/-
  Draws of chapter 32: batches.
-/
import Derived.Test.YtcbhjnjallnidabRda
import Derived.Test.YtcbhjnjallnidabIla
import Derived.OwnWalk
namespace Go.Proofs.Ytcbhjnjallnidab
open Go.RowKit
namespace Rd
open Il

/-- Senders, receivers and a number are drawn. -/
def TwoB (w : World) (e : Ending) (w' : World) : Prop := ∃ A c B d ss rs nm, e = .returned (.tuple #[.slice A ss.length c, .slice B rs.length d, .int .i64 nm]) ∧ Ints w.heap.size w'.heap.size w' A ss.length c ss ∧ Ints w.heap.size w'.heap.size w' B rs.length d rs ∧ Below w.heap.size w w' ∧ ss.length ≤ 9
/-- While they are drawn. -/
def BdR (N g1 g2 : Nat) (w wr : World) (v1 v2 : Value) (xs ys : List Int) : Prop :=
  Reader wr w.heap.size N ∧ Below w.heap.size w wr ∧ g1 ≠ g2 ∧ w.heap.size < g1 ∧ w.heap.size < g2 ∧ AccB g1 wr v1 xs ∧ AccB g2 wr v2 ys
section
variable {N M g1 g2 : Nat} {w wr w2 : World} {v1 v2 v : Value} {xs ys : List Int} {x : Int}
theorem BdR.rd (h : BdR N g1 g2 w wr v1 v2 xs ys) : Reader wr w.heap.size N := h.1
theorem BdR.fst (h : BdR N g1 g2 w wr v1 v2 xs ys) : AccB g1 wr v1 xs := h.2.2.2.2.2.1
theorem BdR.snd (h : BdR N g1 g2 w wr v1 v2 xs ys) : AccB g2 wr v2 ys := h.2.2.2.2.2.2
theorem bel_rd {w w1 w2 : World} (hb : Below w.heap.size w w1) (hg : w1.grownBy w2 (some w.heap.size)) : Below w.heap.size w w2 := hb.grown hg hb.size fun k e => by cases e; exact Nat.le_refl _
theorem BdR.grown (h : BdR N g1 g2 w wr v1 v2 xs ys) (hg : wr.grownBy w2 (some w.heap.size)) (hr : Reader w2 w.heap.size M) : BdR M g1 g2 w w2 v1 v2 xs ys := by
  obtain ⟨_, h2, h3, h4, h5, h6, h7⟩ := h
  exact ⟨hr, bel_rd h2 hg, h3, h4, h5, h6.keep hg (by simp; omega), h7.keep hg (by simp; omega)⟩
theorem BdR.mono (h : BdR N g1 g2 w wr v1 v2 xs ys) (hM : N ≤ M) : BdR M g1 g2 w wr v1 v2 xs ys := ⟨h.1.mono hM, h.2⟩
theorem BdR.app1 {g : Nat} (h : BdR N g1 g2 w wr v1 v2 xs ys) (ha : AccB g w2 v (xs ++ [x])) (hg : g = g1 ∨ wr.heap.size < g) (hgr : wr.grownBy w2 (some g1)) : BdR N g g2 w w2 v v2 (xs ++ [x]) ys := by
  obtain ⟨h1, h2, h3, h4, h5, h6, h7⟩ := h
  have := h7.lt
  have := h2.size
  exact ⟨h1.keep fun i hi => hgr.block i (by have := h1.lt; omega) (by simp; omega), h2.grown hgr h2.size (fun k hk => by cases hk; omega), by omega, by omega, h5, ha, h7.keep hgr (by simp; omega)⟩
theorem BdR.app2 {g : Nat} (h : BdR N g1 g2 w wr v1 v2 xs ys) (ha : AccB g w2 v (ys ++ [x])) (hg : g = g2 ∨ wr.heap.size < g) (hgr : wr.grownBy w2 (some g2)) : BdR N g1 g w w2 v1 v xs (ys ++ [x]) := by
  obtain ⟨h1, h2, h3, h4, h5, h6, h7⟩ := h
  have := h6.lt
  have := h2.size
  exact ⟨h1.keep fun i hi => hgr.block i (by have := h1.lt; omega) (by simp; omega), h2.grown hgr h2.size (fun k hk => by cases hk; omega), by omega, h4, by omega, h6.keep hgr (by simp; omega), ha⟩
end
/-- Both lists are drawn. -/
def EdR (N g1 g2 : Nat) (w wr : World) (A B : Option Addr) (n c d : Nat) (xs ys : List Int) : Prop :=
  Reader wr w.heap.size N ∧ Below w.heap.size w wr ∧ g1 ≠ g2 ∧ w.heap.size < g1 ∧ w.heap.size < g2 ∧ g1 < wr.heap.size ∧ g2 < wr.heap.size ∧ Ints g1 (g1 + 1) wr A n c xs ∧ Il.Own g2 (g2 + 1) wr B n d ys
section
variable {N M g1 g2 n c d : Nat} {w wr w2 : World} {A B : Option Addr} {v1 v2 : Value} {xs ys : List Int}
theorem BdR.ed (h : BdR N g1 g2 w wr v1 v2 xs ys) (hx : xs.length = n) (hy : ys.length = n) : ∃ A c B d, v1 = .slice A n c ∧ v2 = .slice B n d ∧ EdR N g1 g2 w wr A B n c d xs ys := by
  obtain ⟨h1, h2, h3, h4, h5, h6, h7⟩ := h
  obtain ⟨c, e1, o1⟩ := h6.own
  obtain ⟨d, e2, o2⟩ := h7.own
  have l1 := h6.lt
  have l2 := h7.lt
  rw [hx] at e1 o1
  rw [hy] at e2 o2
  exact ⟨_, c, _, d, e1, e2, h1, h2, h3, h4, h5, l1, l2, o1.ints, o2⟩
theorem EdR.rd (h : EdR N g1 g2 w wr A B n c d xs ys) : Reader wr w.heap.size N := h.1
theorem EdR.own (h : EdR N g1 g2 w wr A B n c d xs ys) : Il.Own g2 (g2 + 1) wr B n d ys := by
  obtain ⟨_, _, _, _, _, _, _, _, h⟩ := h
  exact h
theorem EdR.grown (h : EdR N g1 g2 w wr A B n c d xs ys) (hg : wr.grownBy w2 (some w.heap.size)) (hr : Reader w2 w.heap.size M) : EdR M g1 g2 w w2 A B n c d xs ys := by
  obtain ⟨_, h2, h3, h4, h5, h6, h7, h8, h9⟩ := h
  exact ⟨hr, bel_rd h2 hg, h3, h4, h5, Nat.lt_of_lt_of_le h6 hg.size, Nat.lt_of_lt_of_le h7 hg.size, h8.grown hg (fun k e => by cases e; left; exact h4), h9.grown hg (fun k e => by cases e; left; exact h5)⟩
theorem EdR.set {b off j : Nat} (h : EdR N g1 g2 w wr A (some ⟨b, off, none⟩) n c d xs ys) (hj : j < n) (x : Int) : EdR N g1 g2 w (wr.setCell ⟨b, off + j, none⟩ (.int .i64 x)) A (some ⟨b, off, none⟩) n c d xs (ys.set j x) := by
  obtain ⟨h1, h2, h3, h4, h5, h6, h7, h8, h9⟩ := h
  obtain ⟨b', off', e, q1, q2, _⟩ := h9.1.2.2.2 (by omega)
  simp only [Option.some.injEq, Addr.mk.injEq, and_true] at e
  obtain ⟨rfl, rfl⟩ := e
  have hz : (wr.setCell ⟨b, off + j, none⟩ (.int .i64 x)).heap.size = wr.heap.size := by simp [World.setCell]
  exact ⟨h1.keep fun i hi => Below.heap_setCell _ _ _ _ (show i ≠ b by omega), h2.setCell (p := ⟨b, off + j, none⟩) (show w.heap.size ≤ b by omega) _, h3, h4, h5, by rw [hz]; exact h6, by rw [hz]; exact h7,
    h8.keep (Nat.le_of_eq hz.symm) (fun q r1 r2 _ => Below.heap_setCell _ _ _ _ (show q ≠ b by omega)), h9.set_ hj x⟩
theorem EdR.post (h : EdR N g1 g2 w wr A B n c d xs ys) (hn : n ≤ 9) (nm : Int) : TwoB w (.returned (.tuple #[.slice A n c, .slice B n d, .int .i64 nm])) wr := by
  obtain ⟨h1, h2, h3, h4, h5, h6, h7, h8, h9⟩ := h
  have hx := h8.1
  have hy := h9.1.1
  refine ⟨A, c, B, d, xs, ys, nm, by rw [hx, hy], ?_, ?_, h2, by rw [hx]; exact hn⟩
  · rw [hx]; exact h8.mono (by omega) (by omega)
  · rw [hy]; exact h9.ints.mono (by omega) (by omega)
end
theorem bdR_new {N : Nat} {w w1 : World} (hr : Reader w1 w.heap.size N) (hb : Below w.heap.size w w1) : BdR N w1.heap.size (w1.heap.size + 1) w ((w1.alloc (.cells #[] 3)).alloc (.cells #[] 3)) (.slice (some ⟨w1.heap.size, 0, none⟩) 0 0) (.slice (some ⟨w1.heap.size + 1, 0, none⟩) 0 0) [] [] := by
  have e : (w1.alloc (.cells #[] 3)).heap.size = w1.heap.size + 1 := by simp
  have h := accB_new (w1.alloc (.cells #[] 3))
  rw [e] at h
  have := hr.lt
  exact ⟨(hr.alloc _).alloc _, (hb.alloc hb.size _).alloc (by have := hb.size; simp; omega) _, by omega, this, by omega, (accB_new w1).alloc _, h⟩
set_option maxRecDepth 20000 in
set_option maxHeartbeats 4000000 in
theorem DrawBatchFlows (A : Option Addr) (n c : Nat) (w : World) (h : CodeIs w A n c) : Calls Try.prog 10 #[.slice A n c] w (TwoB w) := by
  go_enter Try.func10, Try.ntmps10
  go_wp2_with fail
  ((with_reducible refine (l6Open A n c w h).mono ?_); rintro e w1 ⟨rfl, hr1, hb1, hs1⟩)
  have H0 := Lib.hid (bdR_new hr1 hb1)
  clear hb1 hr1 hs1
  go_wp2_with fail
  ((with_reducible refine (pick _ _ 7 _ H0.out.rd (by omega) (by omega) (by omega)).mono ?_); rintro e w2 ⟨n1, rfl, hn0, hn1, r2, g2, s2⟩)
  have H1 := Lib.hid (H0.out.grown g2 r2)
  clear r2 g2 s2 H0
  go_wp2_with fail
  ((with_reducible refine (pick _ _ 12 _ H1.out.rd (by omega) (by omega) (by omega)).mono ?_); rintro e w3 ⟨v2, rfl, hv0, hv1, r3, g3, s3⟩)
  have H2 := Lib.hid (H1.out.grown g3 r3)
  clear r3 g3 s3 H1
  by_cases hz : v2 = 0
  · subst hz
    go_wp2_with fail
    ((with_reducible refine (pick _ _ 2 _ H2.out.rd (by omega) (by omega) (by omega)).mono ?_); rintro e w3b ⟨v3, rfl, hu0, hu1, r3, g3, s3⟩)
    have H3 := Lib.hid (H2.out.grown g3 r3)
    clear r3 g3 s3 H2
    obtain rfl | rfl : v3 = 0 ∨ v3 = 1 := by omega
    · have _h := trivial
      go_wp2
      go_loopw [6, 7, 9] (fun v1 v2 i wr => ∃ (k g1 g2 : Nat) (xs ys : List Int), k ≤ 8 ∧ i = .int .i64 (k : Int) ∧ Hid (xs.length = k ∧ ys.length = k) ∧ Hid (BdR (3 + 2 * k) g1 g2 w wr v1 v2 xs ys)) (fun _ _ i _ => 8 - (intOf i).toNat)
      case atStart => exact ⟨0, _, _, [], [], Nat.zero_le _, rfl, ⟨rfl, rfl⟩, H3.out⟩
      case round =>
        obtain ⟨k, g1, g2, xs, ys, hk, rfl, hL, hR⟩ := hrel
        clear H3
        by_cases hlt : k < 8
        · have hki : decide ((k : Int) < 8) = true := by simp; omega
          go_wp2_with fail
          ((with_reducible refine (pick _ _ 8 _ hR.out.rd (by omega) (by omega) (by omega)).mono ?_); rintro e w4 ⟨p1, rfl, ha0, ha1, r4, g4, s4⟩)
          have H4 := Lib.hid (hR.out.grown g4 r4)
          clear r4 g4 s4 hR
          have F4 := Lib.hid H4.out.fst
          go_wp2_with (at_builtin; refine wpList_app1B g1 _ _ xs p1 F4.out (by have := hL.out.1; omega) _ _ rfl rfl rfl rfl ?_; intro g5 v5 w5 hN5 hg5 hB5)
          have H5 := Lib.hid (H4.out.app1 hN5 hg5 hB5)
          clear hN5 hg5 hB5 H4 F4
          ((with_reducible refine (pick _ _ 8 _ H5.out.rd (by omega) (by omega) (by omega)).mono ?_); rintro e w6 ⟨p2, rfl, hb0, hb1, r6, g6, s6⟩)
          have H6 := Lib.hid (H5.out.grown g6 r6)
          clear r6 g6 s6 H5
          have F6 := Lib.hid H6.out.snd
          go_wp2_with (at_builtin; refine wpList_app1B g2 _ _ ys p2 F6.out (by have := hL.out.2; omega) _ _ rfl rfl rfl rfl ?_; intro g7 v7 w7 hN7 hg7 hB7)
          have H7 := Lib.hid (H6.out.app2 hN7 hg7 hB7)
          have HL2 : Hid ((xs ++ [p1]).length = k + 1 ∧ (ys ++ [p2]).length = k + 1) := ⟨by rw [List.length_append, hL.out.1]; rfl, by rw [List.length_append, hL.out.2]; rfl⟩
          clear hN7 hg7 hB7 H6 F6
          go_wp2
          go_roundw
          case rel => exact ⟨k + 1, _, _, _, _, by omega, by go_num, HL2.out, H7.out.mono (by omega)⟩
          case measure => simp [intOf]; omega
        · obtain rfl : k = 8 := by omega
          have hki : decide ((8 : Int) < 8) = false := by simp
          obtain ⟨A6, c6, B7, d7, rfl, rfl, hE⟩ := hR.out.ed hL.out.1 hL.out.2
          clear hR hlt hL
          have HE := Lib.hid hE
          have hcd := hE.own.1.2.1
          have hcm := hE.own.1.2.2.1
          unfold maxLen at hcm
          clear hE
          go_wp2_with fail
          ((with_reducible refine (pick _ _ 20 _ HE.out.rd (by omega) (by omega) (by omega)).mono ?_); rintro e w4 ⟨p4, rfl, ha0, ha1, r4, g4, s4⟩)
          have H4 := Lib.hid (HE.out.grown g4 r4)
          clear r4 g4 s4 HE
          by_cases hz4 : p4 = 0
          · subst hz4
            go_wp2_with fail
            ((with_reducible refine (pick _ _ 8 _ H4.out.rd (by omega) (by omega) (by omega)).mono ?_); rintro e w5 ⟨p5, rfl, hb0, hb1, r5, g5, s5⟩)
            have H5 := Lib.hid (H4.out.grown g5 r5)
            clear r5 g5 s5 H4
            obtain ⟨j, rfl⟩ := Int.eq_ofNat_of_zero_le hb0
            go_wp2_with fail
            ((with_reducible refine (pick _ _ 2 _ H5.out.rd (by omega) (by omega) (by omega)).mono ?_); rintro e w6 ⟨p6, rfl, hc0, hc1, r6, g6, s6⟩)
            have H6 := Lib.hid (H5.out.grown g6 r6)
            clear r6 g6 s6 H5
            have hj : j < 8 := by omega
            have ew1 : IntKind.i64.wrap (p6 * 9) = p6 * 9 := IntWalk.i64_in _ (by omega)
            have ew2 : IntKind.i64.wrap (p6 * 9 - 1) = p6 * 9 - 1 := IntWalk.i64_in _ (by omega)
            obtain ⟨b, off, rfl, _, _, c0⟩ := H6.out.own.1.at_ hj
            have f0 := H6.out.own.2 b off (by omega) rfl j hj
            have H7 := Lib.hid (H6.out.set hj (p6 * 9 - 1))
            clear H6
            go_wp2_with fail
            ((with_reducible refine (pick _ _ 100 _ H7.out.rd (by omega) (by omega) (by omega)).mono ?_); rintro e w7 ⟨p7, rfl, hd0, hd1, r7, g7, s7⟩)
            have HP := Lib.hid ((H7.out.grown g7 r7).post (by omega) p7)
            clear r7 g7 s7 H7 c0 f0
            go_wp2
            go_ret3
            exact HP.out
          · have hz4' : (p4 == 0) = false := by simpa using hz4
            clear hz4
            go_wp2_with fail
            ((with_reducible refine (pick _ _ 100 _ H4.out.rd (by omega) (by omega) (by omega)).mono ?_); rintro e w7 ⟨p7, rfl, hd0, hd1, r7, g7, s7⟩)
            have HP := Lib.hid ((H4.out.grown g7 r7).post (by omega) p7)
            clear r7 g7 s7 H4
            go_wp2
            go_ret3
            exact HP.out
    · have _h := trivial
      go_wp2
      go_loopw [6, 7, 9] (fun v1 v2 i wr => ∃ (k g1 g2 : Nat) (xs ys : List Int), k ≤ 9 ∧ i = .int .i64 (k : Int) ∧ Hid (xs.length = k ∧ ys.length = k) ∧ Hid (BdR (3 + 2 * k) g1 g2 w wr v1 v2 xs ys)) (fun _ _ i _ => 9 - (intOf i).toNat)
      case atStart => exact ⟨0, _, _, [], [], Nat.zero_le _, rfl, ⟨rfl, rfl⟩, H3.out⟩
      case round =>
        obtain ⟨k, g1, g2, xs, ys, hk, rfl, hL, hR⟩ := hrel
        clear H3
        by_cases hlt : k < 9
        · have hki : decide ((k : Int) < 9) = true := by simp; omega
          go_wp2_with fail
          ((with_reducible refine (pick _ _ 8 _ hR.out.rd (by omega) (by omega) (by omega)).mono ?_); rintro e w4 ⟨p1, rfl, ha0, ha1, r4, g4, s4⟩)
          have H4 := Lib.hid (hR.out.grown g4 r4)
          clear r4 g4 s4 hR
          have F4 := Lib.hid H4.out.fst
          go_wp2_with (at_builtin; refine wpList_app1B g1 _ _ xs p1 F4.out (by have := hL.out.1; omega) _ _ rfl rfl rfl rfl ?_; intro g5 v5 w5 hN5 hg5 hB5)
          have H5 := Lib.hid (H4.out.app1 hN5 hg5 hB5)
          clear hN5 hg5 hB5 H4 F4
          ((with_reducible refine (pick _ _ 8 _ H5.out.rd (by omega) (by omega) (by omega)).mono ?_); rintro e w6 ⟨p2, rfl, hb0, hb1, r6, g6, s6⟩)
          have H6 := Lib.hid (H5.out.grown g6 r6)
          clear r6 g6 s6 H5
          have F6 := Lib.hid H6.out.snd
          go_wp2_with (at_builtin; refine wpList_app1B g2 _ _ ys p2 F6.out (by have := hL.out.2; omega) _ _ rfl rfl rfl rfl ?_; intro g7 v7 w7 hN7 hg7 hB7)
          have H7 := Lib.hid (H6.out.app2 hN7 hg7 hB7)
          have HL2 : Hid ((xs ++ [p1]).length = k + 1 ∧ (ys ++ [p2]).length = k + 1) := ⟨by rw [List.length_append, hL.out.1]; rfl, by rw [List.length_append, hL.out.2]; rfl⟩
          clear hN7 hg7 hB7 H6 F6
          go_wp2
          go_roundw
          case rel => exact ⟨k + 1, _, _, _, _, by omega, by go_num, HL2.out, H7.out.mono (by omega)⟩
          case measure => simp [intOf]; omega
        · obtain rfl : k = 9 := by omega
          have hki : decide ((9 : Int) < 9) = false := by simp
          obtain ⟨A6, c6, B7, d7, rfl, rfl, hE⟩ := hR.out.ed hL.out.1 hL.out.2
          clear hR hlt hL
          have HE := Lib.hid hE
          have hcd := hE.own.1.2.1
          have hcm := hE.own.1.2.2.1
          unfold maxLen at hcm
          clear hE
          go_wp2_with fail
          ((with_reducible refine (pick _ _ 20 _ HE.out.rd (by omega) (by omega) (by omega)).mono ?_); rintro e w4 ⟨p4, rfl, ha0, ha1, r4, g4, s4⟩)
          have H4 := Lib.hid (HE.out.grown g4 r4)
          clear r4 g4 s4 HE
          by_cases hz4 : p4 = 0
          · subst hz4
            go_wp2_with fail
            ((with_reducible refine (pick _ _ 9 _ H4.out.rd (by omega) (by omega) (by omega)).mono ?_); rintro e w5 ⟨p5, rfl, hb0, hb1, r5, g5, s5⟩)
            have H5 := Lib.hid (H4.out.grown g5 r5)
            clear r5 g5 s5 H4
            obtain ⟨j, rfl⟩ := Int.eq_ofNat_of_zero_le hb0
            go_wp2_with fail
            ((with_reducible refine (pick _ _ 2 _ H5.out.rd (by omega) (by omega) (by omega)).mono ?_); rintro e w6 ⟨p6, rfl, hc0, hc1, r6, g6, s6⟩)
            have H6 := Lib.hid (H5.out.grown g6 r6)
            clear r6 g6 s6 H5
            have hj : j < 9 := by omega
            have ew1 : IntKind.i64.wrap (p6 * 9) = p6 * 9 := IntWalk.i64_in _ (by omega)
            have ew2 : IntKind.i64.wrap (p6 * 9 - 1) = p6 * 9 - 1 := IntWalk.i64_in _ (by omega)
            obtain ⟨b, off, rfl, _, _, c0⟩ := H6.out.own.1.at_ hj
            have f0 := H6.out.own.2 b off (by omega) rfl j hj
            have H7 := Lib.hid (H6.out.set hj (p6 * 9 - 1))
            clear H6
            go_wp2_with fail
            ((with_reducible refine (pick _ _ 100 _ H7.out.rd (by omega) (by omega) (by omega)).mono ?_); rintro e w7 ⟨p7, rfl, hd0, hd1, r7, g7, s7⟩)
            have HP := Lib.hid ((H7.out.grown g7 r7).post (by omega) p7)
            clear r7 g7 s7 H7 c0 f0
            go_wp2
            go_ret3
            exact HP.out
          · have hz4' : (p4 == 0) = false := by simpa using hz4
            clear hz4
            go_wp2_with fail
            ((with_reducible refine (pick _ _ 100 _ H4.out.rd (by omega) (by omega) (by omega)).mono ?_); rintro e w7 ⟨p7, rfl, hd0, hd1, r7, g7, s7⟩)
            have HP := Lib.hid ((H4.out.grown g7 r7).post (by omega) p7)
            clear r7 g7 s7 H4
            go_wp2
            go_ret3
            exact HP.out
  · have hz' : (v2 == 0) = false := by simpa using hz
    obtain ⟨q, rfl⟩ := Int.eq_ofNat_of_zero_le hn0
    have H3 := Lib.hid (H2.out.mono (M := 3) (by omega))
    clear hz H2
    go_wp2
    go_loopw [6, 7, 9] (fun v1 v2 i wr => ∃ (k g1 g2 : Nat) (xs ys : List Int), k ≤ q ∧ i = .int .i64 (k : Int) ∧ Hid (xs.length = k ∧ ys.length = k) ∧ Hid (BdR (3 + 2 * k) g1 g2 w wr v1 v2 xs ys)) (fun _ _ i _ => q - (intOf i).toNat)
    case atStart => exact ⟨0, _, _, [], [], Nat.zero_le _, rfl, ⟨rfl, rfl⟩, H3.out⟩
    case round =>
      obtain ⟨k, g1, g2, xs, ys, hk, rfl, hL, hR⟩ := hrel
      clear H3
      by_cases hlt : k < q
      · have hki : decide ((k : Int) < (q : Int)) = true := by simp; omega
        go_wp2_with fail
        ((with_reducible refine (pick _ _ 8 _ hR.out.rd (by omega) (by omega) (by omega)).mono ?_); rintro e w4 ⟨p1, rfl, ha0, ha1, r4, g4, s4⟩)
        have H4 := Lib.hid (hR.out.grown g4 r4)
        clear r4 g4 s4 hR
        have F4 := Lib.hid H4.out.fst
        go_wp2_with (at_builtin; refine wpList_app1B g1 _ _ xs p1 F4.out (by have := hL.out.1; omega) _ _ rfl rfl rfl rfl ?_; intro g5 v5 w5 hN5 hg5 hB5)
        have H5 := Lib.hid (H4.out.app1 hN5 hg5 hB5)
        clear hN5 hg5 hB5 H4 F4
        ((with_reducible refine (pick _ _ 8 _ H5.out.rd (by omega) (by omega) (by omega)).mono ?_); rintro e w6 ⟨p2, rfl, hb0, hb1, r6, g6, s6⟩)
        have H6 := Lib.hid (H5.out.grown g6 r6)
        clear r6 g6 s6 H5
        have F6 := Lib.hid H6.out.snd
        go_wp2_with (at_builtin; refine wpList_app1B g2 _ _ ys p2 F6.out (by have := hL.out.2; omega) _ _ rfl rfl rfl rfl ?_; intro g7 v7 w7 hN7 hg7 hB7)
        have H7 := Lib.hid (H6.out.app2 hN7 hg7 hB7)
        have HL2 : Hid ((xs ++ [p1]).length = k + 1 ∧ (ys ++ [p2]).length = k + 1) := ⟨by rw [List.length_append, hL.out.1]; rfl, by rw [List.length_append, hL.out.2]; rfl⟩
        clear hN7 hg7 hB7 H6 F6
        go_wp2
        go_roundw
        case rel => exact ⟨k + 1, _, _, _, _, by omega, by go_num, HL2.out, H7.out.mono (by omega)⟩
        case measure => simp [intOf]; omega
      · obtain rfl : q = k := by omega
        have hki : decide ((q : Int) < (q : Int)) = false := by simp
        obtain ⟨A6, c6, B7, d7, rfl, rfl, hE⟩ := hR.out.ed hL.out.1 hL.out.2
        clear hR hlt hL
        by_cases hq0 : 0 < q
        · have dq : decide (0 < (q : Int)) = true := by simp; omega
          have HE := Lib.hid hE
          have hcd := hE.own.1.2.1
          have hcm := hE.own.1.2.2.1
          unfold maxLen at hcm
          clear hE
          go_wp2_with fail
          ((with_reducible refine (pick _ _ 20 _ HE.out.rd (by omega) (by omega) (by omega)).mono ?_); rintro e w4 ⟨p4, rfl, ha0, ha1, r4, g4, s4⟩)
          have H4 := Lib.hid (HE.out.grown g4 r4)
          clear r4 g4 s4 HE
          by_cases hz4 : p4 = 0
          · subst hz4
            go_wp2_with fail
            ((with_reducible refine (pick _ _ (q : Int) _ H4.out.rd (by omega) (by omega) (by omega)).mono ?_); rintro e w5 ⟨p5, rfl, hb0, hb1, r5, g5, s5⟩)
            have H5 := Lib.hid (H4.out.grown g5 r5)
            clear r5 g5 s5 H4
            obtain ⟨j, rfl⟩ := Int.eq_ofNat_of_zero_le hb0
            go_wp2_with fail
            ((with_reducible refine (pick _ _ 2 _ H5.out.rd (by omega) (by omega) (by omega)).mono ?_); rintro e w6 ⟨p6, rfl, hc0, hc1, r6, g6, s6⟩)
            have H6 := Lib.hid (H5.out.grown g6 r6)
            clear r6 g6 s6 H5
            have hj : j < q := by omega
            have ew1 : IntKind.i64.wrap (p6 * 9) = p6 * 9 := IntWalk.i64_in _ (by omega)
            have ew2 : IntKind.i64.wrap (p6 * 9 - 1) = p6 * 9 - 1 := IntWalk.i64_in _ (by omega)
            obtain ⟨b, off, rfl, _, _, c0⟩ := H6.out.own.1.at_ hj
            have f0 := H6.out.own.2 b off (by omega) rfl j hj
            have H7 := Lib.hid (H6.out.set hj (p6 * 9 - 1))
            clear H6
            go_wp2_with fail
            ((with_reducible refine (pick _ _ 100 _ H7.out.rd (by omega) (by omega) (by omega)).mono ?_); rintro e w7 ⟨p7, rfl, hd0, hd1, r7, g7, s7⟩)
            have HP := Lib.hid ((H7.out.grown g7 r7).post (by omega) p7)
            clear r7 g7 s7 H7 c0 f0
            go_wp2
            go_ret3
            exact HP.out
          · have hz4' : (p4 == 0) = false := by simpa using hz4
            clear hz4
            go_wp2_with fail
            ((with_reducible refine (pick _ _ 100 _ H4.out.rd (by omega) (by omega) (by omega)).mono ?_); rintro e w7 ⟨p7, rfl, hd0, hd1, r7, g7, s7⟩)
            have HP := Lib.hid ((H4.out.grown g7 r7).post (by omega) p7)
            clear r7 g7 s7 H4
            go_wp2
            go_ret3
            exact HP.out
        · obtain rfl : q = 0 := by omega
          have HE := Lib.hid hE
          clear hE
          go_wp2_with fail
          ((with_reducible refine (pick _ _ 100 _ HE.out.rd (by omega) (by omega) (by omega)).mono ?_); rintro e w7 ⟨p7, rfl, hd0, hd1, r7, g7, s7⟩)
          have HP := Lib.hid ((HE.out.grown g7 r7).post (by omega) p7)
          clear r7 g7 s7 HE
          go_wp2
          go_ret3
          exact HP.out
end Rd
end Go.Proofs.Ytcbhjnjallnidab
