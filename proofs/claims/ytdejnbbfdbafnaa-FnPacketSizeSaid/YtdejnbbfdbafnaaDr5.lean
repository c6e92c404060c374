/-
  Contracts of the functions that draw paths and what a packet is made of out of a code.
-/
import Derived.Test.YtdejnbbfdbafnaaRda
import Derived.Test.YtdejnbbfdbafnaaIla
namespace Go.Proofs.Ytdejnbbfdbafnaa
open Go.RowKit
namespace Rd
open Il

set_option maxRecDepth 20000 in
theorem l91Good (rb N : Nat) (w : World) (hr : Reader w rb N) (hN : N ≤ 90000) :
    Calls Try.prog 71 #[.pointer (some ⟨rb, 0, none⟩)] w (NumPost 1 996 rb (N + 2) w) := by
  have HR := Lib.hid hr
  clear hr
  go_enter Try.func71, Try.ntmps71
  go_wp2_with fail
  ((with_reducible refine (pick rb N _ _ HR.out (by omega) (by omega) (by omega)).mono ?_); rintro e w1 ⟨v1, rfl, hv0, hv1, r1, g1, s1⟩)
  have R1 := Lib.hid r1
  have G1 := Lib.hid g1
  clear r1 g1 s1
  go_wp2_with fail
  ((with_reducible refine (pick rb (N + 1) _ _ R1.out (by omega) (by omega) (by omega)).mono ?_); rintro e w2 ⟨v2, rfl, hu0, hu1, r2, g2, s2⟩)
  have H : Hid (∀ v : Int, 1 ≤ v → v ≤ 996 → NumPost 1 996 rb (N + 2) w (.returned (.int .i64 v)) w2) := fun v a b => ⟨v, rfl, a, b, r2.mono (by omega), grown_trans G1.out g2⟩
  clear r2 g2 s2
  go_wp2
  go_ret
  exact H.out _ (by omega) (by omega)

def PathPost (rb N : Nat) (w : World) (e : Ending) (w' : World) : Prop :=
  ∃ A c B d ps ns, e = .returned (.tuple #[.slice A ps.length c, .slice B ns.length d]) ∧ ps.length ≤ 4 ∧ ns.length ≤ 3 ∧ Ints w.heap.size w'.heap.size w' A ps.length c ps ∧ Ints w.heap.size w'.heap.size w' B ns.length d ns ∧ Reader w' rb N ∧ w.grownBy w' (some rb)
/-- What the loop of l91Path has gathered. -/
def PathRel (rb N : Nat) (w wr : World) (v1 v2 : Value) (ps ns : List Int) (g1 g2 : Nat) : Prop :=
  AccB g1 wr v1 ps ∧ AccB g2 wr v2 ns ∧ g1 ≠ g2 ∧ w.heap.size ≤ g1 ∧ w.heap.size ≤ g2 ∧ Reader wr rb N ∧ w.grownBy wr (some rb)
theorem ints_w {lo hi : Nat} {w : World} {A : Option Addr} {n c : Nat} {xs : List Int} (h : Ints lo hi w A n c xs) {l2 : Nat} (hl : l2 ≤ lo) : Ints l2 w.heap.size w A n c xs :=
  ⟨h.1, h.2.1, h.2.2.1, fun hn => by
    obtain ⟨b, off, e, h1, _, hz, hc⟩ := h.2.2.2 hn
    exact ⟨b, off, e, by omega, hz, hz, hc⟩⟩

theorem path_post {rb N n m c d l1 h1 l2 h2 : Nat} {w w' : World} {A B : Option Addr} {ps ns : List Int} (i1 : Ints l1 h1 w' A n c ps) (i2 : Ints l2 h2 w' B m d ns) (hn : n ≤ 4) (hm : m ≤ 3) (e1 : w.heap.size ≤ l1) (e2 : w.heap.size ≤ l2) (hr : Reader w' rb N) (hg : w.grownBy w' (some rb)) :
    PathPost rb N w (.returned (.tuple #[.slice A n c, .slice B m d])) w' := by
  have f1 := i1.1
  have f2 := i2.1
  subst f1
  subst f2
  exact ⟨A, c, B, d, ps, ns, rfl, hn, hm, ints_w i1 e1, ints_w i2 e2, hr, hg⟩

set_option maxHeartbeats 1000000 in
set_option maxRecDepth 20000 in
theorem l91Path (rb N : Nat) (w : World) (hr : Reader w rb N) (hN : N ≤ 80000) :
    Calls Try.prog 36 #[.pointer (some ⟨rb, 0, none⟩)] w (PathPost rb (N + 20) w) := by
  have HR := Lib.hid hr
  have hlt := hr.lt
  have hA1 := accB_new w
  have hA2 := accB_new (w.alloc (.cells #[] 3))
  have hsz : (w.alloc (.cells #[] 3)).heap.size = w.heap.size + 1 := by simp
  rw [hsz] at hA2
  have HA1 := Lib.hid (hA1.alloc (.cells #[] 3))
  have HA2 := Lib.hid hA2
  have HG0 : Hid (w.grownBy ((w.alloc (.cells #[] 3)).alloc (.cells #[] 3)) (some rb)) := grown_alloc (World.grownBy_alloc _ _ _) _
  clear hr hA1 hA2 hsz
  go_enter Try.func36, Try.ntmps36
  go_wp2_with fail
  ((with_reducible refine (pick rb N _ _ ((HR.out.alloc _).alloc _) (by omega) (by omega) (by omega)).mono ?_); rintro e w1 ⟨v1, rfl, hv0, hv1, r1, g1, s1⟩)
  obtain ⟨n0, rfl⟩ := Int.eq_ofNat_of_zero_le hv0
  have HT0 : Hid (PathRel rb (N + 1) w w1 (.slice (some ⟨w.heap.size, 0, none⟩) 0 0) (.slice (some ⟨w.heap.size + 1, 0, none⟩) 0 0) [] [] w.heap.size (w.heap.size + 1)) :=
    ⟨HA1.out.keep g1 (by simp; omega), HA2.out.keep g1 (by simp; omega), by omega, by omega, by omega, r1, grown_trans HG0.out g1⟩
  clear r1 g1 s1 HA1 HA2 HG0
  go_wp2
  rw [show ((1 : Int) + (n0 : Int)) = ((n0 + 1 : Nat) : Int) from by omega]
  generalize hQ : n0 + 1 = q at *
  have hq1 : 1 ≤ q := by omega
  have hq3 : q ≤ 3 := by omega
  clear hQ hv0 hv1
  go_loopw [4, 5, 7] (fun u v i wr => ∃ k : Nat, k ≤ q ∧ i = .int .i64 k ∧ Hid (∃ ps ns g1 g2, ps.length = k ∧ ns.length = k ∧ PathRel rb (N + 1 + 3 * k) w wr u v ps ns g1 g2)) (fun _ _ i _ => q - (intOf i).toNat)
  case atStart => exact ⟨0, Nat.zero_le _, rfl, [], [], _, _, rfl, rfl, HT0.out⟩
  case round =>
    obtain ⟨k, hk, rfl, hT⟩ := hrel
    clear HT0
    obtain ⟨ps, ns, g1, g2, hp, hn, ha1, ha2, hne, hw1, hw2, hrd, hgr⟩ := hT.out
    have HPL := Lib.hid hp
    have HNL := Lib.hid hn
    have HA1 := Lib.hid ha1
    have HA2 := Lib.hid ha2
    have HR1 := Lib.hid hrd
    have HG1 := Lib.hid hgr
    have hl1 := ha1.lt
    have hl2 := ha2.lt
    clear hp hn hT ha1 ha2 hrd hgr
    by_cases hlk : k < q
    · skip
      go_wp2_with fail
      ((with_reducible refine (l91Good rb _ _ HR1.out (by omega)).mono ?_); rintro e w4 ⟨x, rfl, hx0, hx1, r4, g4⟩)
      have HA1' := Lib.hid (HA1.out.keep g4 (by simp; omega))
      have HA2' := Lib.hid (HA2.out.keep g4 (by simp; omega))
      have HG4 := Lib.hid (grown_trans HG1.out g4)
      have R4 := Lib.hid r4
      have hl24 := HA2'.out.lt
      have hl14 := HA1'.out.lt
      clear r4 g4 HA1 HA2 HG1 HR1
      go_wp2_with (at_builtin; refine wpList_app1B _ _ _ _ _ HA1'.out (by rw [HPL.out]; omega) _ _ rfl rfl rfl rfl ?_; intro g5 v5 w5 hN5 hW5 hG5)
      have HB1 := Lib.hid hN5
      have HB2 := Lib.hid (HA2'.out.keep hG5 (by simp; omega))
      have HG5 := Lib.hid (grown_trans' HG4.out hG5 (fun g e => by simp at e; omega))
      have R5 := Lib.hid (R4.out.grown hG5 (fun g e => by simp at e; omega))
      have hs45 := hG5.size
      have hl5 := hN5.lt
      have hl25 := HB2.out.lt
      clear hN5 hG5 HA1' HA2' HG4 R4
      ((with_reducible refine (pick rb _ _ _ R5.out (by omega) (by omega) (by omega)).mono ?_); rintro e w6 ⟨y, rfl, hy0, hy1, r6, g6, s6⟩)
      have HC1 := Lib.hid (HB1.out.keep g6 (by simp; omega))
      have HC2 := Lib.hid (HB2.out.keep g6 (by simp; omega))
      have HG6 := Lib.hid (grown_trans HG5.out g6)
      have R6 := Lib.hid r6
      have hl16 := HC1.out.lt
      have hl26 := HC2.out.lt
      clear r6 g6 s6 HB1 HB2 HG5 R5
      go_wp2_with (at_builtin; refine wpList_app1B _ _ _ _ _ HC2.out (by rw [HNL.out]; omega) _ _ rfl rfl rfl rfl ?_; intro g7 v7 w7 hN7 hW7 hG7)
      have HN : Hid (∃ ps ns g1 g2, ps.length = k + 1 ∧ ns.length = k + 1 ∧ PathRel rb (N + 1 + 3 * (k + 1)) w w7 v5 v7 ps ns g1 g2) :=
        ⟨ps ++ [x], ns ++ [y], g5, g7, by simp [HPL.out], by simp [HNL.out], HC1.out.keep hG7 (by simp; omega), hN7, by omega, by omega, by omega, (R6.out.grown hG7 (fun g e => by simp at e; omega)).mono (by omega), grown_trans' HG6.out hG7 (fun g e => by simp at e; omega)⟩
      exact ⟨⟨k + 1, by omega, by go_num, HN.out⟩, by simp [intOf]; omega⟩
    · obtain rfl : k = q := by omega
      obtain ⟨c1, rfl, ho1⟩ := HA1.out.own
      obtain ⟨c2, rfl, ho2⟩ := HA2.out.own
      rw [HPL.out] at ho1 ⊢
      rw [HNL.out] at ho2 ⊢
      have HO1 := Lib.hid ho1
      have HO2 := Lib.hid ho2
      clear ho1 ho2 hlk
      go_wp2_with fail
      ((with_reducible refine (pick rb _ _ _ HR1.out (by omega) (by omega) (by omega)).mono ?_); rintro e w4 ⟨v4, rfl, hu0, hu1, r4, g4, s4⟩)
      have O1 := Lib.hid (HO1.out.grown g4 (by simp; omega))
      have O2 := Lib.hid (HO2.out.grown g4 (by simp; omega))
      have HB1 := Lib.hid (HA1.out.keep g4 (by simp; omega))
      have G4 := Lib.hid (grown_trans HG1.out g4)
      have R4 := Lib.hid r4
      have hl14 := HB1.out.lt
      clear r4 g4 s4 HO1 HO2 HA1 HA2 HR1 HG1
      by_cases h0 : v4 = 0
      · subst h0
        go_wp2_with fail
        ((with_reducible refine (pick rb _ _ _ R4.out (by omega) (by omega) (by omega)).mono ?_); rintro e w5 ⟨v5, rfl, hq0, hq1', r5, g5, s5⟩)
        have P1 := Lib.hid (O1.out.grown g5 (by simp; omega))
        have P2 := Lib.hid (O2.out.grown g5 (by simp; omega))
        have G5 := Lib.hid (grown_trans G4.out g5)
        have R5 := Lib.hid r5
        clear r5 g5 s5 O1 O2 HB1 G4 R4
        go_wp2_with fail
        ((with_reducible refine (l91Is rb _ _ R5.out (by omega)).mono ?_); rintro e w6 ⟨x, rfl, hx0, hx1, r6, g6⟩)
        have Q1 := Lib.hid (P1.out.grown g6 (by simp; omega))
        have Q2 := Lib.hid (P2.out.grown g6 (by simp; omega))
        have G6 := Lib.hid (grown_trans G5.out g6)
        have R6 := Lib.hid r6
        clear r6 g6 P1 P2 G5 R5
        obtain ⟨j, rfl⟩ := Int.eq_ofNat_of_zero_le hq0
        have hj : j < k := by omega
        obtain ⟨bb, ff, ee, _, _, cj⟩ := Q1.out.ints.at_ hj
        simp only [Option.some.injEq, Addr.mk.injEq, and_true] at ee
        obtain ⟨rfl, rfl⟩ := ee
        have fj := Q1.out.2 _ _ (by omega) rfl j hj
        have hset := Q1.out.set_ hj x
        rw [Nat.zero_add] at cj fj hset
        have hkeep : ∀ i, i ≠ g1 → (w6.setCell ⟨g1, j, none⟩ (.int .i64 x)).heap[i]? = w6.heap[i]? := fun i hi => Below.heap_setCell _ _ _ _ hi
        have hsz6 : (w6.setCell ⟨g1, j, none⟩ (.int .i64 x)).heap.size = w6.heap.size := by simp [World.setCell]
        have HP : Hid (PathPost rb (N + 20) w (.returned (.tuple #[.slice (some ⟨g1, 0, none⟩) k c1, .slice (some ⟨g2, 0, none⟩) k c2])) (w6.setCell ⟨g1, j, none⟩ (.int .i64 x))) :=
          path_post hset.ints (Q2.out.ints.keep (Nat.le_of_eq hsz6.symm) fun i a b _ => hkeep i (by omega)) (by omega) (by omega) (by omega) (by omega) ((R6.out.keep fun i hi => hkeep i (by omega)).mono (by omega))
            ⟨G6.out.os, G6.out.tape, G6.out.output, by rw [hsz6]; exact G6.out.size, fun i hi hne => (hkeep i (by omega)).trans (G6.out.block i hi hne)⟩
        clear hset hkeep hsz6 Q1 Q2 G6 R6
        go_wp2
        go_ret2
        exact HP.out
      have e0 : (v4 == 0) = false := by simpa using h0
      by_cases h1 : v4 = 1
      · subst h1
        clear h0
        go_wp2_with fail
        ((with_reducible refine (pick rb _ _ _ R4.out (by omega) (by omega) (by omega)).mono ?_); rintro e w5 ⟨v5, rfl, hq0, hq1', r5, g5, s5⟩)
        have P1 := Lib.hid (O1.out.grown g5 (by simp; omega))
        have P2 := Lib.hid (O2.out.grown g5 (by simp; omega))
        have G5 := Lib.hid (grown_trans G4.out g5)
        have R5 := Lib.hid r5
        clear r5 g5 s5 O1 O2 HB1 G4 R4
        go_wp2_with fail
        ((with_reducible refine (pick rb _ _ _ R5.out (by omega) (by omega) (by omega)).mono ?_); rintro e w6 ⟨x, rfl, hx0, hx1, r6, g6, s6⟩)
        have Q1 := Lib.hid (P1.out.grown g6 (by simp; omega))
        have Q2 := Lib.hid (P2.out.grown g6 (by simp; omega))
        have G6 := Lib.hid (grown_trans G5.out g6)
        have R6 := Lib.hid r6
        clear r6 g6 s6 P1 P2 G5 R5
        obtain ⟨j, rfl⟩ := Int.eq_ofNat_of_zero_le hq0
        have hj : j < k := by omega
        obtain ⟨bb, ff, ee, _, _, cj⟩ := Q2.out.ints.at_ hj
        simp only [Option.some.injEq, Addr.mk.injEq, and_true] at ee
        obtain ⟨rfl, rfl⟩ := ee
        have fj := Q2.out.2 _ _ (by omega) rfl j hj
        have hset := Q2.out.set_ hj (x * 9 - 1)
        rw [Nat.zero_add] at cj fj hset
        have hkeep : ∀ i, i ≠ g2 → (w6.setCell ⟨g2, j, none⟩ (.int .i64 (x * 9 - 1))).heap[i]? = w6.heap[i]? := fun i hi => Below.heap_setCell _ _ _ _ hi
        have hsz6 : (w6.setCell ⟨g2, j, none⟩ (.int .i64 (x * 9 - 1))).heap.size = w6.heap.size := by simp [World.setCell]
        have HP : Hid (PathPost rb (N + 20) w (.returned (.tuple #[.slice (some ⟨g1, 0, none⟩) k c1, .slice (some ⟨g2, 0, none⟩) k c2])) (w6.setCell ⟨g2, j, none⟩ (.int .i64 (x * 9 - 1)))) :=
          path_post (Q1.out.ints.keep (Nat.le_of_eq hsz6.symm) fun i a b _ => hkeep i (by omega)) hset.ints (by omega) (by omega) (by omega) (by omega) ((R6.out.keep fun i hi => hkeep i (by omega)).mono (by omega))
            ⟨G6.out.os, G6.out.tape, G6.out.output, by rw [hsz6]; exact G6.out.size, fun i hi hne => (hkeep i (by omega)).trans (G6.out.block i hi hne)⟩
        clear hset hkeep hsz6 Q1 Q2 G6 R6
        go_wp2
        go_ret2
        exact HP.out
      have e1 : (v4 == 1) = false := by simpa using h1
      by_cases h2 : v4 = 2
      · subst h2
        clear h0 h1
        go_wp2_with (at_builtin; refine wpList_app1B _ _ _ _ _ HB1.out (by rw [HPL.out]; omega) _ _ rfl rfl (by rw [HPL.out]; rfl) rfl ?_; intro g5 v5 w5 hN5 hW5 hG5; obtain ⟨c5, rfl, ho5⟩ := hN5.own; rw [show (ps ++ [(3 : Int)]).length = k + 1 by simp [HPL.out]] at ho5 ⊢)
        have HP : Hid (PathPost rb (N + 20) w (.returned (.tuple #[.slice (some ⟨g5, 0, none⟩) (k + 1) c5, .slice (some ⟨g2, 0, none⟩) k c2])) w5) :=
          path_post ho5.ints (O2.out.ints.grown hG5 (by simp; omega)) (by omega) (by omega) (by omega) (by omega) ((R4.out.grown hG5 (fun g e => by simp at e; omega)).mono (by omega)) (grown_trans' G4.out hG5 (fun g e => by simp at e; omega))
        clear hN5 hW5 hG5 ho5 O1 O2 HB1 G4 R4
        go_ret2
        exact HP.out
      have e2 : (v4 == 2) = false := by simpa using h2
      by_cases h3 : v4 = 3
      · subst h3
        clear h0 h1 h2
        have HP : Hid (PathPost rb (N + 20) w (.returned (.tuple #[.slice (some ⟨g1, 0, none⟩) 0 c1, .slice (some ⟨g2, 0, none⟩) 0 c2])) w4) :=
          path_post (Ints.nil_ (lo := w.heap.size) (hi := 0) (O1.out.ints.2.2.1)) (Ints.nil_ (lo := w.heap.size) (hi := 0) (O2.out.ints.2.2.1)) (by omega) (by omega) (by omega) (by omega) (R4.out.mono (by omega)) G4.out
        clear O1 O2 HB1 G4 R4
        go_wp2
        go_ret2
        exact HP.out
      · have e3 : (v4 == 3) = false := by simpa using h3
        have HP : Hid (PathPost rb (N + 20) w (.returned (.tuple #[.slice (some ⟨g1, 0, none⟩) k c1, .slice (some ⟨g2, 0, none⟩) k c2])) w4) :=
          path_post O1.out.ints O2.out.ints (by omega) (by omega) (by omega) (by omega) (R4.out.mono (by omega)) G4.out
        clear h0 h1 h2 h3 O1 O2 HB1 G4 R4
        go_wp2
        go_ret2
        exact HP.out


theorem results_tmp5 {fn : Func} {t u v x y : Tmp} (h : fn.results = #[.tmp t, .tmp u, .tmp v, .tmp x, .tmp y]) (tmps : Array Value) (P : Program) (w : World) :
    (results fn tmps).run P w = .ok (.tuple #[tmps.getD t undef, tmps.getD u undef, tmps.getD v undef, tmps.getD x undef, tmps.getD y undef]) w := by
  simp [results, h]

def MakeDraw (w : World) (e : Ending) (w' : World) : Prop :=
  ∃ (x r : Int) (A B C : Option Addr) (c d q : Nat) (ps ns ls : List Int), e = .returned (.tuple #[.int .i64 x, .slice A ps.length c, .slice B ns.length d, .int .i64 r, .slice C ls.length q]) ∧ (-1 ≤ x ∧ x ≤ 997) ∧ ps.length ≤ 4 ∧ ns.length ≤ 3 ∧ ls.length ≤ 6 ∧
    Ints w.heap.size w'.heap.size w' A ps.length c ps ∧ Ints w.heap.size w'.heap.size w' B ns.length d ns ∧ Ints w.heap.size w'.heap.size w' C ls.length q ls ∧ Below w.heap.size w w'
set_option maxRecDepth 20000 in
theorem DrawPacketMake (A : Option Addr) (n c : Nat) (w : World) (h : CodeIs w A n c) :
    Calls Try.prog 11 #[.slice A n c] w (MakeDraw w) := by
  have HC := Lib.hid h
  clear h
  go_enter Try.func11, Try.ntmps11
  go_wp2_with fail
  ((with_reducible refine (l6Open _ _ _ _ HC.out).mono ?_); rintro e w1 ⟨rfl, r1, b1, s1⟩)
  have R1 := Lib.hid r1
  have B1 := Lib.hid b1
  have z1 : w.heap.size < w1.heap.size := by rw [s1]; omega
  clear r1 b1 s1
  go_wp2_with fail
  ((with_reducible refine (l91Is _ _ _ R1.out (by omega)).mono ?_); rintro e w2 ⟨x, rfl, hx0, hx1, r2, g2⟩)
  have R2 := Lib.hid r2
  have B2 := Lib.hid (B1.out.trans (grown_below g2 (Nat.le_of_lt R1.out.lt)))
  have z2 := g2.size
  clear r2 g2
  go_wp2_with fail
  ((with_reducible refine (l91Path _ _ _ R2.out (by omega)).mono ?_); rintro e w3 ⟨A3, c3, B3, d3, ps, ns, rfl, hl1, hl2, i1, i2, r3, g3⟩)
  have R3 := Lib.hid r3
  have B3' := Lib.hid (B2.out.trans (grown_below g3 (Nat.le_of_lt R2.out.lt)))
  have I1 := Lib.hid (i1.mono (lo' := w.heap.size + 1) (by omega) (Nat.le_refl _))
  have I2 := Lib.hid (i2.mono (lo' := w.heap.size + 1) (by omega) (Nat.le_refl _))
  have z3 := g3.size
  clear r3 g3 i1 i2
  go_wp2_with fail
  ((with_reducible refine (pick _ _ _ _ R3.out (by omega) (by omega) (by omega)).mono ?_); rintro e w4 ⟨v4, rfl, h40, h41, r4, g4, s4⟩)
  have R4 := Lib.hid r4
  have B4 := Lib.hid (B3'.out.trans (grown_below g4 (Nat.le_of_lt R3.out.lt)))
  have J1 := Lib.hid (I1.out.grown g4 (by simp))
  have J2 := Lib.hid (I2.out.grown g4 (by simp))
  have z4 := g4.size
  clear r4 g4 s4 I1 I2
  go_wp2_with fail
  ((with_reducible refine (pick _ _ _ _ R4.out (by omega) (by omega) (by omega)).mono ?_); rintro e w5 ⟨v5, rfl, h50, h51, r5, g5, s5⟩)
  have R5 := Lib.hid r5
  have B5 := Lib.hid (B4.out.trans (grown_below g5 (Nat.le_of_lt R4.out.lt)))
  have K1 := Lib.hid (J1.out.grown g5 (by simp))
  have K2 := Lib.hid (J2.out.grown g5 (by simp))
  have z5 := g5.size
  clear r5 g5 s5 J1 J2
  go_wp2_with fail
  ((with_reducible refine (pick _ _ _ _ R5.out (by omega) (by omega) (by omega)).mono ?_); rintro e w6 ⟨v6, rfl, h60, h61, r6, g6, s6⟩)
  have R6 := Lib.hid r6
  have B6 := Lib.hid (B5.out.trans (grown_below g6 (Nat.le_of_lt R5.out.lt)))
  have L1 := Lib.hid (K1.out.grown g6 (by simp))
  have L2 := Lib.hid (K2.out.grown g6 (by simp))
  have z6 := g6.size
  clear r6 g6 s6 K1 K2
  have hdiv : v5 / 19 = 0 ∨ v5 / 19 = 1 := by omega
  obtain ⟨dv, hdv⟩ : ∃ dv, v5 / 19 = dv := ⟨_, rfl⟩
  rw [hdv] at hdiv
  have hmul : -1 ≤ dv * (v6 - 1) ∧ dv * (v6 - 1) ≤ 1 := by rcases hdiv with rfl | rfl <;> omega
  obtain ⟨mm, hmm⟩ : ∃ mm, dv * (v6 - 1) = mm := ⟨_, rfl⟩
  rw [hmm] at hmul
  go_wp2_with fail
  ((with_reducible refine (l91ListAt _ _ 4 4 _ rfl R6.out (by omega) (by omega)).mono ?_); rintro e w7 ⟨A7, c7, ls, rfl, hl7, hb7, ho7, r7, g7⟩)
  have HP : Hid (∀ r : Int, MakeDraw w (.returned (.tuple #[.int .i64 x, .slice A3 ps.length c3, .slice B3 ns.length d3, .int .i64 r, .slice A7 ls.length c7])) w7) := fun r =>
    ⟨x, r, A3, B3, A7, c3, d3, c7, ps, ns, ls, rfl, ⟨hx0, hx1⟩, hl1, hl2, by omega, (L1.out.grown g7 (by simp)).mono (by omega) (by have := g7.size; omega), (L2.out.grown g7 (by simp)).mono (by omega) (by have := g7.size; omega), ho7.ints.mono (by omega) (Nat.le_refl _), B6.out.trans (grown_below g7 (Nat.le_of_lt R6.out.lt))⟩
  clear ho7 r7 g7 hl7 hb7
  go_wp2
  refine bodyPost_ret (results_tmp5 rfl _ _ _) rfl ?_
  exact HP.out _

end Rd
end Go.Proofs.Ytdejnbbfdbafnaa
