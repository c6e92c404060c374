/-
  Draws of chapter 22: what a block is made of; keys and a body.
-/
import Derived.Test.YtljfhddgifacnaaDr5
import Derived.Test.YtljfhddgifacnaaSp4
import Derived.Test.YtljfhddgifacnaaRm
namespace Go.Proofs.Ytljfhddgifacnaa
open Go.RowKit
namespace Rd
open Il

theorem results_tmp4 {fn : Func} {t u v x : Tmp} (h : fn.results = #[.tmp t, .tmp u, .tmp v, .tmp x]) (tmps : Array Value) (P : Program) (w : World) :
    (results fn tmps).run P w = .ok (.tuple #[tmps.getD t undef, tmps.getD u undef, tmps.getD v undef, tmps.getD x undef]) w := by
  simp [results, h]
def RepDraw (w : World) (e : Ending) (w' : World) : Prop :=
  ∃ (x r : Int) (A B : Option Addr) (c d : Nat) (ps ns : List Int), e = .returned (.tuple #[.int .i64 x, .slice A ps.length c, .slice B ns.length d, .int .i64 r]) ∧ (-1 ≤ x ∧ x ≤ 997) ∧ ps.length ≤ 4 ∧ ns.length ≤ 3 ∧
    Ints w.heap.size w'.heap.size w' A ps.length c ps ∧ Ints w.heap.size w'.heap.size w' B ns.length d ns ∧ Below w.heap.size w w'
set_option maxRecDepth 20000 in
theorem DrawReplyMake (A : Option Addr) (n c : Nat) (w : World) (h : CodeIs w A n c) :
    Calls Try.prog 13 #[.slice A n c] w (RepDraw w) := by
  have HC := Lib.hid h
  clear h
  go_enter Try.func13, Try.ntmps13
  go_wp2_with fail
  ((with_reducible refine (l6Open _ _ _ _ HC.out).mono ?_); rintro e w1 ⟨rfl, r1, b1, s1⟩)
  have R1 := Lib.hid r1
  have B1 := Lib.hid b1
  have z1 : w.heap.size < w1.heap.size := by rw [s1]; omega
  clear r1 b1 s1
  go_wp2_with fail
  ((with_reducible refine (l91Is _ _ _ R1.out (by omega)).mono ?_); rintro e w2 ⟨x, rfl, hx0, hx1, r2, g2⟩)
  have R2 := Lib.hid r2
  have B2 := Lib.hid (B1.out.trans (grown_below g2 (Nat.le_of_lt R1.out.lt)))
  have z2 := g2.size
  clear r2 g2
  go_wp2_with fail
  ((with_reducible refine (l91Path _ _ _ R2.out (by omega)).mono ?_); rintro e w3 ⟨A3, c3, B3, d3, ps, ns, rfl, hl1, hl2, i1, i2, r3, g3⟩)
  have R3 := Lib.hid r3
  have B3' := Lib.hid (B2.out.trans (grown_below g3 (Nat.le_of_lt R2.out.lt)))
  have I1 := Lib.hid (i1.mono (lo' := w.heap.size + 1) (by omega) (Nat.le_refl _))
  have I2 := Lib.hid (i2.mono (lo' := w.heap.size + 1) (by omega) (Nat.le_refl _))
  have z3 := g3.size
  clear r3 g3 i1 i2
  go_wp2_with fail
  ((with_reducible refine (pick _ _ _ _ R3.out (by omega) (by omega) (by omega)).mono ?_); rintro e w4 ⟨v4, rfl, h40, h41, r4, g4, s4⟩)
  have R4 := Lib.hid r4
  have B4 := Lib.hid (B3'.out.trans (grown_below g4 (Nat.le_of_lt R3.out.lt)))
  have J1 := Lib.hid (I1.out.grown g4 (by simp))
  have J2 := Lib.hid (I2.out.grown g4 (by simp))
  have z4 := g4.size
  clear r4 g4 s4 I1 I2
  go_wp2_with fail
  ((with_reducible refine (pick _ _ _ _ R4.out (by omega) (by omega) (by omega)).mono ?_); rintro e w5 ⟨v5, rfl, h50, h51, r5, g5, s5⟩)
  have R5 := Lib.hid r5
  have B5 := Lib.hid (B4.out.trans (grown_below g5 (Nat.le_of_lt R4.out.lt)))
  have K1 := Lib.hid (J1.out.grown g5 (by simp))
  have K2 := Lib.hid (J2.out.grown g5 (by simp))
  have z5 := g5.size
  clear r5 g5 s5 J1 J2
  go_wp2_with fail
  ((with_reducible refine (pick _ _ _ _ R5.out (by omega) (by omega) (by omega)).mono ?_); rintro e w6 ⟨v6, rfl, h60, h61, r6, g6, s6⟩)
  have R6 := Lib.hid r6
  have B6 := Lib.hid (B5.out.trans (grown_below g6 (Nat.le_of_lt R5.out.lt)))
  have L1 := Lib.hid (K1.out.grown g6 (by simp))
  have L2 := Lib.hid (K2.out.grown g6 (by simp))
  have z6 := g6.size
  clear r6 g6 s6 K1 K2
  have hdiv : v5 / 19 = 0 ∨ v5 / 19 = 1 := by omega
  obtain ⟨dv, hdv⟩ : ∃ dv, v5 / 19 = dv := ⟨_, rfl⟩
  rw [hdv] at hdiv
  have hmul : -1 ≤ dv * (v6 - 1) ∧ dv * (v6 - 1) ≤ 1 := by rcases hdiv with rfl | rfl <;> omega
  obtain ⟨mm, hmm⟩ : ∃ mm, dv * (v6 - 1) = mm := ⟨_, rfl⟩
  rw [hmm] at hmul
  have HP : Hid (∀ r : Int, RepDraw w (.returned (.tuple #[.int .i64 x, .slice A3 ps.length c3, .slice B3 ns.length d3, .int .i64 r])) w6) := fun r =>
    ⟨x, r, A3, B3, c3, d3, ps, ns, rfl, ⟨hx0, hx1⟩, hl1, hl2, L1.out.mono (by omega) (by omega), L2.out.mono (by omega) (by omega), B6.out⟩
  go_wp2
  refine bodyPost_ret (results_tmp4 rfl _ _ _) rfl ?_
  exact HP.out _

def OpenDraw (w : World) (e : Ending) (w' : World) : Prop :=
  ∃ (A B : Option Addr) (c d : Nat) (ks bs : List Int), e = .returned (.tuple #[.slice A ks.length c, .slice B bs.length d]) ∧ ks.length ≤ 6 ∧ bs.length ≤ 7 ∧
    Ints w.heap.size w'.heap.size w' A ks.length c ks ∧ Ints w.heap.size w'.heap.size w' B bs.length d bs ∧ Below w.heap.size w w'
/-- Keys in block g1; a body gathered since the world was w0, behind that block. -/
def ORel (N : Nat) (w wr : World) (u v : Value) (ks bs : List Int) (g1 : Nat) (w0 : World) : Prop :=
  AccB g1 wr u ks ∧ AccR (some w.heap.size) w0 wr v bs ∧ g1 < w0.heap.size ∧ w.heap.size < g1 ∧ Reader wr w.heap.size N ∧ Below w.heap.size w wr
section
variable {N N' g1 : Nat} {w w0 wr w' : World} {u v : Value} {ks bs : List Int}
theorem ORel.rd (h : ORel N w wr u v ks bs g1 w0) : Reader wr w.heap.size N := h.2.2.2.2.1
theorem ORel.bel (h : ORel N w wr u v ks bs g1 w0) : Below w.heap.size w wr := h.2.2.2.2.2
theorem ORel.kl (h : ORel N w wr u v ks bs g1 w0) : AccB g1 wr u ks := h.1
theorem ORel.lt (h : ORel N w wr u v ks bs g1 w0) : w.heap.size < g1 ∧ g1 < w0.heap.size ∧ w0.heap.size ≤ wr.heap.size := ⟨h.2.2.2.1, h.2.2.1, h.2.1.2.size⟩
theorem ORel.body (h : ORel N w wr u v ks bs g1 w0) : ∃ A c, v = .slice A bs.length c ∧ Il.Own w0.heap.size wr.heap.size wr A bs.length c bs := own_of h.2.1.1
theorem ORel.step (h : ORel N w wr u v ks bs g1 w0) (hg : wr.grownBy w' (some w.heap.size)) (hr : Reader w' w.heap.size N') : ORel N' w w' u v ks bs g1 w0 := by
  obtain ⟨h1, h2, h3, h4, h5, h6⟩ := h
  have := h2.2.size
  exact ⟨h1.keep hg (by simp; omega), h2.step hg (fun g e => by cases e; omega), h3, h4, hr, h6.grown hg h6.size (fun k e => by cases e; exact Nat.le_refl _)⟩
/-- A key is appended, and the body made anew. -/
theorem ORel.next {g2 : Nat} {w2 w3 : World} {u2 v3 : Value} {bs3 : List Int} (h : ORel N w wr u v ks bs g1 w0) {ks2 : List Int} (hN : AccB g2 w2 u2 ks2) (hW : g2 = g1 ∨ wr.heap.size < g2) (hG : wr.grownBy w2 (some g1)) (ha : Acc w2 w3 v3 bs3) : ORel N w w3 u2 v3 ks2 bs3 g2 w2 := by
  obtain ⟨h1, h2, h3, h4, h5, h6⟩ := h
  have q1 := h2.2.size
  have q2 := hN.lt
  have q3 : Below w2.heap.size w2 w3 := Il.Acc.below ha
  have q4 : Below w.heap.size w w2 := h6.grown hG h6.size (fun k e => by cases e; omega)
  have q5 := h6.size
  have q6 := hG.size
  refine ⟨?_, ⟨ha.1, ?_⟩, q2, by omega, ?_, q4.trans (q3.mono q4.size)⟩
  · exact hN.keep ha.2 (by simp)
  · exact ⟨q3.os, q3.tape, q3.output, q3.size, fun k hk _ => q3.block k hk⟩
  · exact (h5.grown hG (fun k e => by cases e; omega)).below q3 (by have := h5.lt; omega)
/-- What is returned: the keys and the body, each possibly written once more. -/
theorem open_fin {A B : Option Addr} {n m c d l1 h1 l2 h2 : Nat} {wF : World} (hb : Below w.heap.size w wF) (i1 : Ints l1 h1 wF A n c ks) (i2 : Ints l2 h2 wF B m d bs) (q1 : w.heap.size ≤ l1) (q2 : w.heap.size ≤ l2) (hk : n ≤ 6) (hm : m ≤ 7) :
    OpenDraw w (.returned (.tuple #[.slice A n c, .slice B m d])) wF := by
  have e1 := i1.1
  have e2 := i2.1
  subst e1
  subst e2
  have top : ∀ {lo hi : Nat} {A : Option Addr} {n c : Nat} {xs : List Int}, Ints lo hi wF A n c xs → w.heap.size ≤ lo → Ints w.heap.size wF.heap.size wF A n c xs := fun h hl => ⟨h.1, h.2.1, h.2.2.1, fun hn => by
    obtain ⟨b, off, e, r1, _, hz, hc⟩ := h.2.2.2 hn
    exact ⟨b, off, e, by omega, hz, hz, hc⟩⟩
  exact ⟨A, B, c, d, ks, bs, rfl, hk, hm, top i1 q1, top i2 q2, hb⟩
end
theorem ints_three3 (w : World) (x y z : Int) : Ints w.heap.size (w.heap.size + 1) (w.alloc (.cells #[.int .i64 x, .int .i64 y, .int .i64 z] 3)) (some ⟨w.heap.size, 0, none⟩) 3 3 [x, y, z] := ints_three w x y z
set_option maxRecDepth 20000 in
set_option maxHeartbeats 2000000 in
theorem DrawReplyOpen (A0 : Option Addr) (n0 c0 : Nat) (w : World) (h : CodeIs w A0 n0 c0) :
    Calls Try.prog 29 #[.slice A0 n0 c0] w (OpenDraw w) := by
  have HC := Lib.hid h
  clear h
  go_enter Try.func29, Try.ntmps29
  go_wp2_with fail
  ((with_reducible refine (l6Open _ _ _ _ HC.out).mono ?_); rintro e w1 ⟨rfl, r1, b1, s1⟩)
  have R1 := Lib.hid (r1.alloc (.cells #[] 3))
  have A1 := Lib.hid (accB_new w1)
  have B1 := Lib.hid (b1.alloc b1.size (.cells #[] 3))
  have hs1 : (w1.alloc (.cells #[] 3)).heap.size = w1.heap.size + 1 := by simp
  have HS1 := Lib.hid hs1
  clear r1 b1 HC hs1
  go_wp2_with fail
  ((with_reducible refine (l91ListAt _ _ 4 4 _ rfl R1.out (by omega) (by omega)).mono ?_); rintro e w2 ⟨A2, c2, ls, rfl, hl2, hb2, ho2, r2, g2⟩)
  have hs2 := g2.size
  rw [HS1.out] at hs2
  have A2' := Lib.hid (A1.out.keep g2 (by simp; omega))
  have B2 := Lib.hid (B1.out.grown g2 B1.out.size (fun k e => by simp at e; omega))
  have R2 := Lib.hid r2
  have O2 := Lib.hid ho2
  clear ho2 r2 g2 A1 B1 R1 hb2 HS1
  go_wp2_with fail
  ((with_reducible refine (Sp4.letterPack0 _ _ _ _ _ ls _ O2.out.ints).mono ?_); rintro e w3 ⟨v3, rfl, ha3⟩)
  have hb3 : Below w2.heap.size w2 w3 := Il.Acc.below ha3
  have H3 : Hid (ORel _ w w3 (.slice (some ⟨w1.heap.size, 0, none⟩) 0 0) v3 [] (Lm.packF ls) w1.heap.size w2) :=
    ⟨A2'.out.keep ha3.2 (by simp), ⟨ha3.1, ⟨hb3.os, hb3.tape, hb3.output, hb3.size, fun k hk _ => hb3.block k hk⟩⟩, by omega, by omega, R2.out.below hb3 R2.out.lt, B2.out.trans (hb3.mono B2.out.size)⟩
  have hq6 := Lm.packF_le ls
  have hok : Mm.okL (Lm.packF ls) = true := by
    cases hp : Lm.packOk ls
    · rw [Lm.packF_no hp]; rfl
    · rw [Lm.packF_yes hp]; exact Lm.packL_ok hp
  have HOK := Lib.hid hok
  clear ha3 hb3 A2' B2 R2 O2 hok hl2
  generalize Lm.packF ls = bs0 at *
  go_wp2_with fail
  ((with_reducible refine (pick _ _ _ _ H3.out.rd (by omega) (by omega) (by omega)).mono ?_); rintro e w4 ⟨v4, rfl, h40, h41, r4, g4, s4⟩)
  have H4 := Lib.hid (H3.out.step g4 r4)
  clear r4 g4 s4 H3
  obtain ⟨m0, rfl⟩ := Int.eq_ofNat_of_zero_le h40
  have H0 : Hid (∃ ks bs g1 w0, ks.length = 0 ∧ bs.length ≤ 6 ∧ Mm.okL bs = true ∧ ORel (0 + 3 + 3 * (4 + 2) + 1 + 2 * 0) w w4 (.slice (some ⟨w1.heap.size, 0, none⟩) 0 0) v3 ks bs g1 w0) := ⟨[], bs0, _, _, rfl, hq6, HOK.out, H4.out⟩
  rw [s1] at H0
  clear H4 HOK hq6
  go_wp2
  rw [show ((1 : Int) + (m0 : Int)) = ((m0 + 1 : Nat) : Int) from by omega]
  generalize hQ : m0 + 1 = q at *
  have hq1 : 1 ≤ q := by omega
  have hq3 : q ≤ 3 := by omega
  have hwq : (0 : Int) < (q : Int) := by omega
  clear hQ h40 h41
  go_loopw [5, 6, 9, 10] (fun u v i _ wr => ∃ k : Nat, k ≤ q ∧ i = .int .i64 k ∧ Hid (∃ ks bs g1 w0, ks.length = k ∧ bs.length ≤ 6 ∧ Mm.okL bs = true ∧ ORel (0 + 3 + 3 * (4 + 2) + 1 + 2 * k) w wr u v ks bs g1 w0)) (fun _ _ i _ _ => q - (intOf i).toNat)
  case atStart => exact ⟨0, Nat.zero_le _, rfl, H0.out⟩
  case round =>
    obtain ⟨k, hk, rfl, hT⟩ := hrel
    obtain ⟨ks, bs, g1, w0, hkl, hbl, hbo, hR⟩ := hT
    have HKL := Lib.hid hkl
    have HBO := Lib.hid hbo
    have HR := Lib.hid hR
    clear hkl hbo hR H0
    by_cases hlt : k < q
    · have _h := trivial
      go_wp2_with fail
      ((with_reducible refine (l91Good _ _ _ HR.out.rd (by omega)).mono ?_); rintro e w5 ⟨x, rfl, hx0, hx1, r5, g5⟩)
      have H5 := Lib.hid (HR.out.step g5 r5)
      clear r5 g5 HR
      obtain ⟨hw1, hw2, hw3⟩ := H5.out.lt
      go_wp2_with (at_builtin; refine wpList_app1B _ _ _ _ x H5.out.kl (by rw [HKL.out]; omega) _ _ rfl rfl rfl rfl ?_; intro g6 v6 w6 hN6 hW6 hG6)
      obtain ⟨B6, d6, rfl, ho6⟩ := H5.out.body
      have O6 := Lib.hid (ho6.ints.grown hG6 (fun k e => by cases e; omega))
      have N6 := Lib.hid hN6
      have W6 := Lib.hid hW6
      have G6 := Lib.hid hG6
      clear ho6 hN6 hW6 hG6
      ((with_reducible refine (Sp2.l2Off0 _ _ _ _ _ bs x _ O6.out HBO.out hx0 hx1).mono ?_); rintro e w7 ⟨v7, rfl, ha7⟩)
      have HN : Hid (∃ ks bs g1 w0, ks.length = k + 1 ∧ bs.length ≤ 6 ∧ Mm.okL bs = true ∧ ORel (0 + 3 + 3 * (4 + 2) + 1 + 2 * (k + 1)) w w7 v6 v7 ks bs g1 w0) :=
        ⟨_, _, _, _, by rw [List.length_append, HKL.out]; rfl, by rw [Mm.offL_len]; exact hbl, Mm.offL_ok x (by omega), H5.out.next N6.out W6.out G6.out ha7⟩
      clear ha7 H5 O6 N6 W6 G6
      go_wp2
      go_roundw
      case rel => exact ⟨k + 1, by omega, by go_num, HN.out⟩
      case measure => simp [intOf]; omega
    · obtain rfl : k = q := by omega
      clear hlt
      go_wp2_with fail
      ((with_reducible refine (pick _ _ _ _ HR.out.rd (by omega) (by omega) (by omega)).mono ?_); rintro e w5 ⟨s, rfl, hs0, hs1, r5, g5, s5⟩)
      have H5 := Lib.hid (HR.out.step g5 r5)
      clear r5 g5 s5 HR
      obtain ⟨hw1, hw2, hw3⟩ := H5.out.lt
      have hlk : ks.length ≤ 3 := by rw [HKL.out]; exact hq3
      by_cases h0 : s = 0
      · subst h0
        by_cases hb : 0 < bs.length
        · have hbI : (0 : Int) < (bs.length : Int) := by omega
          obtain ⟨B5, d5, rfl, ho5⟩ := H5.out.body
          clear ho5
          go_wp2_with fail
          ((with_reducible refine (pick _ _ _ _ H5.out.rd (by omega) (by omega) (by omega)).mono ?_); rintro e w6 ⟨j0, rfl, hj0, hj1, r6, g6, s6⟩)
          have H6 := Lib.hid (H5.out.step g6 r6)
          obtain ⟨j, rfl⟩ := Int.eq_ofNat_of_zero_le hj0
          clear r6 g6 s6 H5
          go_wp2_with fail
          ((with_reducible refine (l91Number _ _ _ H6.out.rd (by omega)).mono ?_); rintro e w7 ⟨y, rfl, hy0, hy1, r7, g7⟩)
          have H7 := Lib.hid (H6.out.step g7 r7)
          clear r7 g7 H6
          obtain ⟨B7, d7, e7, ho7⟩ := H7.out.body
          simp only [Value.slice.injEq, true_and] at e7
          obtain ⟨rfl, rfl⟩ := e7
          have hjn : j < bs.length := by omega
          obtain ⟨bb, ff, rfl, hr1, _, cj⟩ := ho7.ints.at_ hjn
          have fj := ho7.2 bb ff (by omega) rfl j hjn
          obtain ⟨c7, rfl, hk7⟩ := H7.out.kl.own
          have i2 := (ho7.set_ hjn y).ints
          have i1 := hk7.ints.keep (w' := w7.setCell ⟨bb, ff + j, none⟩ (.int .i64 y)) (by simp [World.setCell]) (fun b r1 r2 _ => Below.heap_setCell _ _ _ _ (show b ≠ bb by omega))
          have HP := Lib.hid (open_fin (H7.out.bel.setCell (p := ⟨bb, ff + j, none⟩) (show w.heap.size ≤ bb by omega) (.int .i64 y)) i1 i2 (by omega) (by omega) (by omega) (by omega))
          clear ho7 hk7 i1 i2 H7
          go_wp2
          go_ret2
          exact HP.out
        · have hbI : ¬ (0 : Int) < (bs.length : Int) := by omega
          obtain ⟨B5, d5, rfl, ho5⟩ := H5.out.body
          obtain ⟨c5, rfl, hk5⟩ := H5.out.kl.own
          have HP := Lib.hid (open_fin H5.out.bel hk5.ints ho5.ints (by omega) (by omega) (by omega) (by omega))
          clear ho5 hk5 H5
          go_wp2
          go_ret2
          exact HP.out
      have e0 : (s == 0) = false := by simpa using h0
      by_cases h1 : s = 1
      · subst h1
        go_wp2_with fail
        ((with_reducible refine (pick _ _ _ _ H5.out.rd (by omega) (by omega) (by omega)).mono ?_); rintro e w6 ⟨j0, rfl, hj0, hj1, r6, g6, s6⟩)
        have H6 := Lib.hid (H5.out.step g6 r6)
        obtain ⟨j, rfl⟩ := Int.eq_ofNat_of_zero_le hj0
        clear r6 g6 s6 H5
        go_wp2_with fail
        ((with_reducible refine (l91Is _ _ _ H6.out.rd (by omega)).mono ?_); rintro e w7 ⟨y, rfl, hy0, hy1, r7, g7⟩)
        have H7 := Lib.hid (H6.out.step g7 r7)
        clear r7 g7 H6
        obtain ⟨B7, d7, rfl, ho7⟩ := H7.out.body
        obtain ⟨c7, rfl, hk7⟩ := H7.out.kl.own
        have hjn : j < ks.length := by rw [HKL.out]; omega
        obtain ⟨bb, ff, ee, _, _, cj⟩ := hk7.ints.at_ hjn
        simp only [Option.some.injEq, Addr.mk.injEq, and_true] at ee
        obtain ⟨rfl, rfl⟩ := ee
        have fj := hk7.2 _ _ (by omega) rfl j hjn
        have hjI : (j : Int) < (ks.length : Int) := by omega
        have i1 := (hk7.set_ hjn y).ints
        rw [Nat.zero_add] at cj fj i1
        have i2 := ho7.ints.keep (w' := w7.setCell ⟨g1, j, none⟩ (.int .i64 y)) (by simp [World.setCell]) (fun b r1 r2 _ => Below.heap_setCell _ _ _ _ (show b ≠ g1 by omega))
        have HP := Lib.hid (open_fin (H7.out.bel.setCell (p := ⟨g1, j, none⟩) (show w.heap.size ≤ g1 by omega) (.int .i64 y)) i1 i2 (by omega) (by omega) (by omega) (by omega))
        clear ho7 hk7 i1 i2 H7
        go_wp2
        go_ret2
        exact HP.out
      have e1 : (s == 1) = false := by simpa using h1
      by_cases h2 : s = 2
      · subst h2
        go_wp2_with (at_builtin; refine wpList_app1 w0 _ _ bs 1 H5.out.2.1 (by omega) _ _ rfl rfl rfl rfl ?_; intro v6 w6 hN6 hB6)
        obtain ⟨c5, rfl, hk5⟩ := H5.out.kl.own
        obtain ⟨B6, d6, rfl, ho6⟩ := own_of hN6.1
        have i1 := hk5.ints.below' hB6 (by omega)
        have hBF := H5.out.bel.trans (hB6.mono (by omega))
        have i2 := ho6.ints
        have HP := Lib.hid (open_fin hBF i1 i2 (by omega) (by omega) (by omega) (by simp; omega))
        clear ho6 hk5 i1 i2 H5 hN6 hB6 hBF
        go_wp2
        go_ret2
        exact HP.out
      have e2 : (s == 2) = false := by simpa using h2
      by_cases h3 : s = 3
      · subst h3
        have I3 := Lib.hid (ints_three3 w5 1 2 3)
        go_wp2_with (at_builtin; refine wpList_appLB _ _ _ ks (H5.out.kl.alloc _) _ _ _ _ _ [1, 2, 3] I3.out (by omega) _ _ rfl rfl rfl rfl ?_; intro g6 v6 w6 hN6 hW6 hG6)
        obtain ⟨B5, d5, rfl, ho5⟩ := H5.out.body
        obtain ⟨c6, rfl, hk6⟩ := hN6.own
        have hal : Below w5.heap.size w5 (w5.alloc (.cells #[.int .i64 1, .int .i64 2, .int .i64 3] 3)) := (Below.refl _ _).alloc (Nat.le_refl _) _
        have i2 := (ho5.ints.below hal (Nat.le_refl _)).grown hG6 (fun k e => by cases e; omega)
        have hsa := hal.size
        have hBF := (H5.out.bel.trans (hal.mono H5.out.bel.size)).grown hG6 (Nat.le_trans H5.out.bel.size hsa) (fun k e => by cases e; omega)
        have hlw := H5.out.bel.size
        have HP := Lib.hid (open_fin hBF hk6.ints i2 (by omega) (by omega) (by simp; omega) (by omega))
        clear ho5 hk6 i2 H5 hN6 hG6 hBF hal I3 hW6
        go_wp2
        go_ret2
        exact HP.out
      have e3 : (s == 3) = false := by simpa using h3
      obtain ⟨B5, d5, rfl, ho5⟩ := H5.out.body
      obtain ⟨c5, rfl, hk5⟩ := H5.out.kl.own
      have HP := Lib.hid (open_fin H5.out.bel hk5.ints ho5.ints (by omega) (by omega) (by omega) (by omega))
      clear ho5 hk5 H5 h0 h1 h2 h3
      go_wp2
      go_ret2
      exact HP.out

end Rd
end Go.Proofs.Ytljfhddgifacnaa
