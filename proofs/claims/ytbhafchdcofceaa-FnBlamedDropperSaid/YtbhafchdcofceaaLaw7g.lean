/-
  Laws of chapter 12 on adding loops: each returns true and writes nothing that was there.
-/
import Derived.Test.YtbhafchdcofceaaLaw7f
namespace Go.Proofs.Ytbhafchdcofceaa
open Go.RowKit
namespace Law7
open Il Sl Lc Rd LawB Im7 Hc

theorem code_bl {w w' : World} {A : Option Addr} {n c : Nat} (h : CodeIs w A n c) (hb : Below w.heap.size w w') : CodeIs w' A n c := by
  obtain ⟨h1, h2, h3⟩ := h
  refine ⟨h1, h2, fun hn => ?_⟩
  obtain ⟨b, off, e, hz, hc⟩ := h3 hn
  refine ⟨b, off, e, Nat.lt_of_lt_of_le hz hb.size, fun j hj => ?_⟩
  obtain ⟨u, hu, hcu⟩ := hc j hj
  exact ⟨u, hu, (World.cell?_of_block (hb.block b hz)).trans hcu⟩
set_option maxRecDepth 20000 in
set_option maxHeartbeats 2000000 in
theorem fnLoopOrder (A : Option Addr) (n c : Nat) (B : Option Addr) (m d : Nat) (w : World) (h : CodeIs w A n c) (h2 : CodeIs w B m d) :
    Calls Try.prog 4 #[.slice A n c, .slice B m d] w (TruePost w) := by
  have HC := Lib.hid h
  clear h
  have HC2 := Lib.hid h2
  clear h2
  by_cases hn : 1048576 < n
  · have hd : decide ((1048576 : Int) < (n : Int)) = true := by simp; omega
    go_enter Try.func4, Try.ntmps4
    go_wp2
    go_ret
    exact ⟨rfl, Below.refl _ _⟩
  have hd : decide ((1048576 : Int) < (n : Int)) = false := by simp; omega
  by_cases hm : 1048576 < m
  · have hd2 : decide ((1048576 : Int) < (m : Int)) = true := by simp; omega
    go_enter Try.func4, Try.ntmps4
    go_wp2
    go_ret
    exact ⟨rfl, Below.refl _ _⟩
  have hd2 : decide ((1048576 : Int) < (m : Int)) = false := by simp; omega
  go_enter Try.func4, Try.ntmps4
  go_wp2_with fail
  ((with_reducible refine (DrawLoopAdd _ _ _ _ HC.out).mono ?_); rintro e w1 ⟨A1, c1, xs, B1, d1, p, bk, rfl, hti, hl, hx, hpl, hpx, hp, hb⟩)
  have HX := Lib.hid hx.cnts
  have HP := Lib.hid hp
  have HB := Lib.hid hb
  have hS1 := hb.size
  replace HC2 := Lib.hid (code_bl HC2.out hb)
  clear hti hx hb HC hpx hp
  go_wp2_with fail
  ((with_reducible refine (Im7.LoopAdd _ _ _ _ _ _ _ _ _ _ xs p bk _ HX.out HP.out (Nat.le_refl _) (Nat.le_refl _)).mono ?_); rintro e w2 ⟨AR, cR, rfl, ho, hb⟩)
  have HR := Lib.hid ho.cnts
  replace HX := Lib.hid (HX.out.below hb (Nat.le_refl _))
  replace HP := Lib.hid (HP.out.below hb (Nat.le_refl _))
  replace HB := Lib.hid (HB.out.trans (hb.mono HB.out.size))
  have hS2 := hb.size
  replace HC2 := Lib.hid (code_bl HC2.out hb)
  clear ho hb
  go_wp2_with fail
  ((with_reducible refine (Sp7.LoopAdd _ _ _ _ _ _ _ _ _ _ xs p bk _ HX.out HP.out (by omega) (by omega)).mono ?_); rintro e w3 ⟨AT, cT, rfl, ho, hb⟩)
  have HT := Lib.hid ho.cnts
  replace HR := Lib.hid (HR.out.below hb (Nat.le_refl _))
  replace HX := Lib.hid (HX.out.below hb (Nat.le_refl _))
  replace HP := Lib.hid (HP.out.below hb (Nat.le_refl _))
  replace HB := Lib.hid (HB.out.trans (hb.mono HB.out.size))
  have hS3 := hb.size
  replace HC2 := Lib.hid (code_bl HC2.out hb)
  clear ho hb
  cases hok : addB xs p bk
  · have _h := trivial
    go_wp2_with fail
    ((with_reducible refine (sameCounts _ _ _ _ _ _ _ _ _ _ _ HR.out HT.out).mono ?_); rintro e w4 ⟨rfl, hb⟩)
    replace HR := Lib.hid (HR.out.below hb (Nat.le_refl _))
    replace HT := Lib.hid (HT.out.below hb (Nat.le_refl _))
    replace HB := Lib.hid (HB.out.trans (hb.mono HB.out.size))
    clear hb hok
    go_wp2_with fail
    ((with_reducible refine (sameCounts _ _ _ _ _ _ _ _ _ _ _ HR.out HT.out).mono ?_); rintro e w5 ⟨rfl, hb⟩)
    replace HB := Lib.hid (HB.out.trans (hb.mono HB.out.size))
    clear hb
    go_wp2
    go_ret
    exact ⟨rfl, HB.out⟩
  · have _h := trivial
    go_wp2_with fail
    ((with_reducible refine (sameCounts _ _ _ _ _ _ _ _ _ _ _ HR.out HT.out).mono ?_); rintro e w4 ⟨rfl, hb⟩)
    replace HR := Lib.hid (HR.out.below hb (Nat.le_refl _))
    replace HX := Lib.hid (HX.out.below hb (Nat.le_refl _))
    replace HP := Lib.hid (HP.out.below hb (Nat.le_refl _))
    replace HB := Lib.hid (HB.out.trans (hb.mono HB.out.size))
    have hS4 := hb.size
    replace HC2 := Lib.hid (code_bl HC2.out hb)
    have HOK := Lib.hid hok
    clear hb hok HT
    go_wp2_with fail
    ((with_reducible refine (DrawLoopAdd _ _ _ _ HC2.out).mono ?_); rintro e w5 ⟨A2, c2, xs2, B2, d2, q, bq, rfl, hti, hl2, hx, hql, hpx, hp2, hb⟩)
    have HQ := Lib.hid hp2
    replace HR := Lib.hid (HR.out.below hb (Nat.le_refl _))
    replace HX := Lib.hid (HX.out.below hb (Nat.le_refl _))
    replace HP := Lib.hid (HP.out.below hb (Nat.le_refl _))
    replace HB := Lib.hid (HB.out.trans (hb.mono HB.out.size))
    have hS5 := hb.size
    clear hti hx hb HC2 hpx hp2
    go_wp2_with fail
    ((with_reducible refine (Im7.LoopAdd _ _ _ _ _ _ _ _ _ _ (addR xs p bk) q bq _ HR.out HQ.out (by omega) (Nat.le_refl _)).mono ?_); rintro e w6 ⟨AO, cO, rfl, ho, hb⟩)
    have HO := Lib.hid ho.cnts
    replace HX := Lib.hid (HX.out.below hb (Nat.le_refl _))
    replace HP := Lib.hid (HP.out.below hb (Nat.le_refl _))
    replace HQ := Lib.hid (HQ.out.below hb (Nat.le_refl _))
    replace HB := Lib.hid (HB.out.trans (hb.mono HB.out.size))
    have hS6 := hb.size
    clear ho hb HR
    go_wp2_with fail
    ((with_reducible refine (Im7.LoopAdd _ _ _ _ _ _ _ _ _ _ xs q bq _ HX.out HQ.out (by omega) (by omega)).mono ?_); rintro e w7 ⟨AN, cN, rfl, ho, hb⟩)
    have HN := Lib.hid ho.cnts
    replace HO := Lib.hid (HO.out.below hb (Nat.le_refl _))
    replace HP := Lib.hid (HP.out.below hb (Nat.le_refl _))
    replace HB := Lib.hid (HB.out.trans (hb.mono HB.out.size))
    have hS7 := hb.size
    clear ho hb HX HQ
    cases h1 : addB (addR xs p bk) q bq
    · clear h1 HN HO HP
      go_wp2
      go_ret
      exact ⟨rfl, HB.out⟩
    cases h2 : addB xs q bq
    · clear h1 h2 HN HO HP
      go_wp2
      go_ret
      exact ⟨rfl, HB.out⟩
    have HF := Lib.hid (order_ok HOK.out h1 h2)
    clear h1 h2
    go_wp2_with fail
    ((with_reducible refine (Im7.LoopAdd _ _ _ _ _ _ _ _ _ _ (addR xs q bq) p bk _ HN.out HP.out (by omega) (by omega)).mono ?_); rintro e w8 ⟨AC, cC, rfl, ho, hb⟩)
    have HZ := Lib.hid ho.cnts
    replace HO := Lib.hid (HO.out.below hb (Nat.le_refl _))
    replace HB := Lib.hid (HB.out.trans (hb.mono HB.out.size))
    have hS8 := hb.size
    rw [HF.out.1]
    rw [HF.out.2] at HZ ⊢
    clear ho hb HN HP HF
    go_wp2_with fail
    ((with_reducible refine (sameCounts _ _ _ _ _ _ _ _ _ _ _ HZ.out HO.out).mono ?_); rintro e w9 ⟨rfl, hb⟩)
    replace HB := Lib.hid (HB.out.trans (hb.mono HB.out.size))
    clear hb HZ HO
    go_wp2
    go_ret
    exact ⟨rfl, HB.out⟩

theorem stp_succ (p : List Int) (a c : Int) (k : Nat) : stp p a c (k + 1) = stp p a c k + (if p.getD k 0 = a ∧ p.getD (k + 1) 0 = c then 1 else 0) := rfl
set_option maxRecDepth 20000 in
theorem steps (lo hi : Nat) (A : Option Addr) (n c : Nat) (p : List Int) (f t : Int) (w : World) (hx : Ints lo hi w A n c p) (hn : n ≤ 100) :
    Calls Try.prog 13 #[.slice A n c, .int .i64 f, .int .i64 t] w fun e w' => e = .returned (.int .i64 (stp p f t (n - 1))) ∧ ∃ d, w' = w.drewN d := by
  have hc1 := hx.2.2.1
  have hc2 := hx.2.1
  have HL := Lib.hid hx.1
  unfold maxLen at hc1
  have HX := Lib.hid hx
  clear hx
  go_enter Try.func13, Try.ntmps13
  go_wp2
  go_loopw [7, 8] (fun q i wr => ∃ k : Nat, (k < n ∨ k = 0) ∧ i = .int .i64 ((k : Int) + 1) ∧ q = .int .i64 (stp p f t k) ∧ Hid (∃ d, wr = w.drewN d)) (fun _ i _ => n + 1 - (intOf i).toNat)
  case atStart => exact ⟨0, .inr rfl, rfl, rfl, 0, rfl⟩
  case round =>
    obtain ⟨k, hk, rfl, rfl, hD⟩ := hrel
    obtain ⟨dd, rfl⟩ := hD.out
    clear hD
    have hle := stp_le p f t k
    by_cases hlt : k + 1 < n
    · have hlt' : (k : Int) + 1 < (n : Int) := by omega
      have e2 : IntKind.i64.wrap ((k : Int) + 1 - 1) = (k : Int) := by rw [IntWalk.i64_in _ (by omega)]; omega
      obtain ⟨b, off, rfl, _, _, cx⟩ := HX.out.at_ (k := k) (by omega)
      obtain ⟨b', off', eb, _, _, cy⟩ := HX.out.at_ (k := k + 1) hlt
      simp only [Option.some.injEq, Addr.mk.injEq, and_true] at eb
      obtain ⟨rfl, rfl⟩ := eb
      have HS := Lib.hid (stp_succ p f t k)
      generalize p.getD k 0 = x at *
      generalize p.getD (k + 1) 0 = y at *
      have hle' : (stp p f t k : Int) ≤ 100 := by omega
      have hle0 : (0 : Int) ≤ (stp p f t k : Int) := by omega
      generalize stp p f t k = s0 at *
      by_cases h1 : x = f
      · have d1 : (x == f) = true := by simpa using h1
        by_cases h2 : y = t
        · have HV : Hid (stp p f t (k + 1) = s0 + 1) := by show stp p f t (k + 1) = _; rw [HS.out, if_pos ⟨h1, h2⟩]
          have d2 : (y == t) = true := by simpa using h2
          clear h1 h2 HS hle
          go_wp2
          go_roundw
          case rel => exact ⟨k + 1, .inl (by omega), by go_num, by rw [HV.out]; go_num, dd, rfl⟩
          case measure => simp [intOf]; omega
        · have HV : Hid (stp p f t (k + 1) = s0) := by show stp p f t (k + 1) = _; rw [HS.out, if_neg (fun q => h2 q.2)]; rfl
          have d2 : (y == t) = false := by simpa using h2
          clear h1 h2 HS hle
          go_wp2
          go_roundw
          case rel => exact ⟨k + 1, .inl (by omega), by go_num, by rw [HV.out], dd, rfl⟩
          case measure => simp [intOf]; omega
      · have HV : Hid (stp p f t (k + 1) = s0) := by show stp p f t (k + 1) = _; rw [HS.out, if_neg (fun q => h1 q.1)]; rfl
        have d1 : (x == f) = false := by simpa using h1
        clear h1 HS hle
        go_wp2
        go_roundw
        case rel => exact ⟨k + 1, .inl (by omega), by go_num, by rw [HV.out], dd, rfl⟩
        case measure => simp [intOf]; omega
    · have hlt' : decide ((k : Int) + 1 < (n : Int)) = false := by simp; omega
      have HV : Hid (stp p f t k = stp p f t (n - 1)) := by
        show stp p f t k = _
        congr 1
        omega
      clear hlt
      go_wp2
      go_ret
      rw [HV.out]
      exact ⟨rfl, dd, rfl⟩

/-- What the loops of FnLoopAdd hold. -/
def AlRel (w w1 w2 wr : World) (A1 AR B1 : Option Addr) (c1 cR d1 : Nat) (xs ys : List Cnt) (p : List Int) : Prop :=
  Cnts w.heap.size w1.heap.size wr A1 xs.length c1 xs ∧ Cnts w1.heap.size w2.heap.size wr AR ys.length cR ys ∧ Ints w.heap.size w1.heap.size wr B1 p.length d1 p ∧ Below w.heap.size w wr ∧ w2.heap.size ≤ wr.heap.size
theorem AlRel.below {w w1 w2 wr w3 : World} {A1 AR B1 : Option Addr} {c1 cR d1 : Nat} {xs ys : List Cnt} {p : List Int} (h : AlRel w w1 w2 wr A1 AR B1 c1 cR d1 xs ys p) (hb : Below wr.heap.size wr w3) : AlRel w w1 w2 w3 A1 AR B1 c1 cR d1 xs ys p :=
  ⟨h.1.below hb (Nat.le_refl _), h.2.1.below hb (Nat.le_refl _), h.2.2.1.below hb (Nat.le_refl _), h.2.2.2.1.trans (hb.mono h.2.2.2.1.size), Nat.le_trans h.2.2.2.2 hb.size⟩
section
variable {w w1 w2 wr : World} {A1 AR B1 : Option Addr} {c1 cR d1 : Nat} {xs ys : List Cnt} {p : List Int}
theorem AlRel.x (h : AlRel w w1 w2 wr A1 AR B1 c1 cR d1 xs ys p) : Cnts w.heap.size w1.heap.size wr A1 xs.length c1 xs := h.1
theorem AlRel.r (h : AlRel w w1 w2 wr A1 AR B1 c1 cR d1 xs ys p) : Cnts w1.heap.size w2.heap.size wr AR ys.length cR ys := h.2.1
theorem AlRel.pp (h : AlRel w w1 w2 wr A1 AR B1 c1 cR d1 xs ys p) : Ints w.heap.size w1.heap.size wr B1 p.length d1 p := h.2.2.1
theorem AlRel.sz (h : AlRel w w1 w2 wr A1 AR B1 c1 cR d1 xs ys p) : w2.heap.size ≤ wr.heap.size := h.2.2.2.2
theorem AlRel.b (h : AlRel w w1 w2 wr A1 AR B1 c1 cR d1 xs ys p) : Below w.heap.size w wr := h.2.2.2.1
end
theorem rate_bd {xs : List Cnt} (h : loopsOk xs = true) (a b : Int) : (0 ≤ (rateL xs a b).1 ∧ (rateL xs a b).1 ≤ 99) ∧ 0 ≤ (rateL xs a b).2 ∧ (rateL xs a b).2 ≤ 99 := by
  rw [rate_last h]
  have := last_small h a b
  omega
set_option maxRecDepth 20000 in
set_option maxHeartbeats 2000000 in
theorem fnLoopAdd (A : Option Addr) (n c : Nat) (w : World) (h : CodeIs w A n c) :
    Calls Try.prog 3 #[.slice A n c] w (TruePost w) := by
  have HC := Lib.hid h
  clear h
  by_cases hn : 1048576 < n
  · have hd : decide ((1048576 : Int) < (n : Int)) = true := by simp; omega
    go_enter Try.func3, Try.ntmps3
    go_wp2
    go_ret
    exact ⟨rfl, Below.refl _ _⟩
  have hd : decide ((1048576 : Int) < (n : Int)) = false := by simp; omega
  go_enter Try.func3, Try.ntmps3
  go_wp2_with fail
  ((with_reducible refine (DrawLoopAdd _ _ _ _ HC.out).mono ?_); rintro e w1 ⟨A1, c1, xs, B1, d1, p, bk, rfl, hti, hl, hx, hpl, hpx, hp, hb⟩)
  have HX := Lib.hid hx.cnts
  have HP := Lib.hid hp
  have HB := Lib.hid hb
  have hS1 := hb.size
  clear hti hx hb HC hpx hp
  go_wp2_with fail
  ((with_reducible refine (Im7.LoopAdd _ _ _ _ _ _ _ _ _ _ xs p bk _ HX.out HP.out (Nat.le_refl _) (Nat.le_refl _)).mono ?_); rintro e w2 ⟨AR, cR, rfl, ho, hb⟩)
  have HR := Lib.hid ho.cnts
  replace HX := Lib.hid (HX.out.below hb (Nat.le_refl _))
  replace HP := Lib.hid (HP.out.below hb (Nat.le_refl _))
  replace HB := Lib.hid (HB.out.trans (hb.mono HB.out.size))
  have hS2 := hb.size
  clear ho hb
  go_wp2_with fail
  ((with_reducible refine (Sp7.LoopAdd _ _ _ _ _ _ _ _ _ _ xs p bk _ HX.out HP.out (by omega) (by omega)).mono ?_); rintro e w3 ⟨AT, cT, rfl, ho, hb⟩)
  have HT := Lib.hid ho.cnts
  replace HR := Lib.hid (HR.out.below hb (Nat.le_refl _))
  replace HX := Lib.hid (HX.out.below hb (Nat.le_refl _))
  replace HP := Lib.hid (HP.out.below hb (Nat.le_refl _))
  replace HB := Lib.hid (HB.out.trans (hb.mono HB.out.size))
  have hS3 := hb.size
  clear ho hb
  cases hok : addB xs p bk
  · have _h := trivial
    go_wp2_with fail
    ((with_reducible refine (sameCounts _ _ _ _ _ _ _ _ _ _ _ HR.out HT.out).mono ?_); rintro e w4 ⟨rfl, hb⟩)
    replace HR := Lib.hid (HR.out.below hb (Nat.le_refl _))
    replace HT := Lib.hid (HT.out.below hb (Nat.le_refl _))
    replace HB := Lib.hid (HB.out.trans (hb.mono HB.out.size))
    clear hb hok
    go_wp2_with fail
    ((with_reducible refine (sameCounts _ _ _ _ _ _ _ _ _ _ _ HR.out HT.out).mono ?_); rintro e w5 ⟨rfl, hb⟩)
    replace HB := Lib.hid (HB.out.trans (hb.mono HB.out.size))
    clear hb
    go_wp2
    go_ret
    exact ⟨rfl, HB.out⟩
  · have _h := trivial
    go_wp2_with fail
    ((with_reducible refine (sameCounts _ _ _ _ _ _ _ _ _ _ _ HR.out HT.out).mono ?_); rintro e w4 ⟨rfl, hb⟩)
    replace HR := Lib.hid (HR.out.below hb (Nat.le_refl _))
    replace HX := Lib.hid (HX.out.below hb (Nat.le_refl _))
    replace HP := Lib.hid (HP.out.below hb (Nat.le_refl _))
    replace HB := Lib.hid (HB.out.trans (hb.mono HB.out.size))
    have hS4 := hb.size
    have HOK := Lib.hid hok
    clear hb hok HT
    have HF := Lib.hid (addB_iff.1 HOK.out)
    have HE := Lib.hid (addR_ok HOK.out)
    have hS12 : w1.heap.size ≤ w2.heap.size := hS2
    rw [HE.out] at HR ⊢
    have HRA : Hid (∀ a b : Int, (rateL (addL xs p bk) a b).2 = (rateL xs a b).2 + (stp p a b (p.length - 1) : Int) ∧ (rateL (addL xs p bk) a b).1 = (rateL xs a b).1 + (if bk = true then (stp p a b (p.length - 1) : Int) else 0)) := fun a b => rate_add HF.out.1 HF.out.2.2 a b
    have HBD := Lib.hid (fun a b => rate_bd HF.out.1 a b)
    have HYO := Lib.hid HF.out.2.2
    generalize addL xs p bk = ys at *
    have HR0 : Hid (AlRel w w1 w2 w4 A1 AR B1 c1 cR d1 xs ys p) := ⟨HX.out, HR.out, HP.out, HB.out, by omega⟩
    clear HX HR HP HB HF HE HOK
    go_wp2
    go_loopw [10] (fun i wr => ∃ a : Nat, a ≤ 8 ∧ i = .int .i64 a ∧ Hid (AlRel w w1 w2 wr A1 AR B1 c1 cR d1 xs ys p)) (fun i _ => 8 - (intOf i).toNat)
    case atStart => exact ⟨0, by omega, rfl, HR0.out⟩
    case round =>
      obtain ⟨a, ha, rfl, hR⟩ := hrel
      clear HR0
      by_cases hlt : a < 8
      · have e8 : decide ((a : Int) < 8) = true := by simp; omega
        have ha7 : a ≤ 7 := by omega
        clear hlt
        go_wp2
        go_loopw [11] (fun i wr => ∃ b : Nat, b ≤ 8 ∧ i = .int .i64 b ∧ Hid (AlRel w w1 w2 wr A1 AR B1 c1 cR d1 xs ys p)) (fun i _ => 8 - (intOf i).toNat)
        case atStart => exact ⟨0, by omega, rfl, hR⟩
        case round =>
          clear hR
          obtain ⟨b, hb, rfl, hR⟩ := hrel
          by_cases hlt : b < 8
          · have e9 : decide ((b : Int) < 8) = true := by simp; omega
            have HWA : Hid (wf (a : Int) ∧ wf (b : Int)) := ⟨wf_small (by omega), wf_small (by omega)⟩
            obtain ⟨q2, q1⟩ := HRA.out a b
            obtain ⟨⟨x0, x1⟩, n0, n1⟩ := HBD.out a b
            have hsl := stp_le p a b (p.length - 1)
            have hb7 : b ≤ 7 := by omega
            clear hlt
            go_wp2_with fail
            ((with_reducible refine (Im7.LoopRate _ _ _ _ _ xs a b _ hR.out.x (by have := hR.out.sz; omega) HWA.out.1 HWA.out.2).mono ?_); rintro e w5 ⟨rfl, hb5⟩)
            replace hR := Lib.hid (hR.out.below hb5)
            clear hb5
            go_wp2_with fail
            ((with_reducible refine (Im7.LoopRate _ _ _ _ _ ys a b _ hR.out.r hR.out.sz HWA.out.1 HWA.out.2).mono ?_); rintro e w6 ⟨rfl, hb5⟩)
            replace hR := Lib.hid (hR.out.below hb5)
            clear hb5
            cases bk
            · simp only [Bool.false_eq_true, if_false, Int.add_zero] at q1
              rw [q1, q2]
              go_wp2_with fail
              ((with_reducible refine (steps _ _ _ _ _ p a b _ hR.out.pp (by omega)).mono ?_); rintro e w7 ⟨rfl, dd, hd7⟩)
              replace hR := Lib.hid (hR.out.below (drew_below ⟨dd, hd7⟩))
              clear hd7 q1 q2 HWA
              have hs0 : (stp p a b (p.length - 1) : Int) ≤ 100 := by omega
              have hs1 : (0 : Int) ≤ (stp p a b (p.length - 1) : Int) := by omega
              clear hsl
              generalize stp p a b (p.length - 1) = s at *
              generalize (rateL xs a b).1 = x at *
              generalize (rateL xs a b).2 = y at *
              have k1 : (y + (s : Int) != y + (s : Int)) = false := by simp
              have k2 : (x != x) = false := by simp
              have k3 : (x + 0 != x + 0) = false := by simp
              have k4 : (x != x + 0) = false := by simp
              go_wp2
              go_roundw
              case rel => exact ⟨b + 1, by omega, by go_num, hR⟩
              case measure => simp [intOf]; omega
            · simp only [if_true] at q1
              rw [q1, q2]
              go_wp2_with fail
              ((with_reducible refine (steps _ _ _ _ _ p a b _ hR.out.pp (by omega)).mono ?_); rintro e w7 ⟨rfl, dd, hd7⟩)
              replace hR := Lib.hid (hR.out.below (drew_below ⟨dd, hd7⟩))
              clear hd7 q1 q2 HWA
              have hs0 : (stp p a b (p.length - 1) : Int) ≤ 100 := by omega
              have hs1 : (0 : Int) ≤ (stp p a b (p.length - 1) : Int) := by omega
              clear hsl
              generalize stp p a b (p.length - 1) = s at *
              generalize (rateL xs a b).1 = x at *
              generalize (rateL xs a b).2 = y at *
              have k1 : (y + (s : Int) != y + (s : Int)) = false := by simp
              have k2 : (x + (s : Int) != x + (s : Int)) = false := by simp
              have _h := trivial
              go_wp2
              go_roundw
              case rel => exact ⟨b + 1, by omega, by go_num, hR⟩
              case measure => simp [intOf]; omega
          · obtain rfl : b = 8 := by omega
            clear hlt
            go_wp2
            go_roundw
            case rel => exact ⟨a + 1, by omega, by go_num, hR⟩
            case measure => simp [intOf]; omega
      · obtain rfl : a = 8 := by omega
        clear hlt
        go_wp2_with fail
        ((with_reducible refine (Im7.LoopsValid _ _ _ _ _ ys _ hR.out.r).mono ?_); rintro e w5 ⟨rfl, hb5⟩)
        replace hR := Lib.hid (hR.out.below hb5)
        rw [HYO.out]
        clear hb5
        go_wp2
        go_ret
        exact ⟨rfl, hR.out.b⟩

end Law7
end Go.Proofs.Ytbhafchdcofceaa
