/-
  The exact laws of chapter 21: each returns true and writes nothing that was there.
-/
import Derived.Test.YtfnbjojaflloaabLaw9p
import Derived.Test.YtfnbjojaflloaabHf
import Derived.Deep.RegionHeld3
namespace Go.Proofs.Ytfnbjojaflloaab
open Go.RowKit
namespace Law9x
open Il Sl Cm Ec Dm Sp9 Gm H9 LawB Hf Law9

theorem drew_bl {K : Nat} {w w' : World} (h : Below K w w') : Below K w w'.drew := ⟨h.os, h.tape, h.output, h.size, h.block⟩
theorem signI {s ep x : Int} {es : List En} {A : Option Addr} {k lo hi : Nat} {w : World} (h : signF s ep es = x) (hx : Ens lo hi w A es.length k es) : Calls Try.prog 27 #[.int .i64 s, .agg #[.int .i64 ep, .slice A es.length k]] w (IntB x w) := by
  subst h
  exact Im9.DirectorySign s ep es A _ k lo hi w hx
theorem signS {s ep x : Int} {es : List En} {A : Option Addr} {k lo hi : Nat} {w : World} (h : signF s ep es = x) (hx : Ens lo hi w A es.length k es) : Calls Try.prog 57 #[.int .i64 s, .agg #[.int .i64 ep, .slice A es.length k]] w (IntB x w) := by
  subst h
  exact Sp9.DirectorySign s ep es A _ k lo hi w hx
theorem path_le (ep s h : Int) (es : List En) : (pathF ep es s h).length ≤ 3 := by
  by_cases hn : pathF ep es s h = []
  · rw [hn]; exact Nat.zero_le _
  · obtain ⟨_, _, h3, r, _, he, _, hl⟩ := pathF_open hn
    rw [he, List.length_map, hl]; omega
theorem eqK {l1 h1 l2 h2 n m c d : Nat} {w : World} {A B : Option Addr} {xs : List Int} (i1 : Ints l1 h1 w A n c xs) (i2 : Ints l2 h2 w B m d xs) : Calls Try.prog 19 #[.slice A n c, .slice B m d] w (BoolB true w) := by
  refine (Hlp.eqIntS l1 h1 l2 h2 A B n m c d xs xs w i1 i2).mono ?_
  rintro e w' ⟨rfl, d, rfl⟩
  rw [decide_eq_true rfl]
  exact ⟨rfl, drew_below ⟨d, rfl⟩⟩
theorem markI {lo hi n c : Nat} {A : Option Addr} {xs : List Int} {w : World} (hx : Il.Own lo hi w A n c xs) (hn : n ≤ 10000000) : Calls Try.prog 20 #[.slice A n c, .int .i64 1] w fun e w' => e = .returned (.int .i64 (1 + (n : Int))) ∧ Il.Own lo hi w' A n c (marks 1 n) ∧ Kept lo hi w w' := Hlp.markIntS lo hi A n c xs 1 w hx hn (by omega) (by omega)
theorem heldK {lo hi n c : Nat} {A : Option Addr} {w : World} (hx : Ints lo hi w A n c (marks 1 n)) (hn : n ≤ 10000000) : Calls Try.prog 21 #[.slice A n c, .int .i64 1] w (IntB (1 + (n : Int)) w) := (Hlp.heldIntS lo hi A n c 1 w hx hn (by omega) (by omega)).mono fun _ _ ⟨he, hw⟩ => ⟨he, by rw [← hw]; exact Below.refl _ _⟩
theorem enso_kepta {lo hi l2 h2 : Nat} {w w' : World} {A : Option Addr} {n c : Nat} {xs : List En} (h : EnsO lo hi w A n c xs) (hk : KeptA l2 h2 w w') (hd : hi ≤ l2 ∨ h2 ≤ lo) : EnsO lo hi w' A n c xs := h.keep hk.size fun b q1 q2 q3 => hk.block b q3 (by omega)
theorem blk2_kept {l2 h2 b : Nat} {w w' : World} {u v : Value} {t : TypeId} (h : Blk2 w b u v t) (hk : Kept l2 h2 w w') (hd : b < l2 ∨ h2 ≤ b) : Blk2 w' b u v t := (hk.block b hd).trans h
theorem own_kept {lo hi l2 h2 : Nat} {w w' : World} {A : Option Addr} {n c : Nat} {xs : List Int} (h : Il.Own lo hi w A n c xs) (hk : Kept l2 h2 w w') (hd : hi ≤ l2 ∨ h2 ≤ lo) : Il.Own lo hi w' A n c xs := h.kept hk hd
theorem ens_kept {lo hi l2 h2 : Nat} {w w' : World} {A : Option Addr} {n c : Nat} {xs : List En} (h : Ens lo hi w A n c xs) (hk : Kept l2 h2 w w') (hd : hi ≤ l2 ∨ h2 ≤ lo) : Ens lo hi w' A n c xs := h.kept hk hd
theorem enso_kept {lo hi l2 h2 : Nat} {w w' : World} {A : Option Addr} {n c : Nat} {xs : List En} (h : EnsO lo hi w A n c xs) (hk : Kept l2 h2 w w') (hd : hi ≤ l2 ∨ h2 ≤ lo) : EnsO lo hi w' A n c xs := h.kept hk hd



set_option maxRecDepth 20000 in
set_option maxHeartbeats 2000000 in
theorem fnExactDirectoryCheck (ep : Int) (es : List En) (A : Option Addr) (k : Nat) (ps gs : List Int) (P G : Option Addr) (p g : Nat) (w : World) (hx : Ens 0 w.heap.size w A es.length k es) (hp : Ints 0 w.heap.size w P ps.length p ps) (hg : Ints 0 w.heap.size w G gs.length g gs) :
    Calls Try.prog 9 #[.slice P ps.length p, .agg #[.int .i64 ep, .slice A es.length k], .slice G gs.length g] w (TruePost w) := by
  have hk1 := hx.max_
  have hk2 := hx.cap_
  have R0 := Lib.hid hx
  have RP := Lib.hid hp
  have RG := Lib.hid hg
  clear hx hp hg
  have B : Hid (Below w.heap.size w w) := Below.refl _ _
  go_enter Try.func9, Try.ntmps9
  have hal : Below w.heap.size w (w.alloc (.cells #[.int .i64 ep, .slice A es.length k] 51)) := (Below.refl _ _).alloc (Nat.le_refl _) _
  have hzz := blk2_new w (.int .i64 ep) (.slice A es.length k) 51
  replace R0 := Lib.hid (R0.out.below hal (Nat.le_refl _))
  replace RP := Lib.hid (RP.out.below hal (Nat.le_refl _))
  replace RG := Lib.hid (RG.out.below hal (Nat.le_refl _))
  replace B := Lib.hid (B.out.trans (hal.mono B.out.size))
  have ZA := Lib.hid hzz
  have hzZA : w.heap.size < (w.alloc (.cells #[.int .i64 ep, .slice A es.length k] 51)).heap.size := by simp
  clear hzz hal
  by_cases hp9 : 1048576 < ps.length
  · have dhp9 : decide (1048576 < (ps.length : Int)) = true := by simp; omega
    go_wp2
    go_ret
    exact ⟨rfl, B.out⟩
  have dhp9 : decide (1048576 < (ps.length : Int)) = false := by simp; omega
  by_cases hg9 : 1048576 < gs.length
  · have dhg9 : decide (1048576 < (gs.length : Int)) = true := by simp; omega
    go_wp2
    go_ret
    exact ⟨rfl, B.out⟩
  have dhg9 : decide (1048576 < (gs.length : Int)) = false := by simp; omega
  obtain ⟨ZA0, ZA1, ZAf⟩ := ZA.out.cells
  go_wp2_with fail
  ((with_reducible refine (szDirectory ep es.length k A _ hk1 hk2).mono ?_); rintro e w1 ⟨⟨v, rfl, hv⟩, hb⟩)
  replace R0 := Lib.hid (R0.out.below hb (Nat.le_refl _))
  replace RP := Lib.hid (RP.out.below hb (Nat.le_refl _))
  replace RG := Lib.hid (RG.out.below hb (Nat.le_refl _))
  replace ZA := Lib.hid (ZA.out.below hb)
  replace B := Lib.hid (B.out.trans (hb.mono B.out.size))
  have z1 := hb.size
  clear ZA0 ZA1 ZAf
  clear hb
  rcases hv with hv | ⟨hv, hnt⟩
  · go_wp2
    go_ret
    exact ⟨rfl, B.out⟩
  have hvd : decide (v < 0) = false := by simpa using hv
  have HNT := Lib.hid hnt
  clear hv hnt
  obtain ⟨r, HR⟩ : ∃ r, Hid (checkF ps ep es gs = r) := ⟨_, rfl⟩
  have hp8 : ps.length ≤ 10000000 := by omega
  have hg8 : gs.length ≤ 10000000 := by omega
  obtain ⟨ZA0, ZA1, ZAf⟩ := ZA.out.cells
  have HS : Hid (∀ W', Below w1.heap.size w1 W' → (W'.cell? ⟨w.heap.size, 0, none⟩ = some (.int .i64 ep) ∧ W'.cell? ⟨w.heap.size, 1, none⟩ = some (.slice A es.length k)) ∧ Ints 0 w.heap.size W' P ps.length p ps ∧ Ints 0 w.heap.size W' G gs.length g gs ∧ Ens 0 w.heap.size W' A es.length k es) := fun W' hb => ⟨⟨(hb.cell (p := ⟨w.heap.size, 0, none⟩) ZA.out.lt).trans ZA0, (hb.cell (p := ⟨w.heap.size, 1, none⟩) ZA.out.lt).trans ZA1⟩, RP.out.below hb (Nat.le_refl _), RG.out.below hb (Nat.le_refl _), R0.out.below hb (Nat.le_refl _)⟩
  have bW : Below w1.heap.size w1 w1.drew := drew_bl (Below.refl _ _)
  go_upto_region 9 with (fail)
  clear ZA0 ZA1 ZAf
  go_region_held3 (fun w' => w'.cell? ⟨w.heap.size, 0, none⟩ = some (.int .i64 ep) ∧ w'.cell? ⟨w.heap.size, 1, none⟩ = some (.slice A es.length k))
    (with_reducible exact (HS.out _ bW).1)
    (first
      | (go_at_call 30; (with_reducible refine (checkS HR.out ID.row_ IP.ints IG.ints).mono ?_); rintro e W9 ⟨rfl, hb9⟩; replace bW := bW.trans (hb9.mono bW.size); clear hb9)
      | (go_at_call 32; (with_reducible refine (toDirectory ep es A k _ _ _ (HS.out _ bW).2.2.2 HNT.out).mono ?_); rintro e W1 ⟨A1, k1, rfl, ho1, hb1⟩; replace bW := bW.trans (hb1.mono bW.size); (try replace IP := IP.below hb1 (Nat.le_refl _)); (try replace IG := IG.below hb1 (Nat.le_refl _)); have ID := ho1; clear ho1 hb1)
      | (go_at_call 17; (with_reducible refine (Hlp.toIntS _ _ _ _ _ ps _ (HS.out _ bW).2.1 hp8).mono ?_); rintro e W2 ⟨A2, k2, rfl, ho2, hb2⟩; replace bW := bW.trans (hb2.mono bW.size); (try replace ID := ID.below hb2 (Nat.le_refl _)); (try replace IG := IG.below hb2 (Nat.le_refl _)); have IP := ho2; clear ho2 hb2)
      | (go_at_call 17; (with_reducible refine (Hlp.toIntS _ _ _ _ _ gs _ (HS.out _ bW).2.2.1 hg8).mono ?_); rintro e W3 ⟨A3, k3, rfl, ho3, hb3⟩; replace bW := bW.trans (hb3.mono bW.size); (try replace ID := ID.below hb3 (Nat.le_refl _)); (try replace IP := IP.below hb3 (Nat.le_refl _)); have IG := ho3; clear ho3 hb3)
      | fail)
  replace R0 := Lib.hid (R0.out.below bW (Nat.le_refl _))
  replace RP := Lib.hid (RP.out.below bW (Nat.le_refl _))
  replace RG := Lib.hid (RG.out.below bW (Nat.le_refl _))
  replace ZA := Lib.hid (ZA.out.below bW)
  replace B := Lib.hid (B.out.trans (bW.mono B.out.size))
  have z99 := bW.size
  clear bW ID IP IG HS
  go_wp2_with fail
  ((with_reducible refine (Hlp.toIntS _ _ _ _ _ ps _ RP.out hp8).mono ?_); rintro e w2 ⟨AY0, kY0, rfl, ho, hb⟩)
  replace R0 := Lib.hid (R0.out.below hb (Nat.le_refl _))
  replace RP := Lib.hid (RP.out.below hb (Nat.le_refl _))
  replace RG := Lib.hid (RG.out.below hb (Nat.le_refl _))
  replace ZA := Lib.hid (ZA.out.below hb)
  replace B := Lib.hid (B.out.trans (hb.mono B.out.size))
  have z2 := hb.size
  have OY0 := Lib.hid ho
  clear ho
  clear hb
  obtain ⟨ZA0, ZA1, ZAf⟩ := ZA.out.cells
  go_wp2_with fail
  ((with_reducible refine (toDirectory ep es A k _ _ _ R0.out HNT.out).mono ?_); rintro e w3 ⟨AX, kX, rfl, ho, hb⟩)
  replace R0 := Lib.hid (R0.out.below hb (Nat.le_refl _))
  replace RP := Lib.hid (RP.out.below hb (Nat.le_refl _))
  replace RG := Lib.hid (RG.out.below hb (Nat.le_refl _))
  replace ZA := Lib.hid (ZA.out.below hb)
  replace OY0 := Lib.hid (OY0.out.below hb (Nat.le_refl _))
  replace B := Lib.hid (B.out.trans (hb.mono B.out.size))
  have z3 := hb.size
  have OX := Lib.hid ho
  clear ho
  clear ZA0 ZA1 ZAf
  clear hb
  have hal : Below w3.heap.size w3 (w3.alloc (.cells #[.int .i64 ep, .slice AX es.length kX] 40)) := (Below.refl _ _).alloc (Nat.le_refl _) _
  have hzz := blk2_new w3 (.int .i64 ep) (.slice AX es.length kX) 40
  replace R0 := Lib.hid (R0.out.below hal (Nat.le_refl _))
  replace RP := Lib.hid (RP.out.below hal (Nat.le_refl _))
  replace RG := Lib.hid (RG.out.below hal (Nat.le_refl _))
  replace ZA := Lib.hid (ZA.out.below hal)
  replace OY0 := Lib.hid (OY0.out.below hal (Nat.le_refl _))
  replace OX := Lib.hid (OX.out.below hal (Nat.le_refl _))
  replace B := Lib.hid (B.out.trans (hal.mono B.out.size))
  have ZX := Lib.hid hzz
  have hzZX : w3.heap.size < (w3.alloc (.cells #[.int .i64 ep, .slice AX es.length kX] 40)).heap.size := by simp
  clear hzz hal
  go_wp2_with fail
  ((with_reducible refine (Hlp.toIntS _ _ _ _ _ gs _ RG.out hg8).mono ?_); rintro e w4 ⟨AY2, kY2, rfl, ho, hb⟩)
  replace R0 := Lib.hid (R0.out.below hb (Nat.le_refl _))
  replace RP := Lib.hid (RP.out.below hb (Nat.le_refl _))
  replace RG := Lib.hid (RG.out.below hb (Nat.le_refl _))
  replace ZA := Lib.hid (ZA.out.below hb)
  replace OY0 := Lib.hid (OY0.out.below hb (Nat.le_refl _))
  replace OX := Lib.hid (OX.out.below hb (Nat.le_refl _))
  replace ZX := Lib.hid (ZX.out.below hb)
  replace B := Lib.hid (B.out.trans (hb.mono B.out.size))
  have z4 := hb.size
  have OY2 := Lib.hid ho
  clear ho
  clear hb
  obtain ⟨ZX0, ZX1, ZXf⟩ := ZX.out.cells
  go_wp2_with fail
  ((with_reducible refine (checkI HR.out OX.out.row_ OY0.out.ints OY2.out.ints).mono ?_); rintro e w5 ⟨rfl, hb⟩)
  replace R0 := Lib.hid (R0.out.below hb (Nat.le_refl _))
  replace RP := Lib.hid (RP.out.below hb (Nat.le_refl _))
  replace RG := Lib.hid (RG.out.below hb (Nat.le_refl _))
  replace ZA := Lib.hid (ZA.out.below hb)
  replace OY0 := Lib.hid (OY0.out.below hb (Nat.le_refl _))
  replace OX := Lib.hid (OX.out.below hb (Nat.le_refl _))
  replace ZX := Lib.hid (ZX.out.below hb)
  replace OY2 := Lib.hid (OY2.out.below hb (Nat.le_refl _))
  replace B := Lib.hid (B.out.trans (hb.mono B.out.size))
  have z5 := hb.size
  clear ZX0 ZX1 ZXf
  clear hb
  have e0 : (r != r) = false := by cases r <;> rfl
  go_wp2_with fail
  ((with_reducible refine (Hlp.toIntS _ _ _ _ _ ps _ RP.out hp8).mono ?_); rintro e w6 ⟨AU0, kU0, rfl, ho, hb⟩)
  replace R0 := Lib.hid (R0.out.below hb (Nat.le_refl _))
  replace RP := Lib.hid (RP.out.below hb (Nat.le_refl _))
  replace RG := Lib.hid (RG.out.below hb (Nat.le_refl _))
  replace ZA := Lib.hid (ZA.out.below hb)
  replace OY0 := Lib.hid (OY0.out.below hb (Nat.le_refl _))
  replace OX := Lib.hid (OX.out.below hb (Nat.le_refl _))
  replace ZX := Lib.hid (ZX.out.below hb)
  replace OY2 := Lib.hid (OY2.out.below hb (Nat.le_refl _))
  replace B := Lib.hid (B.out.trans (hb.mono B.out.size))
  have z6 := hb.size
  have OU0 := Lib.hid ho
  clear ho
  clear hb
  go_wp2_with fail
  ((with_reducible refine (eqK OY0.out.ints OU0.out.ints).mono ?_); rintro e w7 ⟨rfl, hb⟩)
  replace R0 := Lib.hid (R0.out.below hb (Nat.le_refl _))
  replace RP := Lib.hid (RP.out.below hb (Nat.le_refl _))
  replace RG := Lib.hid (RG.out.below hb (Nat.le_refl _))
  replace ZA := Lib.hid (ZA.out.below hb)
  replace OY0 := Lib.hid (OY0.out.below hb (Nat.le_refl _))
  replace OX := Lib.hid (OX.out.below hb (Nat.le_refl _))
  replace ZX := Lib.hid (ZX.out.below hb)
  replace OY2 := Lib.hid (OY2.out.below hb (Nat.le_refl _))
  replace OU0 := Lib.hid (OU0.out.below hb (Nat.le_refl _))
  replace B := Lib.hid (B.out.trans (hb.mono B.out.size))
  have z7 := hb.size
  clear hb
  obtain ⟨ZX0, ZX1, ZXf⟩ := ZX.out.cells
  obtain ⟨ZA0, ZA1, ZAf⟩ := ZA.out.cells
  have HS : Hid (∀ W', Below w7.heap.size w7 W' → (W'.cell? ⟨w3.heap.size, 0, none⟩ = some (.int .i64 ep) ∧ W'.cell? ⟨w3.heap.size, 1, none⟩ = some (.slice AX es.length kX) ∧ W'.cell? ⟨w.heap.size, 0, none⟩ = some (.int .i64 ep) ∧ W'.cell? ⟨w.heap.size, 1, none⟩ = some (.slice A es.length k))) := fun W' hb => ⟨(hb.cell (p := ⟨w3.heap.size, 0, none⟩) ZX.out.lt).trans ZX0, (hb.cell (p := ⟨w3.heap.size, 1, none⟩) ZX.out.lt).trans ZX1, (hb.cell (p := ⟨w.heap.size, 0, none⟩) ZA.out.lt).trans ZA0, (hb.cell (p := ⟨w.heap.size, 1, none⟩) ZA.out.lt).trans ZA1⟩
  have S0 := Lib.hid (HS.out w7.drew (drew_bl (Below.refl _ _)))
  have RD : Hid (Ens 0 w.heap.size w7.drew A es.length k es) := R0.out
  have DD : Hid (Below w7.heap.size w7 w7.drew) := drew_bl (Below.refl _ _)
  clear ZX0 ZX1 ZXf ZA0 ZA1 ZAf
  go_upto_region 18 with (fail)
  go_region_held3 (fun w' => (w'.cell? ⟨w3.heap.size, 0, none⟩ = some (.int .i64 ep) ∧ w'.cell? ⟨w3.heap.size, 1, none⟩ = some (.slice AX es.length kX) ∧ w'.cell? ⟨w.heap.size, 0, none⟩ = some (.int .i64 ep) ∧ w'.cell? ⟨w.heap.size, 1, none⟩ = some (.slice A es.length k)))
    (first | with_reducible exact S0.out | with_reducible exact s8 | with_reducible exact s9 | fail)
    (first
      | (go_at_call 33; refine (eqDirectory ep es _ _ _ _ _ _ _ _ _ _ MX8.out M9.out).mono ?_; rintro e wq9 ⟨rfl, hb9⟩; have s9 := HS.out wq9 ((DD.out.trans (hb8.mono DD.out.size)).trans (hb9.mono (Nat.le_trans DD.out.size hb8.size))))
      | (go_at_call 32; refine (toDirectory ep es A k 0 _ _ RD.out HNT.out).mono ?_; rintro e wq8 ⟨A9, k9, rfl, ho9, hb8⟩; have s8 := HS.out wq8 (DD.out.trans (hb8.mono DD.out.size)); have M9 := Lib.hid ho9.row_; have MX8 := Lib.hid (OX.out.row_.below (DD.out.trans (hb8.mono DD.out.size)) (Nat.le_refl _)))
      | fail)
  have hbq : Below w7.heap.size w7 wq9 := (DD.out.trans (hb8.mono DD.out.size)).trans (hb9.mono (Nat.le_trans DD.out.size hb8.size))
  replace R0 := Lib.hid (R0.out.below hbq (Nat.le_refl _))
  replace RP := Lib.hid (RP.out.below hbq (Nat.le_refl _))
  replace RG := Lib.hid (RG.out.below hbq (Nat.le_refl _))
  replace ZA := Lib.hid (ZA.out.below hbq)
  replace OY0 := Lib.hid (OY0.out.below hbq (Nat.le_refl _))
  replace OX := Lib.hid (OX.out.below hbq (Nat.le_refl _))
  replace ZX := Lib.hid (ZX.out.below hbq)
  replace OY2 := Lib.hid (OY2.out.below hbq (Nat.le_refl _))
  replace OU0 := Lib.hid (OU0.out.below hbq (Nat.le_refl _))
  replace B := Lib.hid (B.out.trans (hbq.mono B.out.size))
  have zq := hbq.size
  clear hbq hb8 hb9 s8 s9 S0 HS RD DD MX8 M9 ho9
  go_wp2_with fail
  ((with_reducible refine (Hlp.toIntS _ _ _ _ _ gs _ RG.out hg8).mono ?_); rintro e w8 ⟨AU2, kU2, rfl, ho, hb⟩)
  replace R0 := Lib.hid (R0.out.below hb (Nat.le_refl _))
  replace RP := Lib.hid (RP.out.below hb (Nat.le_refl _))
  replace RG := Lib.hid (RG.out.below hb (Nat.le_refl _))
  replace ZA := Lib.hid (ZA.out.below hb)
  replace OY0 := Lib.hid (OY0.out.below hb (Nat.le_refl _))
  replace OX := Lib.hid (OX.out.below hb (Nat.le_refl _))
  replace ZX := Lib.hid (ZX.out.below hb)
  replace OY2 := Lib.hid (OY2.out.below hb (Nat.le_refl _))
  replace OU0 := Lib.hid (OU0.out.below hb (Nat.le_refl _))
  replace B := Lib.hid (B.out.trans (hb.mono B.out.size))
  have z8 := hb.size
  have OU2 := Lib.hid ho
  clear ho
  clear hb
  go_wp2_with fail
  ((with_reducible refine (eqK OY2.out.ints OU2.out.ints).mono ?_); rintro e w9 ⟨rfl, hb⟩)
  replace R0 := Lib.hid (R0.out.below hb (Nat.le_refl _))
  replace RP := Lib.hid (RP.out.below hb (Nat.le_refl _))
  replace RG := Lib.hid (RG.out.below hb (Nat.le_refl _))
  replace ZA := Lib.hid (ZA.out.below hb)
  replace OY0 := Lib.hid (OY0.out.below hb (Nat.le_refl _))
  replace OX := Lib.hid (OX.out.below hb (Nat.le_refl _))
  replace ZX := Lib.hid (ZX.out.below hb)
  replace OY2 := Lib.hid (OY2.out.below hb (Nat.le_refl _))
  replace OU0 := Lib.hid (OU0.out.below hb (Nat.le_refl _))
  replace OU2 := Lib.hid (OU2.out.below hb (Nat.le_refl _))
  replace B := Lib.hid (B.out.trans (hb.mono B.out.size))
  have z9 := hb.size
  clear hb
  go_wp2
  go_ret
  exact ⟨rfl, B.out⟩



end Law9x
end Go.Proofs.Ytfnbjojaflloaab
