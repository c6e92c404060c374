/-
  Exact laws of chapter 13: each returns true and writes nothing that was there.
-/
import Derived.Test.YtmmnpmfkpieoiaaIm8h
import Derived.Test.YtmmnpmfkpieoiaaH8b
import Derived.Test.YtmmnpmfkpieoiaaIla
import Derived.Deep.RegionHeld3
import Derived.Deep.Cut
namespace Go.Proofs.Ytmmnpmfkpieoiaa
open Go.RowKit
namespace Law8x
open Il Sl Fo Cm Cs Sg Gm H8 LawB

theorem drew_bl {K : Nat} {w w' : World} (h : Below K w w') : Below K w w'.drew := ⟨h.os, h.tape, h.output, h.size, h.block⟩
theorem own_keptG {G : List (List Nat)} {w w' : World} {lo hi l2 h2 n c : Nat} {A : Option Addr} {xs : List Int} (h : Il.Own lo hi w A n c xs) (hk : KeptG G w w') (hw : Within l2 h2 G) (hd : hi ≤ l2 ∨ h2 ≤ lo) : Il.Own lo hi w' A n c xs := h.keep hk.size fun b q1 q2 q3 => keptG_at hk hw b q3 (by omega)
theorem tot_small {c : Ch} (h : c.sl.length ≤ 3) (h2 : ∀ x ∈ c.sl, x.length ≤ 6) : tot c.sl ≤ 18 := by
  obtain ⟨ep, sl⟩ := c
  unfold tot
  match sl, h, h2 with
  | [], _, _ => simp
  | [a], _, h2 => have := h2 a (by simp); simp; omega
  | [a, b], _, h2 => have := h2 a (by simp); have := h2 b (by simp); simp; omega
  | [a, b, d], _, h2 => have := h2 a (by simp); have := h2 b (by simp); have := h2 d (by simp); simp; omega
theorem tot_ok {c : Ch} (h : chOk c = true ∨ c = Ch.zero) : tot c.sl ≤ 18 := by
  rcases h with h | rfl
  · obtain ⟨q1, _, q3⟩ := chOk_iff.1 h
    exact tot_small (by omega) fun x hx => (slotOk_iff.1 (q1 x hx)).1
  · unfold tot Ch.zero; simp
theorem add_res (c : Ch) (e key : Int) : chOk (addF c e key) = true ∨ addF c e key = Ch.zero := by
  cases hok : chOk c
  · exact .inr (add_bad e (.inl hok)).2
  cases hik : inG key
  · exact .inr (add_bad e (.inr hik)).2
  exact .inl (addF_ok hok hik e)
theorem turn_res (c : Ch) : chOk (turnF c) = true ∨ turnF c = Ch.zero := by
  cases hok : chOk c
  · exact .inr (turn_no hok).2
  exact .inl (turnF_ok hok)
theorem addX {c c1 : Ch} {e key n1 : Int} {A : Option Addr} {k lo hi : Nat} {w : World} (h : addF c e key = c1 ∧ addN c e key = n1) (hx : Sts lo hi w A c.sl.length k c.sl) : Calls Try.prog 24 #[.agg #[.int .i64 c.ep, .slice A c.sl.length k], .int .i64 e, .int .i64 key] w (CacheP c1 (.int .i64 n1) w) := by
  obtain ⟨rfl, rfl⟩ := h
  exact Im8.CacheAdd c e key A _ k lo hi w hx
theorem addS {c c1 : Ch} {e key n1 : Int} {A : Option Addr} {k lo hi : Nat} {w : World} (h : addF c e key = c1 ∧ addN c e key = n1) (hx : Sts lo hi w A c.sl.length k c.sl) : Calls Try.prog 25 #[.agg #[.int .i64 c.ep, .slice A c.sl.length k], .int .i64 e, .int .i64 key] w (CacheP c1 (.int .i64 n1) w) := by
  obtain ⟨rfl, rfl⟩ := h
  exact Sp8.CacheAdd c e key A _ k lo hi w hx
theorem turnX {c c1 : Ch} {ok : Bool} {A : Option Addr} {k lo hi : Nat} {w : World} (h : turnF c = c1 ∧ turnB c = ok) (hx : Sts lo hi w A c.sl.length k c.sl) : Calls Try.prog 28 #[.agg #[.int .i64 c.ep, .slice A c.sl.length k]] w (CacheP c1 (.bool ok) w) := by
  obtain ⟨rfl, rfl⟩ := h
  exact Im8.CacheTurn c A _ k lo hi w hx
theorem turnS {c c1 : Ch} {ok : Bool} {A : Option Addr} {k lo hi : Nat} {w : World} (h : turnF c = c1 ∧ turnB c = ok) (hx : Sts lo hi w A c.sl.length k c.sl) : Calls Try.prog 29 #[.agg #[.int .i64 c.ep, .slice A c.sl.length k]] w (CacheP c1 (.bool ok) w) := by
  obtain ⟨rfl, rfl⟩ := h
  exact Sp8.CacheTurn c A _ k lo hi w hx
theorem keysX {c : Ch} {e : Int} {xs : List Int} {A : Option Addr} {k lo hi : Nat} {w : World} (h : keysF c e = xs) (hx : Sts lo hi w A c.sl.length k c.sl) : Calls Try.prog 21 #[.agg #[.int .i64 c.ep, .slice A c.sl.length k], .int .i64 e] w (NewInts w xs) := by
  subst h
  exact Im8.CacheKeys c e A _ k lo hi w hx
theorem keysS {c : Ch} {e : Int} {xs : List Int} {A : Option Addr} {k lo hi : Nat} {w : World} (h : keysF c e = xs) (hx : Sts lo hi w A c.sl.length k c.sl) : Calls Try.prog 32 #[.agg #[.int .i64 c.ep, .slice A c.sl.length k], .int .i64 e] w (NewInts w xs) := by
  subst h
  exact Sp8.CacheKeys c e A _ k lo hi w hx

set_option maxRecDepth 20000 in
set_option maxHeartbeats 1000000 in
theorem fnExactCacheValid (c : Ch) (A : Option Addr) (k lo hi : Nat) (w : World) (hx : Sts lo hi w A c.sl.length k c.sl) :
    Calls Try.prog 13 #[.agg #[.int .i64 c.ep, .slice A c.sl.length k]] w (TruePost w) := by
  have B : Hid (Below w.heap.size w w) := Below.refl _ _
  go_enter Try.func13, Try.ntmps13
  have R0 : Hid (Sts 0 w.heap.size w A c.sl.length k c.sl) := hx.top (Nat.zero_le _)
  clear hx
  have hal : Below w.heap.size w (w.alloc (.cells #[.int .i64 c.ep, .slice A c.sl.length k] 46)) := (Below.refl _ _).alloc (Nat.le_refl _) _
  have hzz : Blk (w.alloc (.cells #[.int .i64 c.ep, .slice A c.sl.length k] 46)) w.heap.size #[.int .i64 c.ep, .slice A c.sl.length k] 46 := heap_alloc_new _ _
  replace R0 := Lib.hid (R0.out.below hal (Nat.le_refl _))
  replace B := Lib.hid (B.out.trans (hal.mono B.out.size))
  have ZA := Lib.hid hzz
  clear hzz
  clear hal
  have hzA : w.heap.size < (w.alloc (.cells #[.int .i64 c.ep, .slice A c.sl.length k] 46)).heap.size := by simp
  have hzA : w.heap.size < (w.alloc (.cells #[.int .i64 c.ep, .slice A c.sl.length k] 46)).heap.size := by simp
  obtain ⟨z0, z1, zf⟩ := two_cells ZA.out
  go_wp2_with fail
  ((with_reducible refine (szCache c.ep _ _ A c.sl.length k c.sl _ R0.out).mono ?_); rintro e w2 ⟨⟨v, rfl, hv⟩, hb⟩)
  replace R0 := Lib.hid (R0.out.below hb (Nat.le_refl _))
  replace ZA := Lib.hid (ZA.out.below hb (Nat.le_refl _))
  replace B := Lib.hid (B.out.trans (hb.mono B.out.size))
  have z2 := hb.size
  clear hb
  clear z0 z1 zf
  rcases hv with hv | ⟨hv, hnt⟩
  · go_wp2
    go_ret
    exact ⟨rfl, B.out⟩
  have hvd : decide (v < 0) = false := by simpa using hv
  have HNT := Lib.hid hnt
  have htt : tot c.sl ≤ 1048576 := by omega
  clear hv hnt
  obtain ⟨z0, z1, zf⟩ := two_cells ZA.out
  go_wp2_with fail
  ((with_reducible refine (toCache c A k _ _ _ R0.out HNT.out).mono ?_); rintro e w3 ⟨AT, kT, GT, rfl, ho, hw, hb⟩)
  replace R0 := Lib.hid (R0.out.below hb (Nat.le_refl _))
  replace ZA := Lib.hid (ZA.out.below hb (Nat.le_refl _))
  replace B := Lib.hid (B.out.trans (hb.mono B.out.size))
  have z3 := hb.size
  have MT := Lib.hid ho
  have HMT := Lib.hid hw
  clear ho hw hb
  clear z0 z1 zf
  go_wp2_with fail
  ((with_reducible refine (Sp8.CacheValid c _ _ _ _ _ _ (MT.out.sts HMT.out)).mono ?_); rintro e w4 ⟨rfl, hb⟩)
  replace R0 := Lib.hid (R0.out.below hb (Nat.le_refl _))
  replace ZA := Lib.hid (ZA.out.below hb (Nat.le_refl _))
  replace MT := Lib.hid (MT.out.below hb (Nat.le_refl _))
  replace B := Lib.hid (B.out.trans (hb.mono B.out.size))
  have z4 := hb.size
  clear hb
  obtain ⟨z0, z1, zf⟩ := two_cells ZA.out
  go_wp2_with fail
  ((with_reducible refine (toCache c A k _ _ _ R0.out HNT.out).mono ?_); rintro e w5 ⟨AX, kX, GX, rfl, ho, hw, hb⟩)
  replace R0 := Lib.hid (R0.out.below hb (Nat.le_refl _))
  replace ZA := Lib.hid (ZA.out.below hb (Nat.le_refl _))
  replace MT := Lib.hid (MT.out.below hb (Nat.le_refl _))
  replace B := Lib.hid (B.out.trans (hb.mono B.out.size))
  have z5 := hb.size
  have MX := Lib.hid ho
  have HMX := Lib.hid hw
  clear ho hw hb
  clear z0 z1 zf
  have hal : Below w5.heap.size w5 (w5.alloc (.cells #[.int .i64 c.ep, .slice AX c.sl.length kX] 26)) := (Below.refl _ _).alloc (Nat.le_refl _) _
  have hzz : Blk (w5.alloc (.cells #[.int .i64 c.ep, .slice AX c.sl.length kX] 26)) w5.heap.size #[.int .i64 c.ep, .slice AX c.sl.length kX] 26 := heap_alloc_new _ _
  replace R0 := Lib.hid (R0.out.below hal (Nat.le_refl _))
  replace ZA := Lib.hid (ZA.out.below hal (Nat.le_refl _))
  replace MT := Lib.hid (MT.out.below hal (Nat.le_refl _))
  replace MX := Lib.hid (MX.out.below hal (Nat.le_refl _))
  replace B := Lib.hid (B.out.trans (hal.mono B.out.size))
  have ZX := Lib.hid hzz
  clear hzz
  clear hal
  have hzX : w5.heap.size < (w5.alloc (.cells #[.int .i64 c.ep, .slice AX c.sl.length kX] 26)).heap.size := by simp
  obtain ⟨x0, x1, xf⟩ := two_cells ZX.out
  go_wp2_with fail
  ((with_reducible refine (Im8.CacheValid c _ _ _ _ _ _ (MX.out.sts HMX.out)).mono ?_); rintro e w7 ⟨rfl, hb⟩)
  replace R0 := Lib.hid (R0.out.below hb (Nat.le_refl _))
  replace ZA := Lib.hid (ZA.out.below hb (Nat.le_refl _))
  replace MT := Lib.hid (MT.out.below hb (Nat.le_refl _))
  replace MX := Lib.hid (MX.out.below hb (Nat.le_refl _))
  replace ZX := Lib.hid (ZX.out.below hb (Nat.le_refl _))
  replace B := Lib.hid (B.out.trans (hb.mono B.out.size))
  have z7 := hb.size
  clear hb
  clear x0 x1 xf
  have e0 : (chOk c != chOk c) = false := by simp
  obtain ⟨x0, x1, xf⟩ := two_cells ZX.out
  obtain ⟨z0, z1, zf⟩ := two_cells ZA.out
  have HS : Hid (∀ W', Below w7.heap.size w7 W' → (W'.cell? ⟨w5.heap.size, 0, none⟩ = some (.int .i64 c.ep) ∧ W'.cell? ⟨w5.heap.size, 1, none⟩ = some (.slice AX c.sl.length kX) ∧ W'.cell? ⟨w.heap.size, 0, none⟩ = some (.int .i64 c.ep) ∧ W'.cell? ⟨w.heap.size, 1, none⟩ = some (.slice A c.sl.length k))) := fun W' hb => ⟨(hb.cell (p := ⟨w5.heap.size, 0, none⟩) ZX.out.lt).trans x0, (hb.cell (p := ⟨w5.heap.size, 1, none⟩) ZX.out.lt).trans x1, (hb.cell (p := ⟨w.heap.size, 0, none⟩) ZA.out.lt).trans z0, (hb.cell (p := ⟨w.heap.size, 1, none⟩) ZA.out.lt).trans z1⟩
  have S0 := Lib.hid (HS.out w7.drew (drew_bl (Below.refl _ _)))
  have RD : Hid (Sts 0 w.heap.size w7.drew A c.sl.length k c.sl) := R0.out
  have DD : Hid (Below w7.heap.size w7 w7.drew) := drew_bl (Below.refl _ _)
  clear x0 x1 xf z0 z1 zf
  go_upto_region 10 with (fail)
  go_region_held3 (fun w' => (w'.cell? ⟨w5.heap.size, 0, none⟩ = some (.int .i64 c.ep) ∧ w'.cell? ⟨w5.heap.size, 1, none⟩ = some (.slice AX c.sl.length kX) ∧ w'.cell? ⟨w.heap.size, 0, none⟩ = some (.int .i64 c.ep) ∧ w'.cell? ⟨w.heap.size, 1, none⟩ = some (.slice A c.sl.length k)))
    (first | with_reducible exact S0.out | with_reducible exact s8 | with_reducible exact s9 | fail)
    (first
      | (go_at_call 33; refine (eqCache c _ _ _ _ _ _ _ _ _ _ (MX8.out.sts HMX.out) (M9.out.sts HM9.out)).mono ?_; rintro e wq9 ⟨rfl, hb9⟩; have s9 := HS.out wq9 ((DD.out.trans (hb8.mono DD.out.size)).trans (hb9.mono (Nat.le_trans DD.out.size hb8.size))))
      | (go_at_call 38; refine (toCache c A k 0 _ _ RD.out HNT.out).mono ?_; rintro e wq8 ⟨A9, k9, G9, rfl, ho9, hw9, hb8⟩; have s8 := HS.out wq8 (DD.out.trans (hb8.mono DD.out.size)); have M9 := Lib.hid ho9; have HM9 := Lib.hid hw9; have MX8 := Lib.hid (MX.out.below (DD.out.trans (hb8.mono DD.out.size)) (Nat.le_refl _)))
      | fail)
  have hbq : Below w7.heap.size w7 wq9 := (DD.out.trans (hb8.mono DD.out.size)).trans (hb9.mono (Nat.le_trans DD.out.size hb8.size))
  replace R0 := Lib.hid (R0.out.below hbq (Nat.le_refl _))
  replace ZA := Lib.hid (ZA.out.below hbq (Nat.le_refl _))
  replace MT := Lib.hid (MT.out.below hbq (Nat.le_refl _))
  replace MX := Lib.hid (MX.out.below hbq (Nat.le_refl _))
  replace ZX := Lib.hid (ZX.out.below hbq (Nat.le_refl _))
  replace B := Lib.hid (B.out.trans (hbq.mono B.out.size))
  have zq := hbq.size
  clear hbq hb8 hb9 s8 s9 S0 HS RD DD MX8 M9 HM9 ho9 hw9
  go_wp2
  go_ret
  exact ⟨rfl, B.out⟩

set_option maxRecDepth 20000 in
set_option maxHeartbeats 1000000 in
theorem fnExactCacheTurn (c : Ch) (A : Option Addr) (k lo hi : Nat) (w : World) (hx : Sts lo hi w A c.sl.length k c.sl) :
    Calls Try.prog 15 #[.agg #[.int .i64 c.ep, .slice A c.sl.length k]] w (TruePost w) := by
  have B : Hid (Below w.heap.size w w) := Below.refl _ _
  go_enter Try.func15, Try.ntmps15
  have R0 : Hid (Sts 0 w.heap.size w A c.sl.length k c.sl) := hx.top (Nat.zero_le _)
  clear hx
  have hal : Below w.heap.size w (w.alloc (.cells #[.int .i64 c.ep, .slice A c.sl.length k] 46)) := (Below.refl _ _).alloc (Nat.le_refl _) _
  have hzz : Blk (w.alloc (.cells #[.int .i64 c.ep, .slice A c.sl.length k] 46)) w.heap.size #[.int .i64 c.ep, .slice A c.sl.length k] 46 := heap_alloc_new _ _
  replace R0 := Lib.hid (R0.out.below hal (Nat.le_refl _))
  replace B := Lib.hid (B.out.trans (hal.mono B.out.size))
  have ZA := Lib.hid hzz
  clear hzz
  clear hal
  have hzA : w.heap.size < (w.alloc (.cells #[.int .i64 c.ep, .slice A c.sl.length k] 46)).heap.size := by simp
  have hzA : w.heap.size < (w.alloc (.cells #[.int .i64 c.ep, .slice A c.sl.length k] 46)).heap.size := by simp
  obtain ⟨z0, z1, zf⟩ := two_cells ZA.out
  go_wp2_with fail
  ((with_reducible refine (szCache c.ep _ _ A c.sl.length k c.sl _ R0.out).mono ?_); rintro e w2 ⟨⟨v, rfl, hv⟩, hb⟩)
  replace R0 := Lib.hid (R0.out.below hb (Nat.le_refl _))
  replace ZA := Lib.hid (ZA.out.below hb (Nat.le_refl _))
  replace B := Lib.hid (B.out.trans (hb.mono B.out.size))
  have z2 := hb.size
  clear hb
  clear z0 z1 zf
  rcases hv with hv | ⟨hv, hnt⟩
  · go_wp2
    go_ret
    exact ⟨rfl, B.out⟩
  have hvd : decide (v < 0) = false := by simpa using hv
  have HNT := Lib.hid hnt
  have htt : tot c.sl ≤ 1048576 := by omega
  clear hv hnt
  obtain ⟨d1, ok, HA⟩ : ∃ d1 ok, Hid (turnF c = d1 ∧ turnB c = ok) := ⟨_, _, rfl, rfl⟩
  have htd : tot d1.sl ≤ 18 := by rw [← HA.out.1]; exact tot_ok (turn_res c)
  have e0 : (ok != ok) = false := by cases ok <;> rfl
  obtain ⟨z0, z1, zf⟩ := two_cells ZA.out
  go_wp2_with fail
  ((with_reducible refine (toCache c A k _ _ _ R0.out HNT.out).mono ?_); rintro e w3 ⟨AT, kT, GT, rfl, ho, hw, hb⟩)
  replace R0 := Lib.hid (R0.out.below hb (Nat.le_refl _))
  replace ZA := Lib.hid (ZA.out.below hb (Nat.le_refl _))
  replace B := Lib.hid (B.out.trans (hb.mono B.out.size))
  have z3 := hb.size
  have MT := Lib.hid ho
  have HMT := Lib.hid hw
  clear ho hw hb
  clear z0 z1 zf
  go_wp2_with fail
  ((with_reducible refine (turnS HA.out (MT.out.sts HMT.out)).mono ?_); rintro e w4 ⟨AS, kS, GS, rfl, ho, hw, hb⟩)
  replace R0 := Lib.hid (R0.out.below hb (Nat.le_refl _))
  replace ZA := Lib.hid (ZA.out.below hb (Nat.le_refl _))
  replace MT := Lib.hid (MT.out.below hb (Nat.le_refl _))
  replace B := Lib.hid (B.out.trans (hb.mono B.out.size))
  have z4 := hb.size
  have MS := Lib.hid ho
  have HMS := Lib.hid hw
  clear ho hw hb
  have hal : Below w4.heap.size w4 (w4.alloc (.cells #[.int .i64 d1.ep, .slice AS d1.sl.length kS] 26)) := (Below.refl _ _).alloc (Nat.le_refl _) _
  have hzz : Blk (w4.alloc (.cells #[.int .i64 d1.ep, .slice AS d1.sl.length kS] 26)) w4.heap.size #[.int .i64 d1.ep, .slice AS d1.sl.length kS] 26 := heap_alloc_new _ _
  replace R0 := Lib.hid (R0.out.below hal (Nat.le_refl _))
  replace ZA := Lib.hid (ZA.out.below hal (Nat.le_refl _))
  replace MT := Lib.hid (MT.out.below hal (Nat.le_refl _))
  replace MS := Lib.hid (MS.out.below hal (Nat.le_refl _))
  replace B := Lib.hid (B.out.trans (hal.mono B.out.size))
  have ZS := Lib.hid hzz
  clear hzz
  clear hal
  have hzS : w4.heap.size < (w4.alloc (.cells #[.int .i64 d1.ep, .slice AS d1.sl.length kS] 26)).heap.size := by simp
  obtain ⟨z0, z1, zf⟩ := two_cells ZA.out
  go_wp2_with fail
  ((with_reducible refine (toCache c A k _ _ _ R0.out HNT.out).mono ?_); rintro e w6 ⟨AX, kX, GX, rfl, ho, hw, hb⟩)
  replace R0 := Lib.hid (R0.out.below hb (Nat.le_refl _))
  replace ZA := Lib.hid (ZA.out.below hb (Nat.le_refl _))
  replace MT := Lib.hid (MT.out.below hb (Nat.le_refl _))
  replace MS := Lib.hid (MS.out.below hb (Nat.le_refl _))
  replace ZS := Lib.hid (ZS.out.below hb (Nat.le_refl _))
  replace B := Lib.hid (B.out.trans (hb.mono B.out.size))
  have z6 := hb.size
  have MX := Lib.hid ho
  have HMX := Lib.hid hw
  clear ho hw hb
  clear z0 z1 zf
  have hal : Below w6.heap.size w6 (w6.alloc (.cells #[.int .i64 c.ep, .slice AX c.sl.length kX] 26)) := (Below.refl _ _).alloc (Nat.le_refl _) _
  have hzz : Blk (w6.alloc (.cells #[.int .i64 c.ep, .slice AX c.sl.length kX] 26)) w6.heap.size #[.int .i64 c.ep, .slice AX c.sl.length kX] 26 := heap_alloc_new _ _
  replace R0 := Lib.hid (R0.out.below hal (Nat.le_refl _))
  replace ZA := Lib.hid (ZA.out.below hal (Nat.le_refl _))
  replace MT := Lib.hid (MT.out.below hal (Nat.le_refl _))
  replace MS := Lib.hid (MS.out.below hal (Nat.le_refl _))
  replace ZS := Lib.hid (ZS.out.below hal (Nat.le_refl _))
  replace MX := Lib.hid (MX.out.below hal (Nat.le_refl _))
  replace B := Lib.hid (B.out.trans (hal.mono B.out.size))
  have ZX := Lib.hid hzz
  clear hzz
  clear hal
  have hzX : w6.heap.size < (w6.alloc (.cells #[.int .i64 c.ep, .slice AX c.sl.length kX] 26)).heap.size := by simp
  obtain ⟨x0, x1, xf⟩ := two_cells ZX.out
  go_wp2_with fail
  ((with_reducible refine (turnX HA.out (MX.out.sts HMX.out)).mono ?_); rintro e w8 ⟨AG, kG, GG, rfl, ho, hw, hb⟩)
  replace R0 := Lib.hid (R0.out.below hb (Nat.le_refl _))
  replace ZA := Lib.hid (ZA.out.below hb (Nat.le_refl _))
  replace MT := Lib.hid (MT.out.below hb (Nat.le_refl _))
  replace MS := Lib.hid (MS.out.below hb (Nat.le_refl _))
  replace ZS := Lib.hid (ZS.out.below hb (Nat.le_refl _))
  replace MX := Lib.hid (MX.out.below hb (Nat.le_refl _))
  replace ZX := Lib.hid (ZX.out.below hb (Nat.le_refl _))
  replace B := Lib.hid (B.out.trans (hb.mono B.out.size))
  have z8 := hb.size
  have MG := Lib.hid ho
  have HMG := Lib.hid hw
  clear ho hw hb
  clear x0 x1 xf
  have hal : Below w8.heap.size w8 (w8.alloc (.cells #[.int .i64 d1.ep, .slice AG d1.sl.length kG] 26)) := (Below.refl _ _).alloc (Nat.le_refl _) _
  have hzz : Blk (w8.alloc (.cells #[.int .i64 d1.ep, .slice AG d1.sl.length kG] 26)) w8.heap.size #[.int .i64 d1.ep, .slice AG d1.sl.length kG] 26 := heap_alloc_new _ _
  replace R0 := Lib.hid (R0.out.below hal (Nat.le_refl _))
  replace ZA := Lib.hid (ZA.out.below hal (Nat.le_refl _))
  replace MT := Lib.hid (MT.out.below hal (Nat.le_refl _))
  replace MS := Lib.hid (MS.out.below hal (Nat.le_refl _))
  replace ZS := Lib.hid (ZS.out.below hal (Nat.le_refl _))
  replace MX := Lib.hid (MX.out.below hal (Nat.le_refl _))
  replace ZX := Lib.hid (ZX.out.below hal (Nat.le_refl _))
  replace MG := Lib.hid (MG.out.below hal (Nat.le_refl _))
  replace B := Lib.hid (B.out.trans (hal.mono B.out.size))
  have ZG := Lib.hid hzz
  clear hzz
  clear hal
  have hzG : w8.heap.size < (w8.alloc (.cells #[.int .i64 d1.ep, .slice AG d1.sl.length kG] 26)).heap.size := by simp
  obtain ⟨m0, m1, mf⟩ := two_cells ZG.out
  obtain ⟨s0, s1, sf⟩ := two_cells ZS.out
  go_wp2_with fail
  ((with_reducible refine (eqCache d1 _ _ _ _ _ _ _ _ _ _ (MG.out.sts HMG.out) (MS.out.sts HMS.out)).mono ?_); rintro e w10 ⟨rfl, hb⟩)
  replace R0 := Lib.hid (R0.out.below hb (Nat.le_refl _))
  replace ZA := Lib.hid (ZA.out.below hb (Nat.le_refl _))
  replace MT := Lib.hid (MT.out.below hb (Nat.le_refl _))
  replace MS := Lib.hid (MS.out.below hb (Nat.le_refl _))
  replace ZS := Lib.hid (ZS.out.below hb (Nat.le_refl _))
  replace MX := Lib.hid (MX.out.below hb (Nat.le_refl _))
  replace ZX := Lib.hid (ZX.out.below hb (Nat.le_refl _))
  replace MG := Lib.hid (MG.out.below hb (Nat.le_refl _))
  replace ZG := Lib.hid (ZG.out.below hb (Nat.le_refl _))
  replace B := Lib.hid (B.out.trans (hb.mono B.out.size))
  have z10 := hb.size
  clear hb
  clear m0 m1 mf s0 s1 sf
  obtain ⟨x0, x1, xf⟩ := two_cells ZX.out
  obtain ⟨z0, z1, zf⟩ := two_cells ZA.out
  have HS : Hid (∀ W', Below w10.heap.size w10 W' → (W'.cell? ⟨w6.heap.size, 0, none⟩ = some (.int .i64 c.ep) ∧ W'.cell? ⟨w6.heap.size, 1, none⟩ = some (.slice AX c.sl.length kX) ∧ W'.cell? ⟨w.heap.size, 0, none⟩ = some (.int .i64 c.ep) ∧ W'.cell? ⟨w.heap.size, 1, none⟩ = some (.slice A c.sl.length k))) := fun W' hb => ⟨(hb.cell (p := ⟨w6.heap.size, 0, none⟩) ZX.out.lt).trans x0, (hb.cell (p := ⟨w6.heap.size, 1, none⟩) ZX.out.lt).trans x1, (hb.cell (p := ⟨w.heap.size, 0, none⟩) ZA.out.lt).trans z0, (hb.cell (p := ⟨w.heap.size, 1, none⟩) ZA.out.lt).trans z1⟩
  have S0 := Lib.hid (HS.out w10.drew (drew_bl (Below.refl _ _)))
  have RD : Hid (Sts 0 w.heap.size w10.drew A c.sl.length k c.sl) := R0.out
  have DD : Hid (Below w10.heap.size w10 w10.drew) := drew_bl (Below.refl _ _)
  clear x0 x1 xf z0 z1 zf
  go_upto_region 9 with (fail)
  go_region_held3 (fun w' => (w'.cell? ⟨w6.heap.size, 0, none⟩ = some (.int .i64 c.ep) ∧ w'.cell? ⟨w6.heap.size, 1, none⟩ = some (.slice AX c.sl.length kX) ∧ w'.cell? ⟨w.heap.size, 0, none⟩ = some (.int .i64 c.ep) ∧ w'.cell? ⟨w.heap.size, 1, none⟩ = some (.slice A c.sl.length k)))
    (first | with_reducible exact S0.out | with_reducible exact s8 | with_reducible exact s9 | fail)
    (first
      | (go_at_call 33; refine (eqCache c _ _ _ _ _ _ _ _ _ _ (MX8.out.sts HMX.out) (M9.out.sts HM9.out)).mono ?_; rintro e wq9 ⟨rfl, hb9⟩; have s9 := HS.out wq9 ((DD.out.trans (hb8.mono DD.out.size)).trans (hb9.mono (Nat.le_trans DD.out.size hb8.size))))
      | (go_at_call 38; refine (toCache c A k 0 _ _ RD.out HNT.out).mono ?_; rintro e wq8 ⟨A9, k9, G9, rfl, ho9, hw9, hb8⟩; have s8 := HS.out wq8 (DD.out.trans (hb8.mono DD.out.size)); have M9 := Lib.hid ho9; have HM9 := Lib.hid hw9; have MX8 := Lib.hid (MX.out.below (DD.out.trans (hb8.mono DD.out.size)) (Nat.le_refl _)))
      | fail)
  have hbq : Below w10.heap.size w10 wq9 := (DD.out.trans (hb8.mono DD.out.size)).trans (hb9.mono (Nat.le_trans DD.out.size hb8.size))
  replace R0 := Lib.hid (R0.out.below hbq (Nat.le_refl _))
  replace ZA := Lib.hid (ZA.out.below hbq (Nat.le_refl _))
  replace MT := Lib.hid (MT.out.below hbq (Nat.le_refl _))
  replace MS := Lib.hid (MS.out.below hbq (Nat.le_refl _))
  replace ZS := Lib.hid (ZS.out.below hbq (Nat.le_refl _))
  replace MX := Lib.hid (MX.out.below hbq (Nat.le_refl _))
  replace ZX := Lib.hid (ZX.out.below hbq (Nat.le_refl _))
  replace MG := Lib.hid (MG.out.below hbq (Nat.le_refl _))
  replace ZG := Lib.hid (ZG.out.below hbq (Nat.le_refl _))
  replace B := Lib.hid (B.out.trans (hbq.mono B.out.size))
  have zq := hbq.size
  clear hbq hb8 hb9 s8 s9 S0 HS RD DD MX8 M9 HM9 ho9 hw9
  obtain ⟨m0, m1, mf⟩ := two_cells ZX.out
  go_wp2_with fail
  ((with_reducible refine (markCache _ _ _ _ c.sl _ _ MX.out (by omega)).mono ?_); rintro e w11 ⟨rfl, hm, hk⟩)
  clear m0 m1 mf
  replace R0 := Lib.hid (R0.out.keptG hk HMX.out (by omega))
  replace ZA := Lib.hid (blk_keptG ZA.out hk HMX.out (by omega))
  replace MT := Lib.hid (MT.out.keptG hk HMX.out HMT.out (by omega))
  replace MS := Lib.hid (MS.out.keptG hk HMX.out HMS.out (by omega))
  replace ZS := Lib.hid (blk_keptG ZS.out hk HMX.out (by omega))
  replace ZX := Lib.hid (blk_keptG ZX.out hk HMX.out (by omega))
  replace MG := Lib.hid (MG.out.keptG hk HMX.out HMG.out (by omega))
  replace ZG := Lib.hid (blk_keptG ZG.out hk HMX.out (by omega))
  have hBs := B.out.size
  replace B := Lib.hid (below_keptG B.out hk HMX.out hBs (by omega))
  have z11 := hk.size
  clear hBs
  replace MX := Lib.hid hm
  clear hm hk
  have hk1 : decide ((1 : Int) + ((tot c.sl : Nat) : Int) < 0) = false := by simp; omega
  obtain ⟨m0, m1, mf⟩ := two_cells ZG.out
  obtain ⟨s0, s1, sf⟩ := two_cells ZS.out
  go_wp2_with fail
  ((with_reducible refine (eqCache d1 _ _ _ _ _ _ _ _ _ _ (MG.out.sts HMG.out) (MS.out.sts HMS.out)).mono ?_); rintro e w12 ⟨rfl, hb⟩)
  replace R0 := Lib.hid (R0.out.below hb (Nat.le_refl _))
  replace ZA := Lib.hid (ZA.out.below hb (Nat.le_refl _))
  replace MT := Lib.hid (MT.out.below hb (Nat.le_refl _))
  replace MS := Lib.hid (MS.out.below hb (Nat.le_refl _))
  replace ZS := Lib.hid (ZS.out.below hb (Nat.le_refl _))
  replace MX := Lib.hid (MX.out.below hb (Nat.le_refl _))
  replace ZX := Lib.hid (ZX.out.below hb (Nat.le_refl _))
  replace MG := Lib.hid (MG.out.below hb (Nat.le_refl _))
  replace ZG := Lib.hid (ZG.out.below hb (Nat.le_refl _))
  replace B := Lib.hid (B.out.trans (hb.mono B.out.size))
  have z12 := hb.size
  clear hb
  clear m0 m1 mf s0 s1 sf
  obtain ⟨m0, m1, mf⟩ := two_cells ZG.out
  go_wp2_with fail
  ((with_reducible refine (markCache _ _ _ _ d1.sl _ _ MG.out (by omega)).mono ?_); rintro e w13 ⟨rfl, hm, hk⟩)
  clear m0 m1 mf
  replace R0 := Lib.hid (R0.out.keptG hk HMG.out (by omega))
  replace ZA := Lib.hid (blk_keptG ZA.out hk HMG.out (by omega))
  replace MT := Lib.hid (MT.out.keptG hk HMG.out HMT.out (by omega))
  replace MS := Lib.hid (MS.out.keptG hk HMG.out HMS.out (by omega))
  replace ZS := Lib.hid (blk_keptG ZS.out hk HMG.out (by omega))
  replace MX := Lib.hid (MX.out.keptG hk HMG.out HMX.out (by omega))
  replace ZX := Lib.hid (blk_keptG ZX.out hk HMG.out (by omega))
  replace ZG := Lib.hid (blk_keptG ZG.out hk HMG.out (by omega))
  have hBs := B.out.size
  replace B := Lib.hid (below_keptG B.out hk HMG.out hBs (by omega))
  have z13 := hk.size
  clear hBs
  replace MG := Lib.hid hm
  clear hm hk
  have hm1 : decide ((1 : Int) + ((tot d1.sl : Nat) : Int) < 0) = false := by simp; omega
  have hm2 : ((1 : Int) + ((tot d1.sl : Nat) : Int) != 1 + ((tot d1.sl : Nat) : Int)) = false := by simp
  obtain ⟨m0, m1, mf⟩ := two_cells ZG.out
  go_wp2_with fail
  ((with_reducible refine (heldCache _ _ _ _ _ _ d1.sl _ (MG.out.sts HMG.out) (by omega)).mono ?_); rintro e w14 ⟨rfl, hb⟩)
  replace R0 := Lib.hid (R0.out.below hb (Nat.le_refl _))
  replace ZA := Lib.hid (ZA.out.below hb (Nat.le_refl _))
  replace MT := Lib.hid (MT.out.below hb (Nat.le_refl _))
  replace MS := Lib.hid (MS.out.below hb (Nat.le_refl _))
  replace ZS := Lib.hid (ZS.out.below hb (Nat.le_refl _))
  replace MX := Lib.hid (MX.out.below hb (Nat.le_refl _))
  replace ZX := Lib.hid (ZX.out.below hb (Nat.le_refl _))
  replace MG := Lib.hid (MG.out.below hb (Nat.le_refl _))
  replace ZG := Lib.hid (ZG.out.below hb (Nat.le_refl _))
  replace B := Lib.hid (B.out.trans (hb.mono B.out.size))
  have z14 := hb.size
  clear hb
  clear m0 m1 mf
  obtain ⟨z0, z1, zf⟩ := two_cells ZA.out
  go_wp2_with fail
  ((with_reducible refine (toCache c A k _ _ _ R0.out HNT.out).mono ?_); rintro e w15 ⟨AU, kU, GU, rfl, ho, hw, hb⟩)
  replace R0 := Lib.hid (R0.out.below hb (Nat.le_refl _))
  replace ZA := Lib.hid (ZA.out.below hb (Nat.le_refl _))
  replace MT := Lib.hid (MT.out.below hb (Nat.le_refl _))
  replace MS := Lib.hid (MS.out.below hb (Nat.le_refl _))
  replace ZS := Lib.hid (ZS.out.below hb (Nat.le_refl _))
  replace MX := Lib.hid (MX.out.below hb (Nat.le_refl _))
  replace ZX := Lib.hid (ZX.out.below hb (Nat.le_refl _))
  replace MG := Lib.hid (MG.out.below hb (Nat.le_refl _))
  replace ZG := Lib.hid (ZG.out.below hb (Nat.le_refl _))
  replace B := Lib.hid (B.out.trans (hb.mono B.out.size))
  have z15 := hb.size
  have MU := Lib.hid ho
  have HMU := Lib.hid hw
  clear ho hw hb
  clear z0 z1 zf
  go_wp2_with fail
  ((with_reducible refine (turnX HA.out (MU.out.sts HMU.out)).mono ?_); rintro e w16 ⟨AJ, kJ, GJ, rfl, ho, hw, hb⟩)
  replace R0 := Lib.hid (R0.out.below hb (Nat.le_refl _))
  replace ZA := Lib.hid (ZA.out.below hb (Nat.le_refl _))
  replace MT := Lib.hid (MT.out.below hb (Nat.le_refl _))
  replace MS := Lib.hid (MS.out.below hb (Nat.le_refl _))
  replace ZS := Lib.hid (ZS.out.below hb (Nat.le_refl _))
  replace MX := Lib.hid (MX.out.below hb (Nat.le_refl _))
  replace ZX := Lib.hid (ZX.out.below hb (Nat.le_refl _))
  replace MG := Lib.hid (MG.out.below hb (Nat.le_refl _))
  replace ZG := Lib.hid (ZG.out.below hb (Nat.le_refl _))
  replace MU := Lib.hid (MU.out.below hb (Nat.le_refl _))
  replace B := Lib.hid (B.out.trans (hb.mono B.out.size))
  have z16 := hb.size
  have MJ := Lib.hid ho
  have HMJ := Lib.hid hw
  clear ho hw hb
  have hal : Below w16.heap.size w16 (w16.alloc (.cells #[.int .i64 d1.ep, .slice AJ d1.sl.length kJ] 26)) := (Below.refl _ _).alloc (Nat.le_refl _) _
  have hzz : Blk (w16.alloc (.cells #[.int .i64 d1.ep, .slice AJ d1.sl.length kJ] 26)) w16.heap.size #[.int .i64 d1.ep, .slice AJ d1.sl.length kJ] 26 := heap_alloc_new _ _
  replace R0 := Lib.hid (R0.out.below hal (Nat.le_refl _))
  replace ZA := Lib.hid (ZA.out.below hal (Nat.le_refl _))
  replace MT := Lib.hid (MT.out.below hal (Nat.le_refl _))
  replace MS := Lib.hid (MS.out.below hal (Nat.le_refl _))
  replace ZS := Lib.hid (ZS.out.below hal (Nat.le_refl _))
  replace MX := Lib.hid (MX.out.below hal (Nat.le_refl _))
  replace ZX := Lib.hid (ZX.out.below hal (Nat.le_refl _))
  replace MG := Lib.hid (MG.out.below hal (Nat.le_refl _))
  replace ZG := Lib.hid (ZG.out.below hal (Nat.le_refl _))
  replace MU := Lib.hid (MU.out.below hal (Nat.le_refl _))
  replace MJ := Lib.hid (MJ.out.below hal (Nat.le_refl _))
  replace B := Lib.hid (B.out.trans (hal.mono B.out.size))
  have ZJ := Lib.hid hzz
  clear hzz
  clear hal
  have hzJ : w16.heap.size < (w16.alloc (.cells #[.int .i64 d1.ep, .slice AJ d1.sl.length kJ] 26)).heap.size := by simp
  obtain ⟨m0, m1, mf⟩ := two_cells ZJ.out
  obtain ⟨s0, s1, sf⟩ := two_cells ZS.out
  go_wp2_with fail
  ((with_reducible refine (eqCache d1 _ _ _ _ _ _ _ _ _ _ (MJ.out.sts HMJ.out) (MS.out.sts HMS.out)).mono ?_); rintro e w18 ⟨rfl, hb⟩)
  replace R0 := Lib.hid (R0.out.below hb (Nat.le_refl _))
  replace ZA := Lib.hid (ZA.out.below hb (Nat.le_refl _))
  replace MT := Lib.hid (MT.out.below hb (Nat.le_refl _))
  replace MS := Lib.hid (MS.out.below hb (Nat.le_refl _))
  replace ZS := Lib.hid (ZS.out.below hb (Nat.le_refl _))
  replace MX := Lib.hid (MX.out.below hb (Nat.le_refl _))
  replace ZX := Lib.hid (ZX.out.below hb (Nat.le_refl _))
  replace MG := Lib.hid (MG.out.below hb (Nat.le_refl _))
  replace ZG := Lib.hid (ZG.out.below hb (Nat.le_refl _))
  replace MU := Lib.hid (MU.out.below hb (Nat.le_refl _))
  replace MJ := Lib.hid (MJ.out.below hb (Nat.le_refl _))
  replace ZJ := Lib.hid (ZJ.out.below hb (Nat.le_refl _))
  replace B := Lib.hid (B.out.trans (hb.mono B.out.size))
  have z18 := hb.size
  clear hb
  clear m0 m1 mf s0 s1 sf
  obtain ⟨m0, m1, mf⟩ := two_cells ZG.out
  go_wp2_with fail
  ((with_reducible refine (heldCache _ _ _ _ _ _ d1.sl _ (MG.out.sts HMG.out) (by omega)).mono ?_); rintro e w19 ⟨rfl, hb⟩)
  replace R0 := Lib.hid (R0.out.below hb (Nat.le_refl _))
  replace ZA := Lib.hid (ZA.out.below hb (Nat.le_refl _))
  replace MT := Lib.hid (MT.out.below hb (Nat.le_refl _))
  replace MS := Lib.hid (MS.out.below hb (Nat.le_refl _))
  replace ZS := Lib.hid (ZS.out.below hb (Nat.le_refl _))
  replace MX := Lib.hid (MX.out.below hb (Nat.le_refl _))
  replace ZX := Lib.hid (ZX.out.below hb (Nat.le_refl _))
  replace MG := Lib.hid (MG.out.below hb (Nat.le_refl _))
  replace ZG := Lib.hid (ZG.out.below hb (Nat.le_refl _))
  replace MU := Lib.hid (MU.out.below hb (Nat.le_refl _))
  replace MJ := Lib.hid (MJ.out.below hb (Nat.le_refl _))
  replace ZJ := Lib.hid (ZJ.out.below hb (Nat.le_refl _))
  replace B := Lib.hid (B.out.trans (hb.mono B.out.size))
  have z19 := hb.size
  clear hb
  clear m0 m1 mf
  go_wp2
  go_ret
  exact ⟨rfl, B.out⟩

set_option maxRecDepth 20000 in
set_option maxHeartbeats 1000000 in
theorem fnExactCacheAdd (c : Ch) (A : Option Addr) (k lo hi : Nat) (e key : Int) (w : World) (hx : Sts lo hi w A c.sl.length k c.sl) :
    Calls Try.prog 14 #[.agg #[.int .i64 c.ep, .slice A c.sl.length k], .int .i64 e, .int .i64 key] w (TruePost w) := by
  have B : Hid (Below w.heap.size w w) := Below.refl _ _
  go_enter Try.func14, Try.ntmps14
  have R0 : Hid (Sts 0 w.heap.size w A c.sl.length k c.sl) := hx.top (Nat.zero_le _)
  clear hx
  have hal : Below w.heap.size w (w.alloc (.cells #[.int .i64 c.ep, .slice A c.sl.length k] 46)) := (Below.refl _ _).alloc (Nat.le_refl _) _
  have hzz : Blk (w.alloc (.cells #[.int .i64 c.ep, .slice A c.sl.length k] 46)) w.heap.size #[.int .i64 c.ep, .slice A c.sl.length k] 46 := heap_alloc_new _ _
  replace R0 := Lib.hid (R0.out.below hal (Nat.le_refl _))
  replace B := Lib.hid (B.out.trans (hal.mono B.out.size))
  have ZA := Lib.hid hzz
  clear hzz
  clear hal
  have hzA : w.heap.size < (w.alloc (.cells #[.int .i64 c.ep, .slice A c.sl.length k] 46)).heap.size := by simp
  have hzA : w.heap.size < (w.alloc (.cells #[.int .i64 c.ep, .slice A c.sl.length k] 46)).heap.size := by simp
  obtain ⟨z0, z1, zf⟩ := two_cells ZA.out
  go_wp2_with fail
  ((with_reducible refine (szCache c.ep _ _ A c.sl.length k c.sl _ R0.out).mono ?_); rintro e w2 ⟨⟨v, rfl, hv⟩, hb⟩)
  replace R0 := Lib.hid (R0.out.below hb (Nat.le_refl _))
  replace ZA := Lib.hid (ZA.out.below hb (Nat.le_refl _))
  replace B := Lib.hid (B.out.trans (hb.mono B.out.size))
  have z2 := hb.size
  clear hb
  clear z0 z1 zf
  rcases hv with hv | ⟨hv, hnt⟩
  · go_wp2
    go_ret
    exact ⟨rfl, B.out⟩
  have hvd : decide (v < 0) = false := by simpa using hv
  have HNT := Lib.hid hnt
  have htt : tot c.sl ≤ 1048576 := by omega
  clear hv hnt
  obtain ⟨d1, m1, HA⟩ : ∃ d1 m1, Hid (addF c e key = d1 ∧ addN c e key = m1) := ⟨_, _, rfl, rfl⟩
  have htd : tot d1.sl ≤ 18 := by rw [← HA.out.1]; exact tot_ok (add_res c e key)
  have e0 : (m1 != m1) = false := by simp
  obtain ⟨z0, z1, zf⟩ := two_cells ZA.out
  go_wp2_with fail
  ((with_reducible refine (toCache c A k _ _ _ R0.out HNT.out).mono ?_); rintro e w3 ⟨AT, kT, GT, rfl, ho, hw, hb⟩)
  replace R0 := Lib.hid (R0.out.below hb (Nat.le_refl _))
  replace ZA := Lib.hid (ZA.out.below hb (Nat.le_refl _))
  replace B := Lib.hid (B.out.trans (hb.mono B.out.size))
  have z3 := hb.size
  have MT := Lib.hid ho
  have HMT := Lib.hid hw
  clear ho hw hb
  clear z0 z1 zf
  go_wp2_with fail
  ((with_reducible refine (addS HA.out (MT.out.sts HMT.out)).mono ?_); rintro e w4 ⟨AS, kS, GS, rfl, ho, hw, hb⟩)
  replace R0 := Lib.hid (R0.out.below hb (Nat.le_refl _))
  replace ZA := Lib.hid (ZA.out.below hb (Nat.le_refl _))
  replace MT := Lib.hid (MT.out.below hb (Nat.le_refl _))
  replace B := Lib.hid (B.out.trans (hb.mono B.out.size))
  have z4 := hb.size
  have MS := Lib.hid ho
  have HMS := Lib.hid hw
  clear ho hw hb
  have hal : Below w4.heap.size w4 (w4.alloc (.cells #[.int .i64 d1.ep, .slice AS d1.sl.length kS] 26)) := (Below.refl _ _).alloc (Nat.le_refl _) _
  have hzz : Blk (w4.alloc (.cells #[.int .i64 d1.ep, .slice AS d1.sl.length kS] 26)) w4.heap.size #[.int .i64 d1.ep, .slice AS d1.sl.length kS] 26 := heap_alloc_new _ _
  replace R0 := Lib.hid (R0.out.below hal (Nat.le_refl _))
  replace ZA := Lib.hid (ZA.out.below hal (Nat.le_refl _))
  replace MT := Lib.hid (MT.out.below hal (Nat.le_refl _))
  replace MS := Lib.hid (MS.out.below hal (Nat.le_refl _))
  replace B := Lib.hid (B.out.trans (hal.mono B.out.size))
  have ZS := Lib.hid hzz
  clear hzz
  clear hal
  have hzS : w4.heap.size < (w4.alloc (.cells #[.int .i64 d1.ep, .slice AS d1.sl.length kS] 26)).heap.size := by simp
  obtain ⟨z0, z1, zf⟩ := two_cells ZA.out
  go_wp2_with fail
  ((with_reducible refine (toCache c A k _ _ _ R0.out HNT.out).mono ?_); rintro e w6 ⟨AX, kX, GX, rfl, ho, hw, hb⟩)
  replace R0 := Lib.hid (R0.out.below hb (Nat.le_refl _))
  replace ZA := Lib.hid (ZA.out.below hb (Nat.le_refl _))
  replace MT := Lib.hid (MT.out.below hb (Nat.le_refl _))
  replace MS := Lib.hid (MS.out.below hb (Nat.le_refl _))
  replace ZS := Lib.hid (ZS.out.below hb (Nat.le_refl _))
  replace B := Lib.hid (B.out.trans (hb.mono B.out.size))
  have z6 := hb.size
  have MX := Lib.hid ho
  have HMX := Lib.hid hw
  clear ho hw hb
  clear z0 z1 zf
  have hal : Below w6.heap.size w6 (w6.alloc (.cells #[.int .i64 c.ep, .slice AX c.sl.length kX] 26)) := (Below.refl _ _).alloc (Nat.le_refl _) _
  have hzz : Blk (w6.alloc (.cells #[.int .i64 c.ep, .slice AX c.sl.length kX] 26)) w6.heap.size #[.int .i64 c.ep, .slice AX c.sl.length kX] 26 := heap_alloc_new _ _
  replace R0 := Lib.hid (R0.out.below hal (Nat.le_refl _))
  replace ZA := Lib.hid (ZA.out.below hal (Nat.le_refl _))
  replace MT := Lib.hid (MT.out.below hal (Nat.le_refl _))
  replace MS := Lib.hid (MS.out.below hal (Nat.le_refl _))
  replace ZS := Lib.hid (ZS.out.below hal (Nat.le_refl _))
  replace MX := Lib.hid (MX.out.below hal (Nat.le_refl _))
  replace B := Lib.hid (B.out.trans (hal.mono B.out.size))
  have ZX := Lib.hid hzz
  clear hzz
  clear hal
  have hzX : w6.heap.size < (w6.alloc (.cells #[.int .i64 c.ep, .slice AX c.sl.length kX] 26)).heap.size := by simp
  obtain ⟨x0, x1, xf⟩ := two_cells ZX.out
  go_wp2_with fail
  ((with_reducible refine (addX HA.out (MX.out.sts HMX.out)).mono ?_); rintro e w8 ⟨AG, kG, GG, rfl, ho, hw, hb⟩)
  replace R0 := Lib.hid (R0.out.below hb (Nat.le_refl _))
  replace ZA := Lib.hid (ZA.out.below hb (Nat.le_refl _))
  replace MT := Lib.hid (MT.out.below hb (Nat.le_refl _))
  replace MS := Lib.hid (MS.out.below hb (Nat.le_refl _))
  replace ZS := Lib.hid (ZS.out.below hb (Nat.le_refl _))
  replace MX := Lib.hid (MX.out.below hb (Nat.le_refl _))
  replace ZX := Lib.hid (ZX.out.below hb (Nat.le_refl _))
  replace B := Lib.hid (B.out.trans (hb.mono B.out.size))
  have z8 := hb.size
  have MG := Lib.hid ho
  have HMG := Lib.hid hw
  clear ho hw hb
  clear x0 x1 xf
  have hal : Below w8.heap.size w8 (w8.alloc (.cells #[.int .i64 d1.ep, .slice AG d1.sl.length kG] 26)) := (Below.refl _ _).alloc (Nat.le_refl _) _
  have hzz : Blk (w8.alloc (.cells #[.int .i64 d1.ep, .slice AG d1.sl.length kG] 26)) w8.heap.size #[.int .i64 d1.ep, .slice AG d1.sl.length kG] 26 := heap_alloc_new _ _
  replace R0 := Lib.hid (R0.out.below hal (Nat.le_refl _))
  replace ZA := Lib.hid (ZA.out.below hal (Nat.le_refl _))
  replace MT := Lib.hid (MT.out.below hal (Nat.le_refl _))
  replace MS := Lib.hid (MS.out.below hal (Nat.le_refl _))
  replace ZS := Lib.hid (ZS.out.below hal (Nat.le_refl _))
  replace MX := Lib.hid (MX.out.below hal (Nat.le_refl _))
  replace ZX := Lib.hid (ZX.out.below hal (Nat.le_refl _))
  replace MG := Lib.hid (MG.out.below hal (Nat.le_refl _))
  replace B := Lib.hid (B.out.trans (hal.mono B.out.size))
  have ZG := Lib.hid hzz
  clear hzz
  clear hal
  have hzG : w8.heap.size < (w8.alloc (.cells #[.int .i64 d1.ep, .slice AG d1.sl.length kG] 26)).heap.size := by simp
  obtain ⟨m0, m1, mf⟩ := two_cells ZG.out
  obtain ⟨s0, s1, sf⟩ := two_cells ZS.out
  go_wp2_with fail
  ((with_reducible refine (eqCache d1 _ _ _ _ _ _ _ _ _ _ (MG.out.sts HMG.out) (MS.out.sts HMS.out)).mono ?_); rintro e w10 ⟨rfl, hb⟩)
  replace R0 := Lib.hid (R0.out.below hb (Nat.le_refl _))
  replace ZA := Lib.hid (ZA.out.below hb (Nat.le_refl _))
  replace MT := Lib.hid (MT.out.below hb (Nat.le_refl _))
  replace MS := Lib.hid (MS.out.below hb (Nat.le_refl _))
  replace ZS := Lib.hid (ZS.out.below hb (Nat.le_refl _))
  replace MX := Lib.hid (MX.out.below hb (Nat.le_refl _))
  replace ZX := Lib.hid (ZX.out.below hb (Nat.le_refl _))
  replace MG := Lib.hid (MG.out.below hb (Nat.le_refl _))
  replace ZG := Lib.hid (ZG.out.below hb (Nat.le_refl _))
  replace B := Lib.hid (B.out.trans (hb.mono B.out.size))
  have z10 := hb.size
  clear hb
  clear m0 m1 mf s0 s1 sf
  obtain ⟨x0, x1, xf⟩ := two_cells ZX.out
  obtain ⟨z0, z1, zf⟩ := two_cells ZA.out
  have HS : Hid (∀ W', Below w10.heap.size w10 W' → (W'.cell? ⟨w6.heap.size, 0, none⟩ = some (.int .i64 c.ep) ∧ W'.cell? ⟨w6.heap.size, 1, none⟩ = some (.slice AX c.sl.length kX) ∧ W'.cell? ⟨w.heap.size, 0, none⟩ = some (.int .i64 c.ep) ∧ W'.cell? ⟨w.heap.size, 1, none⟩ = some (.slice A c.sl.length k))) := fun W' hb => ⟨(hb.cell (p := ⟨w6.heap.size, 0, none⟩) ZX.out.lt).trans x0, (hb.cell (p := ⟨w6.heap.size, 1, none⟩) ZX.out.lt).trans x1, (hb.cell (p := ⟨w.heap.size, 0, none⟩) ZA.out.lt).trans z0, (hb.cell (p := ⟨w.heap.size, 1, none⟩) ZA.out.lt).trans z1⟩
  have S0 := Lib.hid (HS.out w10.drew (drew_bl (Below.refl _ _)))
  have RD : Hid (Sts 0 w.heap.size w10.drew A c.sl.length k c.sl) := R0.out
  have DD : Hid (Below w10.heap.size w10 w10.drew) := drew_bl (Below.refl _ _)
  clear x0 x1 xf z0 z1 zf
  go_upto_region 9 with (fail)
  go_region_held3 (fun w' => (w'.cell? ⟨w6.heap.size, 0, none⟩ = some (.int .i64 c.ep) ∧ w'.cell? ⟨w6.heap.size, 1, none⟩ = some (.slice AX c.sl.length kX) ∧ w'.cell? ⟨w.heap.size, 0, none⟩ = some (.int .i64 c.ep) ∧ w'.cell? ⟨w.heap.size, 1, none⟩ = some (.slice A c.sl.length k)))
    (first | with_reducible exact S0.out | with_reducible exact s8 | with_reducible exact s9 | fail)
    (first
      | (go_at_call 33; refine (eqCache c _ _ _ _ _ _ _ _ _ _ (MX8.out.sts HMX.out) (M9.out.sts HM9.out)).mono ?_; rintro e wq9 ⟨rfl, hb9⟩; have s9 := HS.out wq9 ((DD.out.trans (hb8.mono DD.out.size)).trans (hb9.mono (Nat.le_trans DD.out.size hb8.size))))
      | (go_at_call 38; refine (toCache c A k 0 _ _ RD.out HNT.out).mono ?_; rintro e wq8 ⟨A9, k9, G9, rfl, ho9, hw9, hb8⟩; have s8 := HS.out wq8 (DD.out.trans (hb8.mono DD.out.size)); have M9 := Lib.hid ho9; have HM9 := Lib.hid hw9; have MX8 := Lib.hid (MX.out.below (DD.out.trans (hb8.mono DD.out.size)) (Nat.le_refl _)))
      | fail)
  have hbq : Below w10.heap.size w10 wq9 := (DD.out.trans (hb8.mono DD.out.size)).trans (hb9.mono (Nat.le_trans DD.out.size hb8.size))
  replace R0 := Lib.hid (R0.out.below hbq (Nat.le_refl _))
  replace ZA := Lib.hid (ZA.out.below hbq (Nat.le_refl _))
  replace MT := Lib.hid (MT.out.below hbq (Nat.le_refl _))
  replace MS := Lib.hid (MS.out.below hbq (Nat.le_refl _))
  replace ZS := Lib.hid (ZS.out.below hbq (Nat.le_refl _))
  replace MX := Lib.hid (MX.out.below hbq (Nat.le_refl _))
  replace ZX := Lib.hid (ZX.out.below hbq (Nat.le_refl _))
  replace MG := Lib.hid (MG.out.below hbq (Nat.le_refl _))
  replace ZG := Lib.hid (ZG.out.below hbq (Nat.le_refl _))
  replace B := Lib.hid (B.out.trans (hbq.mono B.out.size))
  have zq := hbq.size
  clear hbq hb8 hb9 s8 s9 S0 HS RD DD MX8 M9 HM9 ho9 hw9
  obtain ⟨m0, m1, mf⟩ := two_cells ZX.out
  go_wp2_with fail
  ((with_reducible refine (markCache _ _ _ _ c.sl _ _ MX.out (by omega)).mono ?_); rintro e w11 ⟨rfl, hm, hk⟩)
  clear m0 m1 mf
  replace R0 := Lib.hid (R0.out.keptG hk HMX.out (by omega))
  replace ZA := Lib.hid (blk_keptG ZA.out hk HMX.out (by omega))
  replace MT := Lib.hid (MT.out.keptG hk HMX.out HMT.out (by omega))
  replace MS := Lib.hid (MS.out.keptG hk HMX.out HMS.out (by omega))
  replace ZS := Lib.hid (blk_keptG ZS.out hk HMX.out (by omega))
  replace ZX := Lib.hid (blk_keptG ZX.out hk HMX.out (by omega))
  replace MG := Lib.hid (MG.out.keptG hk HMX.out HMG.out (by omega))
  replace ZG := Lib.hid (blk_keptG ZG.out hk HMX.out (by omega))
  have hBs := B.out.size
  replace B := Lib.hid (below_keptG B.out hk HMX.out hBs (by omega))
  have z11 := hk.size
  clear hBs
  replace MX := Lib.hid hm
  clear hm hk
  have hk1 : decide ((1 : Int) + ((tot c.sl : Nat) : Int) < 0) = false := by simp; omega
  obtain ⟨m0, m1, mf⟩ := two_cells ZG.out
  obtain ⟨s0, s1, sf⟩ := two_cells ZS.out
  go_wp2_with fail
  ((with_reducible refine (eqCache d1 _ _ _ _ _ _ _ _ _ _ (MG.out.sts HMG.out) (MS.out.sts HMS.out)).mono ?_); rintro e w12 ⟨rfl, hb⟩)
  replace R0 := Lib.hid (R0.out.below hb (Nat.le_refl _))
  replace ZA := Lib.hid (ZA.out.below hb (Nat.le_refl _))
  replace MT := Lib.hid (MT.out.below hb (Nat.le_refl _))
  replace MS := Lib.hid (MS.out.below hb (Nat.le_refl _))
  replace ZS := Lib.hid (ZS.out.below hb (Nat.le_refl _))
  replace MX := Lib.hid (MX.out.below hb (Nat.le_refl _))
  replace ZX := Lib.hid (ZX.out.below hb (Nat.le_refl _))
  replace MG := Lib.hid (MG.out.below hb (Nat.le_refl _))
  replace ZG := Lib.hid (ZG.out.below hb (Nat.le_refl _))
  replace B := Lib.hid (B.out.trans (hb.mono B.out.size))
  have z12 := hb.size
  clear hb
  clear m0 m1 mf s0 s1 sf
  obtain ⟨m0, m1, mf⟩ := two_cells ZG.out
  go_wp2_with fail
  ((with_reducible refine (markCache _ _ _ _ d1.sl _ _ MG.out (by omega)).mono ?_); rintro e w13 ⟨rfl, hm, hk⟩)
  clear m0 m1 mf
  replace R0 := Lib.hid (R0.out.keptG hk HMG.out (by omega))
  replace ZA := Lib.hid (blk_keptG ZA.out hk HMG.out (by omega))
  replace MT := Lib.hid (MT.out.keptG hk HMG.out HMT.out (by omega))
  replace MS := Lib.hid (MS.out.keptG hk HMG.out HMS.out (by omega))
  replace ZS := Lib.hid (blk_keptG ZS.out hk HMG.out (by omega))
  replace MX := Lib.hid (MX.out.keptG hk HMG.out HMX.out (by omega))
  replace ZX := Lib.hid (blk_keptG ZX.out hk HMG.out (by omega))
  replace ZG := Lib.hid (blk_keptG ZG.out hk HMG.out (by omega))
  have hBs := B.out.size
  replace B := Lib.hid (below_keptG B.out hk HMG.out hBs (by omega))
  have z13 := hk.size
  clear hBs
  replace MG := Lib.hid hm
  clear hm hk
  have hm1 : decide ((1 : Int) + ((tot d1.sl : Nat) : Int) < 0) = false := by simp; omega
  have hm2 : ((1 : Int) + ((tot d1.sl : Nat) : Int) != 1 + ((tot d1.sl : Nat) : Int)) = false := by simp
  obtain ⟨m0, m1, mf⟩ := two_cells ZG.out
  go_wp2_with fail
  ((with_reducible refine (heldCache _ _ _ _ _ _ d1.sl _ (MG.out.sts HMG.out) (by omega)).mono ?_); rintro e w14 ⟨rfl, hb⟩)
  replace R0 := Lib.hid (R0.out.below hb (Nat.le_refl _))
  replace ZA := Lib.hid (ZA.out.below hb (Nat.le_refl _))
  replace MT := Lib.hid (MT.out.below hb (Nat.le_refl _))
  replace MS := Lib.hid (MS.out.below hb (Nat.le_refl _))
  replace ZS := Lib.hid (ZS.out.below hb (Nat.le_refl _))
  replace MX := Lib.hid (MX.out.below hb (Nat.le_refl _))
  replace ZX := Lib.hid (ZX.out.below hb (Nat.le_refl _))
  replace MG := Lib.hid (MG.out.below hb (Nat.le_refl _))
  replace ZG := Lib.hid (ZG.out.below hb (Nat.le_refl _))
  replace B := Lib.hid (B.out.trans (hb.mono B.out.size))
  have z14 := hb.size
  clear hb
  clear m0 m1 mf
  obtain ⟨z0, z1, zf⟩ := two_cells ZA.out
  go_wp2_with fail
  ((with_reducible refine (toCache c A k _ _ _ R0.out HNT.out).mono ?_); rintro e w15 ⟨AU, kU, GU, rfl, ho, hw, hb⟩)
  replace R0 := Lib.hid (R0.out.below hb (Nat.le_refl _))
  replace ZA := Lib.hid (ZA.out.below hb (Nat.le_refl _))
  replace MT := Lib.hid (MT.out.below hb (Nat.le_refl _))
  replace MS := Lib.hid (MS.out.below hb (Nat.le_refl _))
  replace ZS := Lib.hid (ZS.out.below hb (Nat.le_refl _))
  replace MX := Lib.hid (MX.out.below hb (Nat.le_refl _))
  replace ZX := Lib.hid (ZX.out.below hb (Nat.le_refl _))
  replace MG := Lib.hid (MG.out.below hb (Nat.le_refl _))
  replace ZG := Lib.hid (ZG.out.below hb (Nat.le_refl _))
  replace B := Lib.hid (B.out.trans (hb.mono B.out.size))
  have z15 := hb.size
  have MU := Lib.hid ho
  have HMU := Lib.hid hw
  clear ho hw hb
  clear z0 z1 zf
  go_wp2_with fail
  ((with_reducible refine (addX HA.out (MU.out.sts HMU.out)).mono ?_); rintro e w16 ⟨AJ, kJ, GJ, rfl, ho, hw, hb⟩)
  replace R0 := Lib.hid (R0.out.below hb (Nat.le_refl _))
  replace ZA := Lib.hid (ZA.out.below hb (Nat.le_refl _))
  replace MT := Lib.hid (MT.out.below hb (Nat.le_refl _))
  replace MS := Lib.hid (MS.out.below hb (Nat.le_refl _))
  replace ZS := Lib.hid (ZS.out.below hb (Nat.le_refl _))
  replace MX := Lib.hid (MX.out.below hb (Nat.le_refl _))
  replace ZX := Lib.hid (ZX.out.below hb (Nat.le_refl _))
  replace MG := Lib.hid (MG.out.below hb (Nat.le_refl _))
  replace ZG := Lib.hid (ZG.out.below hb (Nat.le_refl _))
  replace MU := Lib.hid (MU.out.below hb (Nat.le_refl _))
  replace B := Lib.hid (B.out.trans (hb.mono B.out.size))
  have z16 := hb.size
  have MJ := Lib.hid ho
  have HMJ := Lib.hid hw
  clear ho hw hb
  have hal : Below w16.heap.size w16 (w16.alloc (.cells #[.int .i64 d1.ep, .slice AJ d1.sl.length kJ] 26)) := (Below.refl _ _).alloc (Nat.le_refl _) _
  have hzz : Blk (w16.alloc (.cells #[.int .i64 d1.ep, .slice AJ d1.sl.length kJ] 26)) w16.heap.size #[.int .i64 d1.ep, .slice AJ d1.sl.length kJ] 26 := heap_alloc_new _ _
  replace R0 := Lib.hid (R0.out.below hal (Nat.le_refl _))
  replace ZA := Lib.hid (ZA.out.below hal (Nat.le_refl _))
  replace MT := Lib.hid (MT.out.below hal (Nat.le_refl _))
  replace MS := Lib.hid (MS.out.below hal (Nat.le_refl _))
  replace ZS := Lib.hid (ZS.out.below hal (Nat.le_refl _))
  replace MX := Lib.hid (MX.out.below hal (Nat.le_refl _))
  replace ZX := Lib.hid (ZX.out.below hal (Nat.le_refl _))
  replace MG := Lib.hid (MG.out.below hal (Nat.le_refl _))
  replace ZG := Lib.hid (ZG.out.below hal (Nat.le_refl _))
  replace MU := Lib.hid (MU.out.below hal (Nat.le_refl _))
  replace MJ := Lib.hid (MJ.out.below hal (Nat.le_refl _))
  replace B := Lib.hid (B.out.trans (hal.mono B.out.size))
  have ZJ := Lib.hid hzz
  clear hzz
  clear hal
  have hzJ : w16.heap.size < (w16.alloc (.cells #[.int .i64 d1.ep, .slice AJ d1.sl.length kJ] 26)).heap.size := by simp
  obtain ⟨m0, m1, mf⟩ := two_cells ZJ.out
  obtain ⟨s0, s1, sf⟩ := two_cells ZS.out
  go_wp2_with fail
  ((with_reducible refine (eqCache d1 _ _ _ _ _ _ _ _ _ _ (MJ.out.sts HMJ.out) (MS.out.sts HMS.out)).mono ?_); rintro e w18 ⟨rfl, hb⟩)
  replace R0 := Lib.hid (R0.out.below hb (Nat.le_refl _))
  replace ZA := Lib.hid (ZA.out.below hb (Nat.le_refl _))
  replace MT := Lib.hid (MT.out.below hb (Nat.le_refl _))
  replace MS := Lib.hid (MS.out.below hb (Nat.le_refl _))
  replace ZS := Lib.hid (ZS.out.below hb (Nat.le_refl _))
  replace MX := Lib.hid (MX.out.below hb (Nat.le_refl _))
  replace ZX := Lib.hid (ZX.out.below hb (Nat.le_refl _))
  replace MG := Lib.hid (MG.out.below hb (Nat.le_refl _))
  replace ZG := Lib.hid (ZG.out.below hb (Nat.le_refl _))
  replace MU := Lib.hid (MU.out.below hb (Nat.le_refl _))
  replace MJ := Lib.hid (MJ.out.below hb (Nat.le_refl _))
  replace ZJ := Lib.hid (ZJ.out.below hb (Nat.le_refl _))
  replace B := Lib.hid (B.out.trans (hb.mono B.out.size))
  have z18 := hb.size
  clear hb
  clear m0 m1 mf s0 s1 sf
  obtain ⟨m0, m1, mf⟩ := two_cells ZG.out
  go_wp2_with fail
  ((with_reducible refine (heldCache _ _ _ _ _ _ d1.sl _ (MG.out.sts HMG.out) (by omega)).mono ?_); rintro e w19 ⟨rfl, hb⟩)
  replace R0 := Lib.hid (R0.out.below hb (Nat.le_refl _))
  replace ZA := Lib.hid (ZA.out.below hb (Nat.le_refl _))
  replace MT := Lib.hid (MT.out.below hb (Nat.le_refl _))
  replace MS := Lib.hid (MS.out.below hb (Nat.le_refl _))
  replace ZS := Lib.hid (ZS.out.below hb (Nat.le_refl _))
  replace MX := Lib.hid (MX.out.below hb (Nat.le_refl _))
  replace ZX := Lib.hid (ZX.out.below hb (Nat.le_refl _))
  replace MG := Lib.hid (MG.out.below hb (Nat.le_refl _))
  replace ZG := Lib.hid (ZG.out.below hb (Nat.le_refl _))
  replace MU := Lib.hid (MU.out.below hb (Nat.le_refl _))
  replace MJ := Lib.hid (MJ.out.below hb (Nat.le_refl _))
  replace ZJ := Lib.hid (ZJ.out.below hb (Nat.le_refl _))
  replace B := Lib.hid (B.out.trans (hb.mono B.out.size))
  have z19 := hb.size
  clear hb
  clear m0 m1 mf
  go_wp2
  go_ret
  exact ⟨rfl, B.out⟩

set_option maxRecDepth 20000 in
set_option maxHeartbeats 1000000 in
theorem fnExactCacheKeys (c : Ch) (A : Option Addr) (k lo hi : Nat) (e : Int) (w : World) (hx : Sts lo hi w A c.sl.length k c.sl) :
    Calls Try.prog 16 #[.agg #[.int .i64 c.ep, .slice A c.sl.length k], .int .i64 e] w (TruePost w) := by
  have B : Hid (Below w.heap.size w w) := Below.refl _ _
  go_enter Try.func16, Try.ntmps16
  have R0 : Hid (Sts 0 w.heap.size w A c.sl.length k c.sl) := hx.top (Nat.zero_le _)
  clear hx
  have hal : Below w.heap.size w (w.alloc (.cells #[.int .i64 c.ep, .slice A c.sl.length k] 46)) := (Below.refl _ _).alloc (Nat.le_refl _) _
  have hzz : Blk (w.alloc (.cells #[.int .i64 c.ep, .slice A c.sl.length k] 46)) w.heap.size #[.int .i64 c.ep, .slice A c.sl.length k] 46 := heap_alloc_new _ _
  replace R0 := Lib.hid (R0.out.below hal (Nat.le_refl _))
  replace B := Lib.hid (B.out.trans (hal.mono B.out.size))
  have ZA := Lib.hid hzz
  clear hzz
  clear hal
  have hzA : w.heap.size < (w.alloc (.cells #[.int .i64 c.ep, .slice A c.sl.length k] 46)).heap.size := by simp
  have hzA : w.heap.size < (w.alloc (.cells #[.int .i64 c.ep, .slice A c.sl.length k] 46)).heap.size := by simp
  obtain ⟨z0, z1, zf⟩ := two_cells ZA.out
  go_wp2_with fail
  ((with_reducible refine (szCache c.ep _ _ A c.sl.length k c.sl _ R0.out).mono ?_); rintro e w2 ⟨⟨v, rfl, hv⟩, hb⟩)
  replace R0 := Lib.hid (R0.out.below hb (Nat.le_refl _))
  replace ZA := Lib.hid (ZA.out.below hb (Nat.le_refl _))
  replace B := Lib.hid (B.out.trans (hb.mono B.out.size))
  have z2 := hb.size
  clear hb
  clear z0 z1 zf
  rcases hv with hv | ⟨hv, hnt⟩
  · go_wp2
    go_ret
    exact ⟨rfl, B.out⟩
  have hvd : decide (v < 0) = false := by simpa using hv
  have HNT := Lib.hid hnt
  have htt : tot c.sl ≤ 1048576 := by omega
  clear hv hnt
  obtain ⟨xs, HA⟩ : ∃ xs, Hid (keysF c e = xs) := ⟨_, rfl⟩
  have hxl : xs.length ≤ 6 := by rw [← HA.out]; exact (slotOk_iff.1 (keysF_ok e)).1
  obtain ⟨z0, z1, zf⟩ := two_cells ZA.out
  go_wp2_with fail
  ((with_reducible refine (toCache c A k _ _ _ R0.out HNT.out).mono ?_); rintro e w3 ⟨AT, kT, GT, rfl, ho, hw, hb⟩)
  replace R0 := Lib.hid (R0.out.below hb (Nat.le_refl _))
  replace ZA := Lib.hid (ZA.out.below hb (Nat.le_refl _))
  replace B := Lib.hid (B.out.trans (hb.mono B.out.size))
  have z3 := hb.size
  have MT := Lib.hid ho
  have HMT := Lib.hid hw
  clear ho hw hb
  clear z0 z1 zf
  go_wp2_with fail
  ((with_reducible refine (keysS HA.out (MT.out.sts HMT.out)).mono ?_); rintro e w4 ⟨AS, kS, rfl, ho, hb⟩)
  replace R0 := Lib.hid (R0.out.below hb (Nat.le_refl _))
  replace ZA := Lib.hid (ZA.out.below hb (Nat.le_refl _))
  replace MT := Lib.hid (MT.out.below hb (Nat.le_refl _))
  replace B := Lib.hid (B.out.trans (hb.mono B.out.size))
  have z4 := hb.size
  have OS := Lib.hid ho
  clear ho hb
  obtain ⟨z0, z1, zf⟩ := two_cells ZA.out
  go_wp2_with fail
  ((with_reducible refine (toCache c A k _ _ _ R0.out HNT.out).mono ?_); rintro e w5 ⟨AX, kX, GX, rfl, ho, hw, hb⟩)
  replace R0 := Lib.hid (R0.out.below hb (Nat.le_refl _))
  replace ZA := Lib.hid (ZA.out.below hb (Nat.le_refl _))
  replace MT := Lib.hid (MT.out.below hb (Nat.le_refl _))
  replace OS := Lib.hid (OS.out.below hb (Nat.le_refl _))
  replace B := Lib.hid (B.out.trans (hb.mono B.out.size))
  have z5 := hb.size
  have MX := Lib.hid ho
  have HMX := Lib.hid hw
  clear ho hw hb
  clear z0 z1 zf
  have hal : Below w5.heap.size w5 (w5.alloc (.cells #[.int .i64 c.ep, .slice AX c.sl.length kX] 26)) := (Below.refl _ _).alloc (Nat.le_refl _) _
  have hzz : Blk (w5.alloc (.cells #[.int .i64 c.ep, .slice AX c.sl.length kX] 26)) w5.heap.size #[.int .i64 c.ep, .slice AX c.sl.length kX] 26 := heap_alloc_new _ _
  replace R0 := Lib.hid (R0.out.below hal (Nat.le_refl _))
  replace ZA := Lib.hid (ZA.out.below hal (Nat.le_refl _))
  replace MT := Lib.hid (MT.out.below hal (Nat.le_refl _))
  replace OS := Lib.hid (OS.out.below hal (Nat.le_refl _))
  replace MX := Lib.hid (MX.out.below hal (Nat.le_refl _))
  replace B := Lib.hid (B.out.trans (hal.mono B.out.size))
  have ZX := Lib.hid hzz
  clear hzz
  clear hal
  have hzX : w5.heap.size < (w5.alloc (.cells #[.int .i64 c.ep, .slice AX c.sl.length kX] 26)).heap.size := by simp
  obtain ⟨x0, x1, xf⟩ := two_cells ZX.out
  go_wp2_with fail
  ((with_reducible refine (keysX HA.out (MX.out.sts HMX.out)).mono ?_); rintro e w7 ⟨AG, kG, rfl, ho, hb⟩)
  replace R0 := Lib.hid (R0.out.below hb (Nat.le_refl _))
  replace ZA := Lib.hid (ZA.out.below hb (Nat.le_refl _))
  replace MT := Lib.hid (MT.out.below hb (Nat.le_refl _))
  replace OS := Lib.hid (OS.out.below hb (Nat.le_refl _))
  replace MX := Lib.hid (MX.out.below hb (Nat.le_refl _))
  replace ZX := Lib.hid (ZX.out.below hb (Nat.le_refl _))
  replace B := Lib.hid (B.out.trans (hb.mono B.out.size))
  have z7 := hb.size
  have OG := Lib.hid ho
  clear ho hb
  clear x0 x1 xf
  go_wp2_with fail
  ((with_reducible refine (Hlp.eqIntS _ _ _ _ _ _ _ _ _ _ _ _ _ OG.out.ints OS.out.ints).mono ?_); rintro e w8 ⟨rfl, hd⟩)
  have hb0 := drew_below hd
  clear hd
  replace R0 := Lib.hid (R0.out.below hb0 (Nat.le_refl _))
  replace ZA := Lib.hid (ZA.out.below hb0 (Nat.le_refl _))
  replace MT := Lib.hid (MT.out.below hb0 (Nat.le_refl _))
  replace OS := Lib.hid (OS.out.below hb0 (Nat.le_refl _))
  replace MX := Lib.hid (MX.out.below hb0 (Nat.le_refl _))
  replace ZX := Lib.hid (ZX.out.below hb0 (Nat.le_refl _))
  replace OG := Lib.hid (OG.out.below hb0 (Nat.le_refl _))
  replace B := Lib.hid (B.out.trans (hb0.mono B.out.size))
  have z8 := hb0.size
  clear hb0
  rw [decide_eq_true rfl]
  obtain ⟨x0, x1, xf⟩ := two_cells ZX.out
  obtain ⟨z0, z1, zf⟩ := two_cells ZA.out
  have HS : Hid (∀ W', Below w8.heap.size w8 W' → (W'.cell? ⟨w5.heap.size, 0, none⟩ = some (.int .i64 c.ep) ∧ W'.cell? ⟨w5.heap.size, 1, none⟩ = some (.slice AX c.sl.length kX) ∧ W'.cell? ⟨w.heap.size, 0, none⟩ = some (.int .i64 c.ep) ∧ W'.cell? ⟨w.heap.size, 1, none⟩ = some (.slice A c.sl.length k))) := fun W' hb => ⟨(hb.cell (p := ⟨w5.heap.size, 0, none⟩) ZX.out.lt).trans x0, (hb.cell (p := ⟨w5.heap.size, 1, none⟩) ZX.out.lt).trans x1, (hb.cell (p := ⟨w.heap.size, 0, none⟩) ZA.out.lt).trans z0, (hb.cell (p := ⟨w.heap.size, 1, none⟩) ZA.out.lt).trans z1⟩
  have S0 := Lib.hid (HS.out w8.drew (drew_bl (Below.refl _ _)))
  have RD : Hid (Sts 0 w.heap.size w8.drew A c.sl.length k c.sl) := R0.out
  have DD : Hid (Below w8.heap.size w8 w8.drew) := drew_bl (Below.refl _ _)
  clear x0 x1 xf z0 z1 zf
  go_upto_region 10 with (fail)
  go_region_held3 (fun w' => (w'.cell? ⟨w5.heap.size, 0, none⟩ = some (.int .i64 c.ep) ∧ w'.cell? ⟨w5.heap.size, 1, none⟩ = some (.slice AX c.sl.length kX) ∧ w'.cell? ⟨w.heap.size, 0, none⟩ = some (.int .i64 c.ep) ∧ w'.cell? ⟨w.heap.size, 1, none⟩ = some (.slice A c.sl.length k)))
    (first | with_reducible exact S0.out | with_reducible exact s8 | with_reducible exact s9 | fail)
    (first
      | (go_at_call 33; refine (eqCache c _ _ _ _ _ _ _ _ _ _ (MX8.out.sts HMX.out) (M9.out.sts HM9.out)).mono ?_; rintro e wq9 ⟨rfl, hb9⟩; have s9 := HS.out wq9 ((DD.out.trans (hb8.mono DD.out.size)).trans (hb9.mono (Nat.le_trans DD.out.size hb8.size))))
      | (go_at_call 38; refine (toCache c A k 0 _ _ RD.out HNT.out).mono ?_; rintro e wq8 ⟨A9, k9, G9, rfl, ho9, hw9, hb8⟩; have s8 := HS.out wq8 (DD.out.trans (hb8.mono DD.out.size)); have M9 := Lib.hid ho9; have HM9 := Lib.hid hw9; have MX8 := Lib.hid (MX.out.below (DD.out.trans (hb8.mono DD.out.size)) (Nat.le_refl _)))
      | fail)
  have hbq : Below w8.heap.size w8 wq9 := (DD.out.trans (hb8.mono DD.out.size)).trans (hb9.mono (Nat.le_trans DD.out.size hb8.size))
  replace R0 := Lib.hid (R0.out.below hbq (Nat.le_refl _))
  replace ZA := Lib.hid (ZA.out.below hbq (Nat.le_refl _))
  replace MT := Lib.hid (MT.out.below hbq (Nat.le_refl _))
  replace OS := Lib.hid (OS.out.below hbq (Nat.le_refl _))
  replace MX := Lib.hid (MX.out.below hbq (Nat.le_refl _))
  replace ZX := Lib.hid (ZX.out.below hbq (Nat.le_refl _))
  replace OG := Lib.hid (OG.out.below hbq (Nat.le_refl _))
  replace B := Lib.hid (B.out.trans (hbq.mono B.out.size))
  have zq := hbq.size
  clear hbq hb8 hb9 s8 s9 S0 HS RD DD MX8 M9 HM9 ho9 hw9
  obtain ⟨m0, m1, mf⟩ := two_cells ZX.out
  go_wp2_with fail
  ((with_reducible refine (markCache _ _ _ _ c.sl _ _ MX.out (by omega)).mono ?_); rintro e w9 ⟨rfl, hm, hk⟩)
  clear m0 m1 mf
  replace R0 := Lib.hid (R0.out.keptG hk HMX.out (by omega))
  replace ZA := Lib.hid (blk_keptG ZA.out hk HMX.out (by omega))
  replace MT := Lib.hid (MT.out.keptG hk HMX.out HMT.out (by omega))
  replace OS := Lib.hid (own_keptG OS.out hk HMX.out (by omega))
  replace ZX := Lib.hid (blk_keptG ZX.out hk HMX.out (by omega))
  replace OG := Lib.hid (own_keptG OG.out hk HMX.out (by omega))
  have hBs := B.out.size
  replace B := Lib.hid (below_keptG B.out hk HMX.out hBs (by omega))
  have z9 := hk.size
  clear hBs
  replace MX := Lib.hid hm
  clear hm hk
  have hk1 : decide ((1 : Int) + ((tot c.sl : Nat) : Int) < 0) = false := by simp; omega
  go_wp2_with fail
  ((with_reducible refine (Hlp.eqIntS _ _ _ _ _ _ _ _ _ _ _ _ _ OG.out.ints OS.out.ints).mono ?_); rintro e w10 ⟨rfl, hd⟩)
  have hb0 := drew_below hd
  clear hd
  replace R0 := Lib.hid (R0.out.below hb0 (Nat.le_refl _))
  replace ZA := Lib.hid (ZA.out.below hb0 (Nat.le_refl _))
  replace MT := Lib.hid (MT.out.below hb0 (Nat.le_refl _))
  replace OS := Lib.hid (OS.out.below hb0 (Nat.le_refl _))
  replace MX := Lib.hid (MX.out.below hb0 (Nat.le_refl _))
  replace ZX := Lib.hid (ZX.out.below hb0 (Nat.le_refl _))
  replace OG := Lib.hid (OG.out.below hb0 (Nat.le_refl _))
  replace B := Lib.hid (B.out.trans (hb0.mono B.out.size))
  have z10 := hb0.size
  clear hb0
  rw [decide_eq_true rfl]
  go_wp2_with fail
  ((with_reducible refine (Hlp.markIntS _ _ _ _ _ _ 1 _ OG.out (by omega) (by omega) (by omega)).mono ?_); rintro e w11 ⟨rfl, hm, hk⟩)
  replace R0 := Lib.hid (R0.out.kept hk (by omega))
  replace ZA := Lib.hid (Blk.same ZA.out (hk.block _ (by omega)))
  replace MT := Lib.hid (MT.out.kept hk HMT.out (by omega))
  replace OS := Lib.hid (OS.out.kept hk (by omega))
  replace MX := Lib.hid (MX.out.kept hk HMX.out (by omega))
  replace ZX := Lib.hid (Blk.same ZX.out (hk.block _ (by omega)))
  replace B := Lib.hid (B.out.trans (hk.below (by omega)))
  replace OG := Lib.hid hm
  have z11 := Nat.le_of_eq hk.size.symm
  clear hm hk
  have hm1 : decide ((1 : Int) + ((xs.length : Nat) : Int) < 0) = false := by simp; omega
  have hm2 : ((1 : Int) + ((xs.length : Nat) : Int) != 1 + ((xs.length : Nat) : Int)) = false := by simp
  go_wp2_with fail
  ((with_reducible refine (Hlp.heldIntS _ _ _ _ _ 1 _ OG.out.ints (by omega) (by omega) (by omega)).mono ?_); rintro e w' ⟨rfl, rfl⟩)
  obtain ⟨z0, z1, zf⟩ := two_cells ZA.out
  go_wp2_with fail
  ((with_reducible refine (toCache c A k _ _ _ R0.out HNT.out).mono ?_); rintro e w13 ⟨AU, kU, GU, rfl, ho, hw, hb⟩)
  replace R0 := Lib.hid (R0.out.below hb (Nat.le_refl _))
  replace ZA := Lib.hid (ZA.out.below hb (Nat.le_refl _))
  replace MT := Lib.hid (MT.out.below hb (Nat.le_refl _))
  replace OS := Lib.hid (OS.out.below hb (Nat.le_refl _))
  replace MX := Lib.hid (MX.out.below hb (Nat.le_refl _))
  replace ZX := Lib.hid (ZX.out.below hb (Nat.le_refl _))
  replace OG := Lib.hid (OG.out.below hb (Nat.le_refl _))
  replace B := Lib.hid (B.out.trans (hb.mono B.out.size))
  have z13 := hb.size
  have MU := Lib.hid ho
  have HMU := Lib.hid hw
  clear ho hw hb
  clear z0 z1 zf
  go_wp2_with fail
  ((with_reducible refine (keysX HA.out (MU.out.sts HMU.out)).mono ?_); rintro e w14 ⟨AJ, kJ, rfl, ho, hb⟩)
  replace R0 := Lib.hid (R0.out.below hb (Nat.le_refl _))
  replace ZA := Lib.hid (ZA.out.below hb (Nat.le_refl _))
  replace MT := Lib.hid (MT.out.below hb (Nat.le_refl _))
  replace OS := Lib.hid (OS.out.below hb (Nat.le_refl _))
  replace MX := Lib.hid (MX.out.below hb (Nat.le_refl _))
  replace ZX := Lib.hid (ZX.out.below hb (Nat.le_refl _))
  replace OG := Lib.hid (OG.out.below hb (Nat.le_refl _))
  replace MU := Lib.hid (MU.out.below hb (Nat.le_refl _))
  replace B := Lib.hid (B.out.trans (hb.mono B.out.size))
  have z14 := hb.size
  have OJ := Lib.hid ho
  clear ho hb
  go_wp2_with fail
  ((with_reducible refine (Hlp.eqIntS _ _ _ _ _ _ _ _ _ _ _ _ _ OJ.out.ints OS.out.ints).mono ?_); rintro e w15 ⟨rfl, hd⟩)
  have hb0 := drew_below hd
  clear hd
  replace R0 := Lib.hid (R0.out.below hb0 (Nat.le_refl _))
  replace ZA := Lib.hid (ZA.out.below hb0 (Nat.le_refl _))
  replace MT := Lib.hid (MT.out.below hb0 (Nat.le_refl _))
  replace OS := Lib.hid (OS.out.below hb0 (Nat.le_refl _))
  replace MX := Lib.hid (MX.out.below hb0 (Nat.le_refl _))
  replace ZX := Lib.hid (ZX.out.below hb0 (Nat.le_refl _))
  replace OG := Lib.hid (OG.out.below hb0 (Nat.le_refl _))
  replace MU := Lib.hid (MU.out.below hb0 (Nat.le_refl _))
  replace OJ := Lib.hid (OJ.out.below hb0 (Nat.le_refl _))
  replace B := Lib.hid (B.out.trans (hb0.mono B.out.size))
  have z15 := hb0.size
  clear hb0
  rw [decide_eq_true rfl]
  go_wp2_with fail
  ((with_reducible refine (Hlp.heldIntS _ _ _ _ _ 1 _ OG.out.ints (by omega) (by omega) (by omega)).mono ?_); rintro e w' ⟨rfl, rfl⟩)
  go_wp2
  go_ret
  exact ⟨rfl, B.out⟩

end Law8x
end Go.Proofs.Ytmmnpmfkpieoiaa
