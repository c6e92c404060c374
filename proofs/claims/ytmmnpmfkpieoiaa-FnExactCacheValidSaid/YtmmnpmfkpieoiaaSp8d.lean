/-
  Contracts of the model's chapter 13: the keys of an epoch, the next epoch.
-/
import Derived.Test.YtmmnpmfkpieoiaaSp8b
import Derived.Test.YtmmnpmfkpieoiaaGk2
import Derived.Deep.RegionLaw
namespace Go.Proofs.Ytmmnpmfkpieoiaa
open Go.RowKit
namespace Sp8
open Il Sl Fo Cm Cs Sg Gm

theorem ints_new {w w' : World} {xs : List Int} {A : Option Addr} {c b : Nat} (h : SkO w' ⟨xs, A, c, b⟩) (hf : ∀ y ∈ fpk ⟨xs, A, c, b⟩, w.heap.size ≤ y) (hb : Below w.heap.size w w') : NewInts w xs (.returned (.slice A xs.length c)) w' := by
  refine ⟨A, c, rfl, ?_, hb⟩
  obtain ⟨l, u, ho, hlu⟩ := h.rng
  dsimp only at ho
  refine ⟨⟨ho.1.1, ho.1.2.1, ho.1.2.2.1, fun hn => ?_⟩, ho.2⟩
  obtain ⟨b', off, e, q1, q2, q3, q4⟩ := ho.1.2.2.2 hn
  exact ⟨b', off, e, hf b' (hlu b' q1 q2), q3, q3, q4⟩
theorem newInts_nil {w w' : World} {A : Option Addr} (hb : Below w.heap.size w w') : NewInts w [] (.returned (.slice A 0 0)) w' := ⟨A, 0, rfl, Own.nil_ (Nat.zero_le _), hb⟩
theorem slot_small {c : Ch} (h : chOk c = true) (k : Nat) : (slAt c.sl k).length ≤ 6 := (slotOk_iff.1 (slots_at (chOk_iff.1 h).1)).1
theorem all_small {c : Ch} (h : chOk c = true) : ∀ x ∈ c.sl, x.length ≤ 1000 := fun x hx => by
  have := (slotOk_iff.1 ((chOk_iff.1 h).1 x hx)).1
  omega
set_option maxRecDepth 20000 in
set_option maxHeartbeats 2000000 in
theorem CacheKeys (c : Ch) (e : Int) (A : Option Addr) (n k lo hi : Nat) (w : World) (hx : Sts lo hi w A n k c.sl) :
    Calls Try.prog 32 #[.agg #[.int .i64 c.ep, .slice A n k], .int .i64 e] w (NewInts w (keysF c e)) := by
  have hk1 := hx.max_
  have hk2 := hx.cap_
  have HL := Lib.hid hx.len_
  unfold maxLen at hk1
  have h0 : Below w.heap.size w (w.alloc (.cells #[.int .i64 c.ep, .slice A n k] 26)) := (Below.refl _ _).alloc (Nat.le_refl _) _
  have HX := Lib.hid ((hx.top (Nat.zero_le _)).below h0 (Nat.le_refl _))
  have HB := Lib.hid h0
  have K0 := Lib.hid (blk_new w #[.int .i64 c.ep, .slice A n k] 26)
  clear hx h0
  cases hok : chOk c
  · have HV := Lib.hid (keys_no e hok)
    go_enter Try.func32, Try.ntmps32
    go_wp2_with fail
    ((with_reducible refine (CacheValid c _ _ _ _ _ _ HX.out).mono ?_); rintro e w1 ⟨rfl, hb1⟩)
    rw [hok]
    have HB1 := Lib.hid (HB.out.trans (hb1.mono HB.out.size))
    clear hb1 hok
    go_wp2
    go_ret
    rw [HV.out]
    exact newInts_nil (HB1.out.alloc HB1.out.size _)
  have HC := Lib.hid (chOk_iff.1 hok).2.1
  have HSM := Lib.hid (slot_small hok)
  have HN3 : Hid (n = 3) := by show n = 3; rw [← HL.out]; exact (chOk_iff.1 hok).2.2
  rcases slotIx_bd c.ep e with hs | ⟨j, hs, hj, -⟩
  · have HV := Lib.hid (keys_wrong hok hs)
    go_enter Try.func32, Try.ntmps32
    go_wp2_with fail
    ((with_reducible refine (CacheValid c _ _ _ _ _ _ HX.out).mono ?_); rintro e w1 ⟨rfl, hb1⟩)
    rw [hok]
    obtain ⟨z0', z1', zf'⟩ := two_cells (K0.out.below hb1 (Nat.le_refl _))
    have HB1 := Lib.hid (HB.out.trans (hb1.mono HB.out.size))
    clear hb1 hok
    go_wp2_with fail
    ((with_reducible refine (l13Slot c e _ _ _ _ HC.out).mono ?_); rintro e w2 ⟨rfl, hb2⟩)
    rw [hs]
    have HB2 := Lib.hid (HB1.out.trans (hb2.mono HB1.out.size))
    clear hb2 hs z0' z1' zf'
    go_wp2
    go_ret
    rw [HV.out]
    exact newInts_nil (HB2.out.alloc HB2.out.size _)
  have HV := Lib.hid (keys_in hok hs)
  have HS := Lib.hid hs
  obtain rfl := HN3.out
  go_enter Try.func32, Try.ntmps32
  go_wp2_with fail
  ((with_reducible refine (CacheValid c _ _ _ _ _ _ HX.out).mono ?_); rintro e w1 ⟨rfl, hb1⟩)
  rw [hok]
  obtain ⟨z0', z1', zf'⟩ := two_cells (K0.out.below hb1 (Nat.le_refl _))
  have HB1 := Lib.hid (HB.out.trans (hb1.mono HB.out.size))
  have K1 := Lib.hid (K0.out.below hb1 (Nat.le_refl _))
  have HX1 := Lib.hid (HX.out.below hb1 (Nat.le_refl _))
  clear hb1 hok
  go_wp2_with fail
  ((with_reducible refine (l13Slot c e _ _ _ _ HC.out).mono ?_); rintro e w2 ⟨rfl, hb2⟩)
  rw [hs]
  have HB2 := Lib.hid (HB1.out.trans (hb2.mono HB1.out.size))
  have K2 := Lib.hid (K1.out.below hb2 (Nat.le_refl _))
  have HX2 := Lib.hid (HX1.out.below hb2 (Nat.le_refl _))
  clear hb2 hs z0' z1' zf'
  have hj0 : decide ((j : Int) < 0) = false := by simp
  go_upto_region 3 with (fail)
  obtain ⟨b, off, B, d, rfl, _, hb2, hbz, cB, iB⟩ := HX2.out.at_ (k := j) (by omega)
  have hsm := HSM.out j
  have IB := Lib.hid iB
  generalize slAt c.sl j = xs at *
  obtain ⟨z0, z1, zf⟩ := two_cells K2.out
  have hwz : w.heap.size < w2.heap.size := K2.out.lt
  have hal : ∀ o, Below w2.heap.size w2 (w2.alloc o) := fun o => (Below.refl _ _).alloc (Nat.le_refl _) _
  have z0a : ∀ o, (w2.alloc o).cell? ⟨w.heap.size, 0, none⟩ = some (.int .i64 c.ep) := fun o => ((hal o).cell (p := ⟨w.heap.size, 0, none⟩) hwz).trans z0
  have z1a : ∀ o, (w2.alloc o).cell? ⟨w.heap.size, 1, none⟩ = some (.slice (some ⟨b, off, none⟩) 3 k) := fun o => ((hal o).cell (p := ⟨w.heap.size, 1, none⟩) hwz).trans z1
  have HALD : Hid (Below w2.heap.size w2 (w2.alloc (.cells #[] 3)).drew) := below_dr (hal _) (d := 1)
  have HDR : Hid (Below w2.heap.size w2 w2.drew) := below_dr (Below.refl _ _) (d := 1)
  have hj3 : (j : Int) < 3 := by omega
  have HZ := Lib.hid (And.intro z0 (And.intro z1 cB))
  clear iB hal K1 HX1 HB1
  go_region_law (first
    | (go_simp; go_at_call 55; refine (l13Slot c e _ _ _ _ HC.out).mono ?_; rintro e' w5 ⟨rfl, hb5⟩; rw [HS.out]
       have hb25 : Below w2.heap.size w2 w5 := by
         first
           | with_reducible exact HALD.out.trans (hb5.mono HALD.out.size)
           | with_reducible exact HDR.out.trans (hb5.mono HDR.out.size)
       have y1 := (hb25.cell (p := ⟨w.heap.size, 1, none⟩) hwz).trans HZ.out.2.1
       have yB := (hb25.cell (p := ⟨b, off + j, none⟩) hbz).trans HZ.out.2.2
       have y1a : ∀ o, (w5.alloc o).cell? ⟨w.heap.size, 1, none⟩ = some (.slice (some ⟨b, off, none⟩) 3 k) := fun o => (((Below.refl w5.heap.size w5).alloc (Nat.le_refl _) o).cell (p := ⟨w.heap.size, 1, none⟩) (Nat.lt_of_lt_of_le hwz hb25.size)).trans y1
       have yBa : ∀ o, (w5.alloc o).cell? ⟨b, off + j, none⟩ = some (.slice B xs.length d) := fun o => (((Below.refl w5.heap.size w5).alloc (Nat.le_refl _) o).cell (p := ⟨b, off + j, none⟩) (Nat.lt_of_lt_of_le hbz hb25.size)).trans yB)
    | (refine step_appD elInt (some w2.heap.size) w5 (.slice (some ⟨w2.heap.size, 0, none⟩) 0 0) 0 [] (.inr ⟨_, rfl, AccV.block (accV_new w2.drew _ _) (hb5.block _ (by simp))⟩) _ _ _ _ _ _ (ints_row (IB.out.below hb25 (Nat.le_refl _))) (ints_one_cell _) (by omega) (.tmp 15) (.tmp 22) rfl rfl (by go_simp) (by go_simp) ?_; intro g6 v6 w6 hd6 hg6 hgr6; rw [List.nil_append, Nat.zero_add] at hd6; obtain ⟨A6, c6, b6, rfl, ho6, hf6⟩ := sk_new (lo := w2.heap.size) hd6 hg6 (Nat.le_refl _) hb25.size
       have hb6 : Below w2.heap.size w2 w6 := hb25.grown hgr6 hb25.size (fun q hq => by simp at hq; omega))
    | (refine step_appD elInt (some w5.heap.size) (w5.alloc (.cells #[] 3)) (.slice (some ⟨w5.heap.size, 0, none⟩) 0 0) 0 [] (.inr ⟨_, rfl, accV_new w5 _ _⟩) _ _ _ _ _ _ (ints_row (IB.out.below (hb25.alloc hb25.size (.cells #[] 3)) (Nat.le_refl _))) (ints_one_cell _) (by omega) (.tmp 15) (.tmp 22) rfl rfl (by go_simp) (by go_simp) ?_; intro g6 v6 w6 hd6 hg6 hgr6; rw [List.nil_append, Nat.zero_add] at hd6; obtain ⟨A6, c6, b6, rfl, ho6, hf6⟩ := sk_new (lo := w2.heap.size) hd6 hg6 hb25.size (hb25.alloc hb25.size _).size
       have hb6 : Below w2.heap.size w2 w6 := (hb25.alloc hb25.size (.cells #[] 3)).grown hgr6 (hb25.alloc hb25.size _).size (fun q hq => by simp at hq; have := hb25.size; omega))
    | fail)
  all_goals
    have HP := Lib.hid (ints_new (w := w) ho6 (fun y hy => by have := hf6 y hy; omega) (HB2.out.trans (hb6.mono HB2.out.size)))
    clear hd6 hg6 hgr6 ho6 hf6 hb6 hb25 hb5 y1 yB y1a yBa z0 z1 z0a z1a cB
    go_wp2
    go_ret
    rw [HV.out]
    exact HP.out

end Sp8
end Go.Proofs.Ytmmnpmfkpieoiaa
