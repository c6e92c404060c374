/-
  Contracts of the laws' helpers on pools and mixes: equal ones are found equal.
-/
import Derived.Test.YtnjcpbkpcmemeacHlp6
import Derived.Test.YtnjcpbkpcmemeacSp6a
import Derived.StillTailTactics
import Derived.Deep.RegionLaw
namespace Go.Proofs.Ytnjcpbkpcmemeac
open Go.RowKit
namespace Hlp7
open Il Pm Pq LawB Hlp5 Hlp6 Sl Sp6

/-- Two pools that hold the same. -/
def TwoPools (l1 h1 l2 h2 : Nat) (w wr : World) (A B : Option Addr) (n c d : Nat) (ps : List Pld) : Prop := Pool l1 h1 wr A n c ps ∧ Pool l2 h2 wr B n d ps ∧ Below w.heap.size w wr

theorem TwoPools.below {l1 h1 l2 h2 : Nat} {w wr w1 : World} {A B : Option Addr} {n c d : Nat} {ps : List Pld} (h : TwoPools l1 h1 l2 h2 w wr A B n c d ps) (hb : Below wr.heap.size wr w1) : TwoPools l1 h1 l2 h2 w w1 A B n c d ps :=
  ⟨h.1.below hb (Nat.le_refl _), h.2.1.below hb (Nat.le_refl _), h.2.2.trans (hb.mono h.2.2.size)⟩
theorem ints_drew {lo hi : Nat} {w : World} {A : Option Addr} {n c : Nat} {xs : List Int} (h : Ints lo hi w A n c xs) : Ints lo hi w.drew A n c xs := h
theorem pool_drew {lo hi : Nat} {w : World} {A : Option Addr} {n c : Nat} {xs : List Pld} (h : Pool lo hi w A n c xs) : Pool lo hi w.drew A n c xs := h

set_option maxRecDepth 20000 in
set_option maxHeartbeats 1000000 in
theorem eqPeeledS (A B : Option Addr) (n c d l1 h1 l2 h2 : Nat) (ps : List Pld) (w : World) (i1 : Pool l1 h1 w A n c ps) (i2 : Pool l2 h2 w B n d ps) :
    Calls Try.prog 28 #[.slice A n c, .slice B n d] w (BoolB true w) := by
  have hc1 := i1.max_
  have hc2 := i1.cap_
  unfold maxLen at hc1
  have HR0 : Hid (TwoPools l1 h1 l2 h2 w w A B n c d ps) := ⟨i1, i2, Below.refl _ _⟩
  clear i1 i2
  go_enter Try.func28, Try.ntmps28
  go_wp2
  go_loopw [5] (fun i wr => ∃ j : Nat, j ≤ n ∧ i = .int .i64 j ∧ Hid (TwoPools l1 h1 l2 h2 w wr A B n c d ps)) (fun i _ => n - (intOf i).toNat)
  case atStart => exact ⟨0, Nat.zero_le _, rfl, HR0.out⟩
  case round =>
    obtain ⟨j, hj, rfl, hR⟩ := hrel
    clear HR0
    by_cases hlj : j < n
    · obtain ⟨b, off, H, ch, G, cg, rfl, _, _, c0, c1, c2, c3, c4, c5, ih, ig⟩ := hR.out.1.at_ hlj
      obtain ⟨b', off', H', ch', G', cg', rfl, _, _, c0', c1', c2', c3', c4', c5', ih', ig'⟩ := hR.out.2.1.at_ hlj
      have IH := Lib.hid ih
      have IG := Lib.hid ig
      have IH' := Lib.hid ih'
      have IG' := Lib.hid ig'
      clear ih ig ih' ig'
      generalize pldAt ps j = p at *
      go_wp2
      go_still_tail 8, (by kernel_rfl)
      change wpList _ _ _ _ _ wr.drew
      clear c0 c1 c2 c3 c4 c5 c0' c1' c2' c3' c4' c5'
      go_wp2_with fail
      ((with_reducible refine (eqPeeled p _ _ _ _ _ _ _ _ _ _ _ _ _ _ _ _ _ (ints_drew IH.out) (ints_drew IG.out) (ints_drew IH'.out) (ints_drew IG'.out)).mono ?_); rintro e w1 ⟨rfl, hb⟩)
      have hb2 : Below wr.heap.size wr w1 := below_drew hb
      have HR2 := Lib.hid (hR.out.below hb2)
      clear hb hb2 hR
      go_wp2
      go_roundw
      case rel => exact ⟨j + 1, by omega, by go_num, HR2.out⟩
      case measure => simp [intOf]; omega
    · go_wp2
      go_ret
      exact ⟨rfl, hR.out.2.2⟩

theorem eqMix (x : Mx) (A B A2 B2 : Option Addr) (n c m d c2 d2 l1 h1 l2 h2 : Nat) (w : World) (i1 : MixR l1 h1 w A n c B m d x) (i2 : MixR l2 h2 w A2 n c2 B2 m d2 x) :
    Calls Try.prog 19 #[.agg #[.int .i64 x.sec, .slice A n c, .slice B m d], .agg #[.int .i64 x.sec, .slice A2 n c2, .slice B2 m d2]] w (BoolB true w) := by
  have h0 : Below w.heap.size w (w.alloc (.cells #[.int .i64 x.sec, .slice A n c, .slice B m d] 26)) := (Below.refl _ _).alloc (Nat.le_refl _) _
  have hb0 := h0.alloc h0.size (.cells #[.int .i64 x.sec, .slice A2 n c2, .slice B2 m d2] 26)
  have I1 := Lib.hid (i1.1.below hb0 (Nat.le_refl _))
  have I2 := Lib.hid (i1.2.below hb0 (Nat.le_refl _))
  have I3 := Lib.hid (i2.1.below hb0 (Nat.le_refl _))
  have I4 := Lib.hid (i2.2.below hb0 (Nat.le_refl _))
  have B0 := Lib.hid hb0
  clear i1 i2 h0 hb0
  go_enter Try.func19, Try.ntmps19
  go_wp2_with fail
  ((with_reducible refine (Hlp.eqIntS _ _ _ _ _ _ _ _ _ _ _ _ _ I1.out I3.out).mono ?_); rintro e w1 ⟨rfl, nn, rfl⟩)
  rw [decide_eq_true rfl]
  go_wp2_with fail
  ((with_reducible refine (eqPeeledS _ _ _ _ _ _ _ _ _ x.pool _ (I2.out.drewN _) (I4.out.drewN _)).mono ?_); rintro e w1 ⟨rfl, hb⟩)
  have B1 := Lib.hid (B0.out.trans ((below_drewN hb).mono B0.out.size))
  clear hb
  go_wp2
  go_ret
  exact ⟨rfl, B1.out⟩

set_option maxRecDepth 20000 in
set_option maxHeartbeats 1000000 in
theorem samePool (A B : Option Addr) (n c d l1 h1 l2 h2 : Nat) (ps : List Pld) (w : World) (i1 : Pool l1 h1 w A n c ps) (i2 : Pool l2 h2 w B n d ps) :
    Calls Try.prog 13 #[.slice A n c, .slice B n d] w (BoolB true w) := by
  have hc1 := i1.max_
  have hc2 := i1.cap_
  unfold maxLen at hc1
  have HR0 : Hid (TwoPools l1 h1 l2 h2 w w A B n c d ps) := ⟨i1, i2, Below.refl _ _⟩
  clear i1 i2
  go_enter Try.func13, Try.ntmps13
  go_wp2
  go_loopw [5] (fun i wr => ∃ j : Nat, j ≤ n ∧ i = .int .i64 j ∧ Hid (TwoPools l1 h1 l2 h2 w wr A B n c d ps)) (fun i _ => n - (intOf i).toNat)
  case atStart => exact ⟨0, Nat.zero_le _, rfl, HR0.out⟩
  case round =>
    obtain ⟨j, hj, rfl, hR⟩ := hrel
    clear HR0
    by_cases hlj : j < n
    · obtain ⟨b, off, H, ch, G, cg, rfl, _, _, c0, c1, c2, c3, c4, c5, ih, ig⟩ := hR.out.1.at_ hlj
      obtain ⟨b', off', H', ch', G', cg', rfl, _, _, c0', c1', c2', c3', c4', c5', ih', ig'⟩ := hR.out.2.1.at_ hlj
      have IH := Lib.hid ih
      have IG := Lib.hid ig
      have IH' := Lib.hid ih'
      have IG' := Lib.hid ig'
      clear ih ig ih' ig'
      generalize pldAt ps j = p at *
      go_wp2
      go_still_tail 8, (by kernel_rfl)
      change wpList _ _ _ _ _ wr.drew
      clear c0 c1 c2 c3 c4 c5 c0' c1' c2' c3' c4' c5'
      go_wp2_with fail
      ((with_reducible refine (samePeeled p _ _ _ _ _ _ _ _ _ _ _ _ _ _ _ _ _ (ints_drew IH.out) (ints_drew IG.out) (ints_drew IH'.out) (ints_drew IG'.out)).mono ?_); rintro e w1 ⟨rfl, hb⟩)
      have hb2 : Below wr.heap.size wr w1 := below_drew hb
      have HR2 := Lib.hid (hR.out.below hb2)
      clear hb hb2 hR
      go_wp2
      go_roundw
      case rel => exact ⟨j + 1, by omega, by go_num, HR2.out⟩
      case measure => simp [intOf]; omega
    · go_wp2
      go_ret
      exact ⟨rfl, hR.out.2.2⟩

theorem sameMix (x : Mx) (A B A2 B2 : Option Addr) (n c m d c2 d2 l1 h1 l2 h2 : Nat) (w : World) (i1 : MixR l1 h1 w A n c B m d x) (i2 : MixR l2 h2 w A2 n c2 B2 m d2 x) :
    Calls Try.prog 12 #[.agg #[.int .i64 x.sec, .slice A n c, .slice B m d], .agg #[.int .i64 x.sec, .slice A2 n c2, .slice B2 m d2]] w (BoolB true w) := by
  have h0 : Below w.heap.size w (w.alloc (.cells #[.int .i64 x.sec, .slice A n c, .slice B m d] 26)) := (Below.refl _ _).alloc (Nat.le_refl _) _
  have hb0 := h0.alloc h0.size (.cells #[.int .i64 x.sec, .slice A2 n c2, .slice B2 m d2] 26)
  have I1 := Lib.hid (i1.1.below hb0 (Nat.le_refl _))
  have I2 := Lib.hid (i1.2.below hb0 (Nat.le_refl _))
  have I3 := Lib.hid (i2.1.below hb0 (Nat.le_refl _))
  have I4 := Lib.hid (i2.2.below hb0 (Nat.le_refl _))
  have B0 := Lib.hid hb0
  clear i1 i2 h0 hb0
  go_enter Try.func12, Try.ntmps12
  go_wp2_with fail
  ((with_reducible refine (Hlp.sameInts _ _ _ _ _ _ _ _ _ _ _ _ _ I1.out I3.out).mono ?_); rintro e w1 ⟨rfl, nn, rfl⟩)
  rw [decide_eq_true rfl]
  go_wp2_with fail
  ((with_reducible refine (samePool _ _ _ _ _ _ _ _ _ x.pool _ (I2.out.drewN _) (I4.out.drewN _)).mono ?_); rintro e w1 ⟨rfl, hb⟩)
  have B1 := Lib.hid (B0.out.trans ((below_drewN hb).mono B0.out.size))
  clear hb
  go_wp2
  go_ret
  exact ⟨rfl, B1.out⟩

end Hlp7
end Go.Proofs.Ytnjcpbkpcmemeac
