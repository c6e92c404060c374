/-
  The laws of chapter 1 by the contracts of the functions that they call: each returns true and writes nothing that was there.
-/
import Derived.Test.YtbglnhgnphhpkaaGrp
import Derived.Test.YtbglnhgnphhpkaaDr1
namespace Go.Proofs.Ytbglnhgnphhpkaa
open Go.RowKit
namespace Law1
open Gm Grp Rd

def TruePost (w : World) (e : Ending) (w' : World) : Prop := e = .returned (.bool true) ∧ Below w.heap.size w w'

theorem exactPublicOf (a : Int) (w : World) :
    Calls Try.prog 11 #[.int .i64 a] w fun e w' => e = .returned (.bool true) ∧ Grown w w' := by
  go_enter Try.func11, Try.ntmps11
  go_wp2_with fail
  ((with_reducible refine (sPublic a w).mono ?_); rintro e w' ⟨rfl, rfl⟩)
  go_wp2_with fail
  ((with_reducible refine (iPublic a w).mono ?_); rintro e w' ⟨rfl, rfl⟩)
  go_wp2
  go_ret
  exact ⟨rfl, Grown.refl _⟩

theorem exactSharedOf (a b : Int) (w : World) :
    Calls Try.prog 12 #[.int .i64 a, .int .i64 b] w fun e w' => e = .returned (.bool true) ∧ Grown w w' := by
  go_enter Try.func12, Try.ntmps12
  go_wp2_with fail
  ((with_reducible refine (sShared a b w).mono ?_); rintro e w' ⟨rfl, rfl⟩)
  go_wp2_with fail
  ((with_reducible refine (iShared a b w).mono ?_); rintro e w' ⟨rfl, rfl⟩)
  go_wp2
  go_ret
  exact ⟨rfl, Grown.refl _⟩

theorem exactFactorOf (a : Int) (w : World) :
    Calls Try.prog 13 #[.int .i64 a] w fun e w' => e = .returned (.bool true) ∧ Grown w w' := by
  go_enter Try.func13, Try.ntmps13
  go_wp2_with fail
  ((with_reducible refine (sFactor a w).mono ?_); rintro e w' ⟨rfl, rfl⟩)
  go_wp2_with fail
  ((with_reducible refine (iFactor a w).mono ?_); rintro e w' ⟨rfl, rfl⟩)
  go_wp2
  go_ret
  exact ⟨rfl, Grown.refl _⟩

theorem exactBlindOf (a b : Int) (w : World) :
    Calls Try.prog 14 #[.int .i64 a, .int .i64 b] w fun e w' => e = .returned (.bool true) ∧ Grown w w' := by
  go_enter Try.func14, Try.ntmps14
  go_wp2_with fail
  ((with_reducible refine (sBlind a b w).mono ?_); rintro e w' ⟨rfl, rfl⟩)
  go_wp2_with fail
  ((with_reducible refine (iBlind a b w).mono ?_); rintro e w' ⟨rfl, rfl⟩)
  go_wp2
  go_ret
  exact ⟨rfl, Grown.refl _⟩

theorem fnShared (A : Option Addr) (n c : Nat) (A1 : Option Addr) (n1 c1 : Nat) (w : World) (h : CodeIs w A n c) :
    Calls Try.prog 3 #[.slice A n c, .slice A1 n1 c1] w (TruePost w) := by
  have HC := Lib.hid h
  clear h
  by_cases hn : 1048576 < n
  · go_enter Try.func3, Try.ntmps3
    go_wp2
    go_ret
    exact ⟨rfl, Below.refl _ _⟩
  by_cases hn1 : 1048576 < n1
  · go_enter Try.func3, Try.ntmps3
    go_wp2
    go_ret
    exact ⟨rfl, Below.refl _ _⟩
  go_enter Try.func3, Try.ntmps3
  go_wp2_with fail
  ((with_reducible refine (DrawPublicOf _ _ _ _ HC.out).mono ?_); rintro e w1 ⟨v, rfl, hv0, hv1, b1⟩)
  have B1 := Lib.hid b1
  clear b1
  go_wp2_with fail
  ((with_reducible refine (iPublic v w1).mono ?_); rintro e w' ⟨rfl, rfl⟩)
  go_wp2_with fail
  ((with_reducible refine (sPublic v w1).mono ?_); rintro e w' ⟨rfl, rfl⟩)
  cases hg : inG v
  · rw [mulG_out1 hg]
    clear hg
    go_wp2
    go_ret
    exact ⟨rfl, B1.out⟩
  have h5 : inG (mulG v 5) = true := mulG_pos hg (by decide)
  have hb := el_in ((n1 : Int) * 7)
  have o0 := inG_iff.1 h5
  have o1 : (mulG v 5 == 0) = false := by simp; omega
  go_wp2_with fail
  ((with_reducible refine (element _ w1 (by omega) (by omega)).mono ?_); rintro e w' ⟨rfl, rfl⟩)
  generalize 1 + (n1 : Int) * 7 % 996 = b at hb ⊢
  go_wp2_with fail
  ((with_reducible refine (iPublic b w1).mono ?_); rintro e w' ⟨rfl, rfl⟩)
  go_wp2_with fail
  ((with_reducible refine (iShared v (mulG b 5) w1).mono ?_); rintro e w' ⟨rfl, rfl⟩)
  have e1 : (mulG v (mulG b 5) == mulG b (mulG v 5)) = true := by
    rw [beq_iff_eq, mulG_assoc hg hb (by decide), mulG_assoc hb hg (by decide), mulG_comm v b]
  have e2 := inG_iff.1 (mulG_pos hg (mulG_pos hb (by decide : inG 5 = true)))
  have e3 : 0 < mulG v (mulG b 5) := by omega
  have e4 : mulG v (mulG b 5) < 997 := by omega
  have E1 := Lib.hid e1
  clear e1 hg hb h5
  go_wp2_with fail
  ((with_reducible refine (iShared b (mulG v 5) w1).mono ?_); rintro e w' ⟨rfl, rfl⟩)
  have e1 := E1.out
  go_wp2
  go_ret
  exact ⟨rfl, B1.out⟩

theorem fnPublic (A : Option Addr) (n c : Nat) (A1 : Option Addr) (n1 c1 : Nat) (w : World) (h : CodeIs w A n c) :
    Calls Try.prog 4 #[.slice A n c, .slice A1 n1 c1] w (TruePost w) := by
  have HC := Lib.hid h
  clear h
  by_cases hn : 1048576 < n
  · go_enter Try.func4, Try.ntmps4
    go_wp2
    go_ret
    exact ⟨rfl, Below.refl _ _⟩
  by_cases hn1 : 1048576 < n1
  · go_enter Try.func4, Try.ntmps4
    go_wp2
    go_ret
    exact ⟨rfl, Below.refl _ _⟩
  go_enter Try.func4, Try.ntmps4
  go_wp2_with fail
  ((with_reducible refine (DrawPublicOf _ _ _ _ HC.out).mono ?_); rintro e w1 ⟨v, rfl, hv0, hv1, b1⟩)
  have B1 := Lib.hid b1
  clear b1
  go_wp2_with fail
  ((with_reducible refine (iPublic v w1).mono ?_); rintro e w' ⟨rfl, rfl⟩)
  go_wp2_with fail
  ((with_reducible refine (sPublic v w1).mono ?_); rintro e w' ⟨rfl, rfl⟩)
  cases hg : inG v
  · rw [mulG_out1 hg]
    clear hg
    go_wp2
    go_ret
    exact ⟨rfl, B1.out⟩
  have h5 : inG (mulG v 5) = true := mulG_pos hg (by decide)
  have o0 := inG_iff.1 h5
  have v0 := inG_iff.1 hg
  have o1 : (mulG v 5 == 0) = false := by simp; omega
  have o2 : mulG v 5 < 997 := by omega
  have hb := el_in (v + (n1 : Int) % 990)
  go_wp2_with fail
  ((with_reducible refine (element _ w1 (by omega) (by omega)).mono ?_); rintro e w' ⟨rfl, rfl⟩)
  generalize 1 + (v + (n1 : Int) % 990) % 996 = b at hb ⊢
  by_cases hbv : b = v
  · subst hbv
    go_wp2_with fail
    ((with_reducible refine (iPublic b w1).mono ?_); rintro e w' ⟨rfl, rfl⟩)
    clear hg hb h5
    go_wp2
    go_ret
    exact ⟨rfl, B1.out⟩
  · have e1 : (b == v) = false := by simpa using hbv
    have e2 : (mulG b 5 == mulG v 5) = false := by
      simp only [beq_eq_false_iff_ne, ne_eq]
      rw [mulG_comm b, mulG_comm v]
      exact fun he => hbv (mulG_inj (by decide) hb hg he)
    clear hg hb h5 hbv
    go_wp2_with fail
    ((with_reducible refine (iPublic b w1).mono ?_); rintro e w' ⟨rfl, rfl⟩)
    go_wp2
    go_ret
    exact ⟨rfl, B1.out⟩

theorem fnSharedOther (A : Option Addr) (n c : Nat) (A1 : Option Addr) (n1 c1 : Nat) (w : World) (h : CodeIs w A n c) :
    Calls Try.prog 5 #[.slice A n c, .slice A1 n1 c1] w (TruePost w) := by
  have HC := Lib.hid h
  clear h
  by_cases hn : 1048576 < n
  · go_enter Try.func5, Try.ntmps5
    go_wp2
    go_ret
    exact ⟨rfl, Below.refl _ _⟩
  by_cases hn1 : 1048576 < n1
  · go_enter Try.func5, Try.ntmps5
    go_wp2
    go_ret
    exact ⟨rfl, Below.refl _ _⟩
  go_enter Try.func5, Try.ntmps5
  go_wp2_with fail
  ((with_reducible refine (DrawSharedOf _ _ _ _ HC.out).mono ?_); rintro e w1 ⟨v, u, rfl, hv0, hv1, hu0, hu1, b1⟩)
  have B1 := Lib.hid b1
  clear b1
  go_wp2_with fail
  ((with_reducible refine (iShared v u w1).mono ?_); rintro e w' ⟨rfl, rfl⟩)
  go_wp2_with fail
  ((with_reducible refine (sShared v u w1).mono ?_); rintro e w' ⟨rfl, rfl⟩)
  cases hg : inG v
  · rw [mulG_out1 hg]
    clear hg
    go_wp2
    go_ret
    exact ⟨rfl, B1.out⟩
  cases hk : inG u
  · rw [mulG_out2 hk]
    clear hg hk
    go_wp2
    go_ret
    exact ⟨rfl, B1.out⟩
  have h5 : inG (mulG v u) = true := mulG_pos hg hk
  have o0 := inG_iff.1 h5
  have u0 := inG_iff.1 hk
  have o1 : (mulG v u == 0) = false := by simp; omega
  have hb := el_in (u + (n1 : Int) % 990)
  go_wp2_with fail
  ((with_reducible refine (element _ w1 (by omega) (by omega)).mono ?_); rintro e w' ⟨rfl, rfl⟩)
  generalize 1 + (u + (n1 : Int) % 990) % 996 = b at hb ⊢
  by_cases hbv : b = u
  · subst hbv
    clear hg hb hk h5
    go_wp2_with fail
    ((with_reducible refine (iShared v b w1).mono ?_); rintro e w' ⟨rfl, rfl⟩)
    go_wp2
    go_ret
    exact ⟨rfl, B1.out⟩
  · have e1 : (b == u) = false := by simpa using hbv
    have e2 : (mulG v b == mulG v u) = false := by
      simp only [beq_eq_false_iff_ne, ne_eq]
      exact fun he => hbv (mulG_inj hg hb hk he)
    clear hg hb hk h5 hbv
    go_wp2_with fail
    ((with_reducible refine (iShared v b w1).mono ?_); rintro e w' ⟨rfl, rfl⟩)
    go_wp2
    go_ret
    exact ⟨rfl, B1.out⟩

theorem fnBlindOther (A : Option Addr) (n c : Nat) (A1 : Option Addr) (n1 c1 : Nat) (w : World) (h : CodeIs w A n c) :
    Calls Try.prog 8 #[.slice A n c, .slice A1 n1 c1] w (TruePost w) := by
  have HC := Lib.hid h
  clear h
  by_cases hn : 1048576 < n
  · go_enter Try.func8, Try.ntmps8
    go_wp2
    go_ret
    exact ⟨rfl, Below.refl _ _⟩
  by_cases hn1 : 1048576 < n1
  · go_enter Try.func8, Try.ntmps8
    go_wp2
    go_ret
    exact ⟨rfl, Below.refl _ _⟩
  go_enter Try.func8, Try.ntmps8
  go_wp2_with fail
  ((with_reducible refine (DrawBlindOf _ _ _ _ HC.out).mono ?_); rintro e w1 ⟨v, u, rfl, hv0, hv1, hu0, hu1, b1⟩)
  have B1 := Lib.hid b1
  clear b1
  go_wp2_with fail
  ((with_reducible refine (iBlind v u w1).mono ?_); rintro e w' ⟨rfl, rfl⟩)
  go_wp2_with fail
  ((with_reducible refine (sBlind v u w1).mono ?_); rintro e w' ⟨rfl, rfl⟩)
  cases hg : inG v
  · rw [mulG_out1 hg]
    clear hg
    go_wp2
    go_ret
    exact ⟨rfl, B1.out⟩
  cases hk : inG u
  · rw [mulG_out2 hk]
    clear hg hk
    go_wp2
    go_ret
    exact ⟨rfl, B1.out⟩
  have h5 : inG (mulG v u) = true := mulG_pos hg hk
  have o0 := inG_iff.1 h5
  have u0 := inG_iff.1 hk
  have o1 : (mulG v u == 0) = false := by simp; omega
  have hb := el_in (u + (n1 : Int) % 990)
  go_wp2_with fail
  ((with_reducible refine (element _ w1 (by omega) (by omega)).mono ?_); rintro e w' ⟨rfl, rfl⟩)
  generalize 1 + (u + (n1 : Int) % 990) % 996 = b at hb ⊢
  have m1 : (mulG v 1 == v) = true := by simp [mulG_one hg]
  by_cases hbv : b = u
  · subst hbv
    clear hg hb hk h5
    go_wp2_with fail
    ((with_reducible refine (iBlind v b w1).mono ?_); rintro e w' ⟨rfl, rfl⟩)
    go_wp2_with fail
    ((with_reducible refine (iBlind v 1 w1).mono ?_); rintro e w' ⟨rfl, rfl⟩)
    go_wp2
    go_ret
    exact ⟨rfl, B1.out⟩
  · have e1 : (b == u) = false := by simpa using hbv
    have e2 : (mulG v b == mulG v u) = false := by
      simp only [beq_eq_false_iff_ne, ne_eq]
      exact fun he => hbv (mulG_inj hg hb hk he)
    clear hg hb hk h5 hbv
    go_wp2_with fail
    ((with_reducible refine (iBlind v b w1).mono ?_); rintro e w' ⟨rfl, rfl⟩)
    go_wp2_with fail
    ((with_reducible refine (iBlind v 1 w1).mono ?_); rintro e w' ⟨rfl, rfl⟩)
    go_wp2
    go_ret
    exact ⟨rfl, B1.out⟩

theorem fnBlindShared (A : Option Addr) (n c : Nat) (A1 : Option Addr) (n1 c1 : Nat) (w : World) (h : CodeIs w A n c) :
    Calls Try.prog 6 #[.slice A n c, .slice A1 n1 c1] w (TruePost w) := by
  have HC := Lib.hid h
  clear h
  by_cases hn : 1048576 < n
  · go_enter Try.func6, Try.ntmps6
    go_wp2
    go_ret
    exact ⟨rfl, Below.refl _ _⟩
  by_cases hn1 : 1048576 < n1
  · go_enter Try.func6, Try.ntmps6
    go_wp2
    go_ret
    exact ⟨rfl, Below.refl _ _⟩
  go_enter Try.func6, Try.ntmps6
  go_wp2_with fail
  ((with_reducible refine (DrawBlindOf _ _ _ _ HC.out).mono ?_); rintro e w1 ⟨v, u, rfl, hv0, hv1, hu0, hu1, b1⟩)
  have B1 := Lib.hid b1
  clear b1
  go_wp2_with fail
  ((with_reducible refine (iBlind v u w1).mono ?_); rintro e w' ⟨rfl, rfl⟩)
  go_wp2_with fail
  ((with_reducible refine (sBlind v u w1).mono ?_); rintro e w' ⟨rfl, rfl⟩)
  cases hg : inG v
  · rw [mulG_out1 hg]
    clear hg
    go_wp2
    go_ret
    exact ⟨rfl, B1.out⟩
  cases hk : inG u
  · rw [mulG_out2 hk]
    clear hg hk
    go_wp2
    go_ret
    exact ⟨rfl, B1.out⟩
  have h5 : inG (mulG v u) = true := mulG_pos hg hk
  have o0 := inG_iff.1 h5
  have o1 : (mulG v u == 0) = false := by simp; omega
  have hb := el_in ((n1 : Int) * 13)
  go_wp2_with fail
  ((with_reducible refine (element _ w1 (by omega) (by omega)).mono ?_); rintro e w' ⟨rfl, rfl⟩)
  generalize 1 + (n1 : Int) * 13 % 996 = x at hb ⊢
  have e1 : (mulG x (mulG v u) == mulG (mulG x u) v) = true := by
    rw [beq_iff_eq, mulG_comm v u, mulG_assoc hb hk hg]
  have e2 : (mulG x (mulG v u) == mulG (mulG x v) u) = true := by
    rw [beq_iff_eq, mulG_assoc hb hg hk]
  have E1 := Lib.hid e1
  have E2 := Lib.hid e2
  clear e1 e2 hg hb hk h5
  go_wp2_with fail
  ((with_reducible refine (iShared x (mulG v u) w1).mono ?_); rintro e w' ⟨rfl, rfl⟩)
  go_wp2_with fail
  ((with_reducible refine (iBlind x u w1).mono ?_); rintro e w' ⟨rfl, rfl⟩)
  go_wp2_with fail
  ((with_reducible refine (iShared (mulG x u) v w1).mono ?_); rintro e w' ⟨rfl, rfl⟩)
  have e1 := E1.out
  go_wp2_with fail
  ((with_reducible refine (iShared x v w1).mono ?_); rintro e w' ⟨rfl, rfl⟩)
  clear e1
  go_wp2_with fail
  ((with_reducible refine (iBlind (mulG x v) u w1).mono ?_); rintro e w' ⟨rfl, rfl⟩)
  have e2 := E2.out
  go_wp2
  go_ret
  exact ⟨rfl, B1.out⟩

theorem fnBlindOrder (A : Option Addr) (n c : Nat) (A1 : Option Addr) (n1 c1 : Nat) (w : World) (h : CodeIs w A n c) :
    Calls Try.prog 7 #[.slice A n c, .slice A1 n1 c1] w (TruePost w) := by
  have HC := Lib.hid h
  clear h
  by_cases hn : 1048576 < n
  · go_enter Try.func7, Try.ntmps7
    go_wp2
    go_ret
    exact ⟨rfl, Below.refl _ _⟩
  by_cases hn1 : 1048576 < n1
  · go_enter Try.func7, Try.ntmps7
    go_wp2
    go_ret
    exact ⟨rfl, Below.refl _ _⟩
  go_enter Try.func7, Try.ntmps7
  go_wp2_with fail
  ((with_reducible refine (DrawBlindOf _ _ _ _ HC.out).mono ?_); rintro e w1 ⟨v, u, rfl, hv0, hv1, hu0, hu1, b1⟩)
  have B1 := Lib.hid b1
  clear b1
  go_wp2_with fail
  ((with_reducible refine (iBlind v u w1).mono ?_); rintro e w' ⟨rfl, rfl⟩)
  go_wp2_with fail
  ((with_reducible refine (sBlind v u w1).mono ?_); rintro e w' ⟨rfl, rfl⟩)
  cases hg : inG v
  · rw [mulG_out1 hg]
    clear hg
    go_wp2
    go_ret
    exact ⟨rfl, B1.out⟩
  cases hk : inG u
  · rw [mulG_out2 hk]
    clear hg hk
    go_wp2
    go_ret
    exact ⟨rfl, B1.out⟩
  have h5 : inG (mulG v u) = true := mulG_pos hg hk
  have o0 := inG_iff.1 h5
  have o1 : (mulG v u == 0) = false := by simp; omega
  have hb := el_in ((n1 : Int) * 11)
  go_wp2_with fail
  ((with_reducible refine (element _ w1 (by omega) (by omega)).mono ?_); rintro e w' ⟨rfl, rfl⟩)
  generalize 1 + (n1 : Int) * 11 % 996 = x at hb ⊢
  have e1 : (mulG (mulG v u) x == mulG (mulG v x) u) = true := by
    rw [beq_iff_eq, ← mulG_assoc hg hk hb, ← mulG_assoc hg hb hk, mulG_comm u x]
  have E1 := Lib.hid e1
  clear e1 hg hb hk h5
  go_wp2_with fail
  ((with_reducible refine (iBlind (mulG v u) x w1).mono ?_); rintro e w' ⟨rfl, rfl⟩)
  go_wp2_with fail
  ((with_reducible refine (iBlind v x w1).mono ?_); rintro e w' ⟨rfl, rfl⟩)
  go_wp2_with fail
  ((with_reducible refine (iBlind (mulG v x) u w1).mono ?_); rintro e w' ⟨rfl, rfl⟩)
  have e1 := E1.out
  go_wp2
  go_ret
  exact ⟨rfl, B1.out⟩

theorem fnFactor (A : Option Addr) (n c : Nat) (w : World) (h : CodeIs w A n c) :
    Calls Try.prog 9 #[.slice A n c] w (TruePost w) := by
  have HC := Lib.hid h
  clear h
  by_cases hn : 1048576 < n
  · go_enter Try.func9, Try.ntmps9
    go_wp2
    go_ret
    exact ⟨rfl, Below.refl _ _⟩
  go_enter Try.func9, Try.ntmps9
  go_wp2_with fail
  ((with_reducible refine (DrawFactorOf _ _ _ _ HC.out).mono ?_); rintro e w1 ⟨v, rfl, hv0, hv1, b1⟩)
  have B1 := Lib.hid b1
  clear b1
  go_wp2_with fail
  ((with_reducible refine (iFactor v w1).mono ?_); rintro e w' ⟨rfl, rfl⟩)
  go_wp2_with fail
  ((with_reducible refine (sFactor v w1).mono ?_); rintro e w' ⟨rfl, rfl⟩)
  cases hg : inG v
  · rw [facG_out hg]
    have hz := inG_no.1 hg
    clear hg
    by_cases h1 : v < 1
    · go_wp2
      go_ret
      exact ⟨rfl, B1.out⟩
    · have h2 : 997 ≤ v := by omega
      have h3 : 1 ≤ v := by omega
      clear h1 hz
      go_wp2
      go_ret
      exact ⟨rfl, B1.out⟩
  have v0 := inG_iff.1 hg
  have o0 := inG_iff.1 (facG_pos hg)
  have v1 : 1 ≤ v := by omega
  have v2 : v < 997 := by omega
  have o1 : 1 ≤ facG v := by omega
  have o2 : facG v < 997 := by omega
  clear hg v0 o0
  go_wp2
  go_ret
  exact ⟨rfl, B1.out⟩

theorem fnFactorOther (A : Option Addr) (n c : Nat) (A1 : Option Addr) (n1 c1 : Nat) (w : World) (h : CodeIs w A n c) :
    Calls Try.prog 10 #[.slice A n c, .slice A1 n1 c1] w (TruePost w) := by
  have HC := Lib.hid h
  clear h
  by_cases hn : 1048576 < n
  · go_enter Try.func10, Try.ntmps10
    go_wp2
    go_ret
    exact ⟨rfl, Below.refl _ _⟩
  by_cases hn1 : 1048576 < n1
  · go_enter Try.func10, Try.ntmps10
    go_wp2
    go_ret
    exact ⟨rfl, Below.refl _ _⟩
  go_enter Try.func10, Try.ntmps10
  go_wp2_with fail
  ((with_reducible refine (DrawFactorOf _ _ _ _ HC.out).mono ?_); rintro e w1 ⟨v, rfl, hv0, hv1, b1⟩)
  have B1 := Lib.hid b1
  clear b1
  go_wp2_with fail
  ((with_reducible refine (iFactor v w1).mono ?_); rintro e w' ⟨rfl, rfl⟩)
  go_wp2_with fail
  ((with_reducible refine (sFactor v w1).mono ?_); rintro e w' ⟨rfl, rfl⟩)
  cases hg : inG v
  · rw [facG_out hg]
    clear hg
    go_wp2
    go_ret
    exact ⟨rfl, B1.out⟩
  have v0 := inG_iff.1 hg
  have o0 := inG_iff.1 (facG_pos hg)
  have o1 : (facG v == 0) = false := by simp; omega
  have hb := el_in (v + (n1 : Int) % 990)
  go_wp2_with fail
  ((with_reducible refine (element _ w1 (by omega) (by omega)).mono ?_); rintro e w' ⟨rfl, rfl⟩)
  generalize 1 + (v + (n1 : Int) % 990) % 996 = b at hb ⊢
  by_cases hbv : b = v
  · subst hbv
    clear hg hb
    go_wp2
    go_ret
    exact ⟨rfl, B1.out⟩
  · have e1 : (b == v) = false := by simpa using hbv
    have e2 : (facG b != facG v) = true := by
      simp only [bne_iff_ne, ne_eq]
      exact fun he => hbv (facG_inj hb hg he)
    clear hg hb hbv
    go_wp2_with fail
    ((with_reducible refine (iFactor b w1).mono ?_); rintro e w' ⟨rfl, rfl⟩)
    go_wp2
    go_ret
    exact ⟨rfl, B1.out⟩

end Law1
end Go.Proofs.Ytbglnhgnphhpkaa
