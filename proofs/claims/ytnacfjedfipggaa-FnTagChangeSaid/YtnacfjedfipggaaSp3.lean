/-
  Contracts of the model's chapter 3: tags.
-/
import Derived.Test.YtnacfjedfipggaaSp2
import Derived.Test.YtnacfjedfipggaaTm
namespace Go.Proofs.Ytnacfjedfipggaa
open Go.RowKit
namespace Sp3
open Il Gm Mm Tm Sp2

set_option maxRecDepth 20000 in
theorem l3Tag (lo hi : Nat) (A : Option Addr) (n c : Nat) (xs : List Int) (key : Int) (w : World) (hx : Ints lo hi w A n c xs) (hok : okL xs = true) (h1 : 1 ≤ key) (h2 : key ≤ 996) :
    Calls Try.prog 52 #[.int .i64 key, .slice A n c] w fun e w' => e = .returned (.int .i64 (tagL key xs)) ∧ w = w' := by
  have HL := Lib.hid hx.1
  have HX := Lib.hid hx
  have HK := Lib.hid hok
  have hn : n ≤ 24 := by rw [← hx.1]; exact (okL_iff.1 hok).2
  have hi0 : (3 * key + 41 * (n : Int) + 1) % 991 = tagTo key xs 0 := by rw [tagTo_zero, hx.1]; rfl
  have HI := Lib.hid hi0
  clear hx hok hi0
  go_enter Try.func52, Try.ntmps52
  go_wp2
  rw [HI.out]
  go_loop [5, 6] (fun t i => ∃ k : Nat, k ≤ n ∧ i = .int .i64 k ∧ t = .int .i64 (tagTo key xs k)) (fun _ i => n - (intOf i).toNat)
  case atStart => exact ⟨0, Nat.zero_le _, rfl, rfl⟩
  case round =>
    obtain ⟨k, hk, rfl, rfl⟩ := hrel
    have hb := tagTo_bd key xs k
    by_cases hlt : k < n
    · obtain ⟨b, off, rfl, _, _, hcx⟩ := HX.out.at_ hlt
      have hbd := okL_at HK.out (k := k) (by rw [HL.out]; exact hlt)
      have HN := Lib.hid (tagTo_succ key (xs := xs) (k := k) (by rw [HL.out]; exact hlt))
      generalize xs.getD k 0 = x at hcx hbd HN
      generalize tagTo key xs k = t at hb HN ⊢
      go_wp2
      go_round
      case rel => exact ⟨k + 1, by omega, by go_num, by rw [HN.out]⟩
      case measure => simp [intOf]; omega
    · have hfin : tagTo key xs k = tagL key xs := tagTo_all key (by rw [HL.out]; omega)
      rw [hfin]
      clear hfin hb
      go_wp2
      go_ret
      exact ⟨rfl, rfl⟩

set_option maxRecDepth 20000 in
theorem tagOf0 (lo hi : Nat) (A : Option Addr) (n c : Nat) (xs : List Int) (key : Int) (w : World) (hx : Ints lo hi w A n c xs) :
    Calls Try.prog 33 #[.int .i64 key, .slice A n c] w fun e w' => e = .returned (.int .i64 (tagF key xs)) ∧ w = w' := by
  have HX := Lib.hid hx
  clear hx
  cases hg : inG key
  · rw [tagF_no1 hg]
    go_enter Try.func33, Try.ntmps33
    go_wp2_with fail
    ((with_reducible refine (l1Is key w).mono ?_); rintro e w' ⟨rfl, rfl⟩)
    rw [hg]
    clear hg
    go_wp2
    go_ret
    exact ⟨rfl, rfl⟩
  · cases hok : okL xs
    · rw [tagF_no2 hok]
      go_enter Try.func33, Try.ntmps33
      go_wp2_with fail
      ((with_reducible refine (l1Is key w).mono ?_); rintro e w' ⟨rfl, rfl⟩)
      rw [hg]
      clear hg
      go_wp2_with fail
      ((with_reducible refine (l2List _ _ _ _ _ _ w HX.out).mono ?_); rintro e w' ⟨rfl, rfl⟩)
      rw [hok]
      clear hok
      go_wp2
      go_ret
      exact ⟨rfl, rfl⟩
    · rw [tagF_yes hg hok]
      have hk := inG_iff.1 hg
      have HOK := Lib.hid hok
      go_enter Try.func33, Try.ntmps33
      go_wp2_with fail
      ((with_reducible refine (l1Is key w).mono ?_); rintro e w' ⟨rfl, rfl⟩)
      rw [hg]
      clear hg
      go_wp2_with fail
      ((with_reducible refine (l2List _ _ _ _ _ _ w HX.out).mono ?_); rintro e w' ⟨rfl, rfl⟩)
      rw [hok]
      clear hok
      go_wp2_with fail
      ((with_reducible refine (l3Tag _ _ _ _ _ _ key w HX.out HOK.out hk.1 hk.2).mono ?_); rintro e w' ⟨rfl, rfl⟩)
      go_wp2
      go_ret
      exact ⟨rfl, rfl⟩

set_option maxRecDepth 20000 in
theorem TagOf (lo hi : Nat) (A : Option Addr) (n c : Nat) (xs : List Int) (key : Int) (w : World) (hx : Ints lo hi w A n c xs) :
    Calls Try.prog 33 #[.int .i64 key, .slice A n c] w (IntB (tagF key xs) w) :=
  (tagOf0 lo hi A n c xs key w hx).mono fun _ _ ⟨he, hw⟩ => ⟨he, hw ▸ Below.refl _ _⟩

set_option maxRecDepth 20000 in
theorem tagCheck0 (lo hi : Nat) (A : Option Addr) (n c : Nat) (xs : List Int) (key tag : Int) (w : World) (hx : Ints lo hi w A n c xs) :
    Calls Try.prog 36 #[.int .i64 key, .slice A n c, .int .i64 tag] w fun e w' => e = .returned (.bool (tagC key xs tag)) ∧ w = w' := by
  have HX := Lib.hid hx
  clear hx
  by_cases h0 : 0 ≤ tag
  · by_cases he : tagF key xs = tag
    · have hb : (tagF key xs == tag) = true := by simpa using he
      rw [tagC_iff.2 ⟨h0, he⟩]
      clear he
      go_enter Try.func36, Try.ntmps36
      go_wp2_with fail
      ((with_reducible refine (tagOf0 _ _ _ _ _ _ key w HX.out).mono ?_); rintro e w' ⟨rfl, rfl⟩)
      go_wp2
      go_ret
      exact ⟨rfl, rfl⟩
    · have hb : (tagF key xs == tag) = false := by simpa using he
      rw [tagC_no he]
      clear he
      go_enter Try.func36, Try.ntmps36
      go_wp2_with fail
      ((with_reducible refine (tagOf0 _ _ _ _ _ _ key w HX.out).mono ?_); rintro e w' ⟨rfl, rfl⟩)
      go_wp2
      go_ret
      exact ⟨rfl, rfl⟩
  · have hd : decide (0 ≤ tag) = false := by simpa using h0
    have hc : tagC key xs tag = false := by simp [tagC, h0]
    rw [hc]
    clear h0 hc
    go_enter Try.func36, Try.ntmps36
    go_wp2
    go_ret
    exact ⟨rfl, rfl⟩

set_option maxRecDepth 20000 in
theorem TagCheck (lo hi : Nat) (A : Option Addr) (n c : Nat) (xs : List Int) (key tag : Int) (w : World) (hx : Ints lo hi w A n c xs) :
    Calls Try.prog 36 #[.int .i64 key, .slice A n c, .int .i64 tag] w (BoolB (tagC key xs tag) w) :=
  (tagCheck0 lo hi A n c xs key tag w hx).mono fun _ _ ⟨he, hw⟩ => ⟨he, hw ▸ Below.refl _ _⟩

end Sp3
end Go.Proofs.Ytnacfjedfipggaa
