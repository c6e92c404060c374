/-
  Contracts of the library's searches over entries, with a predicate that may turn a block of its own.
-/
import Derived.Test.YtfnbjojaflloaabIm9
import Derived.Shelf.Abstract
namespace Go.Proofs.Ytfnbjojaflloaab
open Go.RowKit Go.Shelf
namespace Im9
open Il Sl Gm Cm Ec Dm Sp9 Sg

/-! ### the library's searches -/
/-- The first of n places at which P holds; St k: what the world is after k calls. -/
def IxPost (n : Nat) (P : Nat → Bool) (St : Nat → World → Prop) (e : Ending) (w' : World) : Prop :=
  (e = .returned (.int .i64 (-1)) ∧ (∀ i, i < n → P i = false) ∧ St n w') ∨ ∃ k : Nat, k < n ∧ e = .returned (.int .i64 (k : Int)) ∧ P k = true ∧ (∀ i, i < k → P i = false) ∧ St (k + 1) w'
def CtPost (n : Nat) (P : Nat → Bool) (St : Nat → World → Prop) (e : Ending) (w' : World) : Prop :=
  (e = .returned (.bool false) ∧ (∀ i, i < n → P i = false) ∧ St n w') ∨ ∃ k : Nat, k < n ∧ e = .returned (.bool true) ∧ P k = true ∧ (∀ i, i < k → P i = false) ∧ St (k + 1) w'
theorem none_succ {P : Nat → Bool} {k : Nat} (h : ∀ i, i < k → P i = false) (h2 : P k = false) : ∀ i, i < k + 1 → P i = false := fun i hi => by
  rcases Nat.lt_or_ge i k with h3 | h3
  · exact h i h3
  · obtain rfl : i = k := by omega
    exact h2
set_option maxRecDepth 20000 in
set_option maxHeartbeats 2000000 in
theorem indexFunc (g : Nat) (ba : Array Value) (A : Option Addr) (n c lo hi : Nat) (es : List En) (w : World) (St : Nat → World → Prop) (P : Nat → Bool) (hn : n ≤ c) (hc : c ≤ 9223372036854775807)
    (eg : ∀ args w, (callFunc g args).run Try.prog w = .ok (.enter g args) w)
    (hE : ∀ k W, St k W → Ens lo hi W A n c es) (h0 : St 0 w)
    (hs : ∀ k W, k < n → St k W → (∀ i, i < k → P i = false) → Calls Try.prog g (ba ++ #[.agg #[.int .i64 (enAt es k).nm, .int .i64 (enAt es k).pu, .int .i64 (enAt es k).wt]]) W fun e w' => e = .returned (.bool (P k)) ∧ St (k + 1) w') :
    Calls Try.prog 72 #[.slice A n c, .func (.func g) ba #[]] w (IxPost n P St) := by
  have HE := Lib.hid hE
  have HS := Lib.hid hs
  have H0 := Lib.hid h0
  clear hE hs h0
  go_enter Try.func72, Try.ntmps72
  go_wp2
  go_loopw [5, 8] (fun _ i wr => ∃ k : Nat, k ≤ n ∧ i = .int .i64 k ∧ Hid (St k wr ∧ ∀ i, i < k → P i = false)) (fun _ i _ => n - (intOf i).toNat)
  case atStart => exact ⟨0, Nat.zero_le _, rfl, H0.out, fun i hi => absurd hi (by omega)⟩
  case round =>
    obtain ⟨k, hk, rfl, hT⟩ := hrel
    clear H0
    by_cases hlt : k < n
    · obtain ⟨b, off, rfl, _, _, _, c0, c1, c2⟩ := (HE.out k wr hT.out.1).at_ hlt
      have hcall := HS.out k wr hlt hT.out.1 hT.out.2
      have HT := Lib.hid hT.out.2
      clear hT
      generalize enAt es k = x at *
      cases hp : P k
      · rw [hp] at hcall
        have HP := Lib.hid (none_succ HT.out hp)
        clear hp HT
        go_wp2_with (go_at_fn g; refine hcall.mono ?_; rintro e w' ⟨rfl, hst⟩)
        have HST := Lib.hid hst
        clear hst hcall
        go_wp2
        go_roundw
        case rel => exact ⟨k + 1, by omega, by go_num, HST.out, HP.out⟩
        case measure => simp [intOf]; omega
      · rw [hp] at hcall
        have HP := Lib.hid hp
        clear hp
        go_wp2_with (go_at_fn g; refine hcall.mono ?_; rintro e w' ⟨rfl, hst⟩)
        have HST := Lib.hid hst
        clear hst hcall
        go_wp2
        go_ret
        exact .inr ⟨k, hlt, rfl, HP.out, HT.out, HST.out⟩
    · obtain rfl : k = n := by omega
      have HT := Lib.hid hT.out
      clear hT
      go_wp2
      go_ret
      exact .inl ⟨rfl, HT.out.2, HT.out.1⟩
set_option maxRecDepth 20000 in
theorem containsFunc (g : Nat) (ba : Array Value) (A : Option Addr) (n c lo hi : Nat) (es : List En) (w : World) (St : Nat → World → Prop) (P : Nat → Bool) (hn : n ≤ c) (hc : c ≤ 9223372036854775807)
    (eg : ∀ args w, (callFunc g args).run Try.prog w = .ok (.enter g args) w)
    (hE : ∀ k W, St k W → Ens lo hi W A n c es) (h0 : St 0 w)
    (hs : ∀ k W, k < n → St k W → (∀ i, i < k → P i = false) → Calls Try.prog g (ba ++ #[.agg #[.int .i64 (enAt es k).nm, .int .i64 (enAt es k).pu, .int .i64 (enAt es k).wt]]) W fun e w' => e = .returned (.bool (P k)) ∧ St (k + 1) w') :
    Calls Try.prog 66 #[.slice A n c, .func (.func g) ba #[]] w (CtPost n P St) := by
  have HC := Lib.hid (indexFunc g ba A n c lo hi es w St P hn hc eg hE h0 hs)
  clear hE hs h0 eg
  go_enter Try.func66, Try.ntmps66
  go_wp2_with fail
  (with_reducible refine HC.out.mono ?_)
  rintro e w1 (⟨rfl, h1, h2⟩ | ⟨k, h1, rfl, h2, h3, h4⟩)
  · have HX := Lib.hid (And.intro h1 h2)
    clear h1 h2
    go_wp2
    go_ret
    exact .inl ⟨rfl, HX.out.1, HX.out.2⟩
  · have HX := Lib.hid (And.intro h2 (And.intro h3 h4))
    clear h2 h3 h4
    go_wp2
    go_ret
    exact .inr ⟨k, h1, rfl, HX.out.1, HX.out.2.1, HX.out.2.2⟩

end Im9
end Go.Proofs.Ytfnbjojaflloaab
