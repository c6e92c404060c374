/-
  Contracts of the model's chapter 4: the body of a letter, the letter of a body.
-/
import Derived.Test.YtnjcpbkpcmemeacSp3
import Derived.Test.YtnjcpbkpcmemeacLm
import Derived.BigQuiet
namespace Go.Proofs.Ytnjcpbkpcmemeac
open Go.RowKit
namespace Sp4
open Il Gm Mm Tm Lm Sp2 Sp3

def lenOf : Value → Nat | .slice _ n _ => n | _ => 0

/-- A gathered slice and a bool are returned. -/
def AccPair (xs : List Int) (b : Bool) (w : World) (e : Ending) (w' : World) : Prop := ∃ v, e = .returned (.tuple #[v, .bool b]) ∧ Il.Acc w w' v xs
theorem AccPair.pair {xs : List Int} {b : Bool} {w : World} {e : Ending} {w' : World} (h : AccPair xs b w e w') : PairB xs b w e w' := by
  obtain ⟨v, rfl, ha⟩ := h
  obtain ⟨A, c, rfl, ho⟩ := own_of ha.1
  exact ⟨A, c, rfl, ho, Il.Acc.below ha⟩

/-- What has been gathered of a body: the length, the letter, k zeros. -/
def bodyTo (xs : List Int) (k : Nat) : List Int := ((xs.length : Int) :: xs) ++ List.replicate k 0
theorem bodyTo_len (xs : List Int) (k : Nat) : (bodyTo xs k).length = xs.length + 1 + k := by simp [bodyTo]; omega
theorem bodyTo_succ (xs : List Int) (k : Nat) : bodyTo xs k ++ [0] = bodyTo xs (k + 1) := by
  unfold bodyTo; rw [List.append_assoc, List.replicate_succ']
theorem bodyTo_head {xs : List Int} {k : Nat} (h : k = 4 - xs.length) : bodyTo xs k = headL xs := by subst h; rfl

set_option maxRecDepth 20000 in
theorem letterPack0 (lo hi : Nat) (A : Option Addr) (n c : Nat) (xs : List Int) (w : World) (hx : Ints lo hi w A n c xs) :
    Calls Try.prog 103 #[.slice A n c] w (AccPair (packF xs) (packOk xs) w) := by
  have HX := Lib.hid hx
  have HL := Lib.hid hx.1
  have HE := Lib.hid (acc_new w)
  cases hok : okL xs
  · have hp : packOk xs = false := by simp [packOk, hok]
    rw [packF_no hp, hp]
    clear hx hp
    go_enter Try.func103, Try.ntmps103
    go_wp2_with fail
    ((with_reducible refine (l2List _ _ _ _ _ _ w HX.out).mono ?_); rintro e w' ⟨rfl, rfl⟩)
    rw [hok]
    clear hok
    go_wp2
    go_ret2
    exact ⟨_, rfl, HE.out⟩
  · by_cases h4 : 4 < n
    · have hp : packOk xs = false := by
        cases h : packOk xs
        · rfl
        · have := (packOk_iff.1 h).2; rw [hx.1] at this; omega
      rw [packF_no hp, hp]
      clear hx hp
      go_enter Try.func103, Try.ntmps103
      go_wp2_with fail
      ((with_reducible refine (l2List _ _ _ _ _ _ w HX.out).mono ?_); rintro e w' ⟨rfl, rfl⟩)
      rw [hok]
      clear hok
      go_wp2
      go_ret2
      exact ⟨_, rfl, HE.out⟩
    · have hp : packOk xs = true := packOk_iff.2 ⟨hok, by rw [hx.1]; omega⟩
      have hn4 : n ≤ 4 := by omega
      have HP := Lib.hid hp
      rw [packF_yes hp, hp]
      have HA := Lib.hid (acc_one w (n : Int))
      have IX := Lib.hid (hx.below (B := w.heap.size) (w' := w.alloc (.cells #[.int .i64 (n : Int)] 3)) ((Below.refl _ _).alloc (Nat.le_refl _) _) (Nat.le_refl _))
      clear hx hp HE h4
      go_enter Try.func103, Try.ntmps103
      go_wp2_with fail
      ((with_reducible refine (l2List _ _ _ _ _ _ w HX.out).mono ?_); rintro e w' ⟨rfl, rfl⟩)
      rw [hok]
      clear hok
      go_wp2_with (at_builtin; refine wpList_appAny _ _ _ _ HA.out _ _ _ _ _ _ IX.out (by simp; omega) _ _ rfl rfl rfl rfl ?_; intro v1 w1 hAcc _; obtain ⟨A1, c1, rfl, _⟩ := own_of hAcc.1)
      have e1 : [(n : Int)] ++ xs = bodyTo xs 0 := by simp [bodyTo, HL.out]
      rw [e1] at hAcc
      obtain ⟨m0, hm0⟩ : ∃ m0, xs.length + 1 = m0 := ⟨_, rfl⟩
      have hm2 : (bodyTo xs 0).length = m0 := by rw [bodyTo_len, ← hm0]
      rw [hm2] at hAcc
      rw [hm0]
      have hm3 : n + 1 + 0 ≤ m0 ∧ m0 ≤ n + 1 + 0 := by rw [← hm0, HL.out]; omega
      have HT := Lib.hid hAcc
      clear hAcc e1 hm0 hm2 IX HA
      go_loopw [4] (fun v wr => ∃ (A1 : Option Addr) (c1 k m : Nat), k ≤ 4 - n ∧ v = .slice A1 m c1 ∧ (n + 1 + k ≤ m ∧ m ≤ n + 1 + k) ∧ Hid (Il.Acc w wr (.slice A1 m c1) (bodyTo xs k))) (fun v _ => 5 - lenOf v)
      case atStart => exact ⟨A1, c1, 0, m0, Nat.zero_le _, rfl, hm3, HT.out⟩
      case round =>
        obtain ⟨A2, c2, k, m, hk, rfl, hm, hT⟩ := hrel
        clear HT
        by_cases hlt : k < 4 - n
        · go_wp2_with (at_builtin; refine wpList_app1 _ _ _ _ _ hT.out (by rw [bodyTo_len, HL.out]; omega) _ _ rfl rfl rfl rfl ?_; intro v2 w2 hN _; rw [bodyTo_succ] at hN; obtain ⟨A3, c3, rfl, _⟩ := own_of hN.1)
          have e2 : n + 1 + (k + 1) ≤ (bodyTo xs (k + 1)).length ∧ (bodyTo xs (k + 1)).length ≤ n + 1 + (k + 1) := by rw [bodyTo_len, HL.out]; omega
          generalize (bodyTo xs (k + 1)).length = m2 at hN e2 ⊢
          have HN := Lib.hid hN
          clear hN hT
          go_roundw
          case rel => exact ⟨A3, c3, k + 1, m2, by omega, rfl, e2, HN.out⟩
          case measure => simp [lenOf]; omega
        · have hb := bodyTo_head (xs := xs) (k := k) (by rw [HL.out]; omega)
          have hT1 := hT.out
          rw [hb] at hT1
          have hlen := headL_len (packOk_iff.1 HP.out).2
          have e2 : m = (headL xs).length := by rw [hlen]; have := bodyTo_len xs k; rw [hb, hlen, HL.out] at this; omega
          obtain ⟨A3, c3, e3, ho⟩ := own_of hT1.1
          simp only [Value.slice.injEq] at e3
          obtain ⟨rfl, _, rfl⟩ := e3
          have hge : 5 ≤ (headL xs).length := by omega
          have hle : (headL xs).length ≤ 5 := by omega
          rw [e2] at hT1 ⊢
          have HT1 := Lib.hid hT1
          have HO := Lib.hid ho
          clear hT hT1 ho hb hlen e2
          go_wp2_with fail
          ((with_reducible refine (l3Tag _ _ _ _ _ (headL xs) 1 _ HO.out.ints (headL_ok HP.out) (by omega) (by omega)).mono ?_); rintro e w' ⟨rfl, rfl⟩)
          go_wp2_with (at_builtin; refine wpList_app1 _ _ _ _ _ HT1.out (by omega) _ _ rfl rfl rfl rfl ?_; intro v3 w3 hN _)
          have HN := Lib.hid hN
          clear hN HT1 HO
          go_wp2
          go_ret2
          exact ⟨_, rfl, HN.out⟩

set_option maxRecDepth 20000 in
theorem LetterPack (lo hi : Nat) (A : Option Addr) (n c : Nat) (xs : List Int) (w : World) (hx : Ints lo hi w A n c xs) :
    Calls Try.prog 103 #[.slice A n c] w (PairB (packF xs) (packOk xs) w) :=
  (letterPack0 lo hi A n c xs w hx).mono fun _ _ h => h.pair



end Sp4
end Go.Proofs.Ytnjcpbkpcmemeac
